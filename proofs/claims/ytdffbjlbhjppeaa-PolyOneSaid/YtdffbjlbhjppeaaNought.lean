/- 'aditlaw03.PolyNought' returns true at every input and writes nothing that was there: the walk. No condition. -/
import Derived.Test.YtdffbjlbhjppeaaAliveThree
import Derived.Test.YtdffbjlbhjppeaaQuietB
import Derived.Test.YtdffbjlbhjppeaaArr
namespace Go.Proofs.Ytdffbjlbhjppeaa
namespace PolyNought
open Go.ChangeShapes Go.WideShapes Go.ChangeAt Go.RowKit
open Num Mem Words PolyN Chacha Quiet Poly

/-- the key: noughts, and a half behind them -/
def keyOf (half : Nat → Nat) (k i : Nat) : Nat := if 16 ≤ i ∧ i < 16 + k then half (i - 16) else 0
theorem keyOf_lt {half : Nat → Nat} (h : ∀ i, half i < 256) (k i : Nat) : keyOf half k i < 256 := by
  have := h (i - 16)
  unfold keyOf
  split <;> omega
theorem keyOf_set (half : Nat → Nat) (k i : Nat) : (if i = 16 + k then half k else keyOf half k i) = keyOf half (k + 1) i := by
  unfold keyOf
  by_cases e : i = 16 + k
  · subst e
    rw [if_pos rfl, if_pos ⟨by omega, by omega⟩, Nat.add_sub_cancel_left]
  · rw [if_neg e]
    by_cases h : 16 ≤ i ∧ i < 16 + k
    · rw [if_pos h, if_pos ⟨h.1, by omega⟩]
    · rw [if_neg h, if_neg (by omega)]
theorem cl_nought (half : Nat → Nat) : ∀ i, i < 16 → cl (keyOf half 16) i = 0 := by
  intro i hi
  have h : keyOf half 16 i = 0 := by unfold keyOf; rw [if_neg (by omega)]
  unfold cl
  rw [h]
  simp
theorem rk_nought (half : Nat → Nat) : rk (keyOf half 16) = 0 := by
  have e : ∀ i, i < 5 → fac (keyOf half 16) i = (fun _ => 0) i := by
    intro i _
    unfold fac sp
    rw [show le (fun i => if i < 16 then cl (keyOf half 16) i else 0) 0 17 = le (fun _ => 0) 0 17 from le_congr 17 fun i _ => by
      show (if 0 + i < 16 then cl (keyOf half 16) (0 + i) else 0) = 0
      split
      · rename_i h
        exact cl_nought half _ h
      · rfl]
    rw [show le (fun _ => 0) 0 17 = 0 by decide +kernel, Nat.zero_div]
  unfold rk
  rw [lv_congr 5 e]
  rfl
theorem stp_nought (a x : Nat) : stp 0 a x = 0 := by
  unfold stp
  rw [Nat.mul_zero, Nat.zero_mod]
theorem mac_nought (pad : Bool) : ∀ (m : Nat) (f : Nat → Nat), mac 0 pad 0 f m = 0 := by
  intro m
  induction m using Nat.strongRecOn with
  | ind m ih =>
    intro f
    rcases Nat.eq_zero_or_pos m with rfl | hm
    · rfl
    · rw [mac_step 0 pad 0 f m hm, stp_nought]
      exact ih (m - 16) (by omega) _
theorem byteAt_le (f : Nat → Nat) (hf : ∀ i, f i < 256) (p n i : Nat) (h : i < n) : byteAt (le f p n) i = f (p + i) := by
  have h1 := le_part (fun j => f (p + j)) (fun j => hf _) n i 1 (by omega)
  rw [show le (fun j => f (p + j)) i 1 = f (p + i) by simp [le], show le (fun j => f (p + j)) 0 n = le f p n from le_congr n fun j _ => by show f (p + (0 + j)) = f (p + j); rw [Nat.zero_add]] at h1
  rw [h1]
  rfl
theorem nought (half : Nat → Nat) (hh : ∀ i, half i < 256) (f : Nat → Nat) (n : Nat) : ∀ i, i < 16 → sumAt (keyOf half 16) f n i = half i := by
  intro i hi
  unfold sumAt tag
  rw [rk_nought, mac_nought, Nat.zero_add, byteAt_le _ (keyOf_lt hh 16) 16 16 i hi]
  unfold keyOf
  rw [if_pos ⟨by omega, by omega⟩, Nat.add_sub_cancel_left]

def zeros : Nat → Nat := fun _ => 0
theorem zeros_lt (i : Nat) : zeros i < 256 := by unfold zeros; omega

set_option maxRecDepth 100000 in
theorem big (half : Nat → Nat) (A : Option Addr) (n c : Nat) (h : 5000 < n) (w : World) :
    Calls Try.prog 5 #[.agg (byteCells half 16).toArray, .slice A n c] w fun e w' => e = .returned (.bool true) ∧ Below w.heap.size w w' := by
  have hd : decide ((5000 : Int) < (n : Int)) = true := decide_eq_true (by omega)
  rw [byteCells_lit16]
  go_enter Try.func5, Try.ntmps5
  go_wp2_with fail
  refine (alive_any _).mono ?_
  rintro e w1 ⟨rfl, hb1⟩
  have HB := Lib.hid (below_trans (below_alloc (Below.refl w.heap.size w) _) hb1)
  clear hb1
  go_wp2_with fail
  go_ret
  exact ⟨rfl, HB.out⟩

set_option maxRecDepth 100000 in
theorem fits (half : Nat → Nat) (hh : ∀ i, half i < 256) (A : Option Addr) (n c : Nat) (f : Nat → Nat) (hf : ∀ i, f i < 256) (h : n ≤ 5000) (hc : n ≤ c) (w : World) (hA : Rd w A n f) :
    Calls Try.prog 5 #[.agg (byteCells half 16).toArray, .slice A n c] w fun e w' => e = .returned (.bool true) ∧ Below w.heap.size w w' := by
  have hd : decide ((5000 : Int) < (n : Int)) = false := decide_eq_false (by omega)
  have HH := Lib.hid hh
  have HF := Lib.hid hf
  have HA := Lib.hid hA
  clear hh hf hA
  rw [byteCells_lit16]
  go_enter Try.func5, Try.ntmps5
  go_upto_region 4 with fail
  refine cut_world (fun W => Whole W w.heap.size 25 (byteCells half 16).toArray ∧ Whole W (w.heap.size + 1) 22 (byteCells (keyOf half 0) 32).toArray ∧ Below w.heap.size w W) ⟨?_, ?_, ?_⟩ ?_
  · rw [byteCells_lit16]
    exact (whole_new _ _ rfl).alloc _
  · rw [byteCells_congr (f := keyOf half 0) (g := fun _ => 0) (n := 32) (fun i _ => by unfold keyOf; rw [if_neg (by omega)])]
    exact whole_new _ _ (by simp)
  · exact below_alloc (below_alloc (Below.refl _ _) _) _
  rintro W ⟨k1, k2, kb⟩
  have K1 := Lib.hid k1
  have K2 := Lib.hid k2
  have KB := Lib.hid kb
  clear k1 k2 kb
  generalize hB : w.heap.size = B at K1 K2 KB ⊢
  go_wp2_with fail
  go_loopw [6] (fun i wr => ∃ k : Nat, k ≤ 16 ∧ i = .int .i64 k ∧ Whole wr B 25 (byteCells half 16).toArray ∧ Whole wr (B + 1) 22 (byteCells (keyOf half k) 32).toArray ∧ Below B w wr) (fun i _ => 16 - (intOf i).toNat)
  case atStart => exact ⟨0, by omega, rfl, K1.out, K2.out, KB.out⟩
  case round =>
    obtain ⟨k, hk, rfl, q1, q2, qb⟩ := hrel
    have Q1 := Lib.hid q1
    have Q2 := Lib.hid q2
    have QB := Lib.hid qb
    by_cases hlt : k < 16
    · have c1 := q1.cell k
      have c2 := q2.cell (16 + k)
      have f2 := q2.free (16 + k)
      rw [List.getElem?_toArray, byteCells_get _ _ _ (by omega)] at c1 c2
      clear q1 q2 qb
      go_wp2_with fail
      go_roundw
      case rel =>
        refine ⟨k + 1, by omega, by go_num, Q1.out.far (by simp) _, ?_, QB.out.setCell (by simp) _⟩
        have h := Q2.out.put (16 + k) (.int .u8 (half k : Nat))
        rw [byteCells_set, byteCells_congr (fun i _ => keyOf_set half k i)] at h
        exact h
      case measure => simp [intOf]; omega
    · obtain rfl : k = 16 := by omega
      have hlr := q2.lt
      clear q1 q2 qb
      have HR := Lib.hid (HA.out.below QB.out (by omega))
      obtain ⟨key, hkey⟩ : ∃ key, keyOf half 16 = key := ⟨_, rfl⟩
      have HKL := Lib.hid (show ∀ i, key i < 256 from fun i => by rw [← hkey]; exact keyOf_lt HH.out 16 i)
      obtain ⟨S, hS⟩ : ∃ S, sumAt key f n = S := ⟨_, rfl⟩
      obtain ⟨D, hD⟩ : ∃ D, cl key = D := ⟨_, rfl⟩
      have HSUM := Lib.hid (show ∀ x, Rd x A n f → Calls Try.prog 16 #[.agg (byteCells key 32).toArray, .slice A n c] x fun e w' => e = .returned (.agg (byteCells S 16).toArray) ∧ Below x.heap.size x w' from fun x hx => by
        rw [← hS]
        exact sum_any key HKL.out A n c f HF.out (by omega) hc x hx)
      have HCL := Lib.hid (show ∀ x, Calls Try.prog 15 #[.agg (byteCells key 32).toArray] x fun e w' => e = .returned (.agg (byteCells D 16).toArray) ∧ Below x.heap.size x w' from fun x => by
        rw [← hD]
        exact clamp_any key HKL.out x)
      have E1 := Lib.hid (show ∀ w, (Op.equalIn 10000 25 (.agg (byteCells S 16).toArray) (.agg (byteCells half 16).toArray)).run Try.prog w = .ok true w from fun w => by
        rw [← hS, ← hkey, byteCells_congr (nought half HH.out f n)]
        exact run_eql_arr (P := Try.prog) 25 5 16 Try.underlying25 Try.underlying5 size_u8 half half HH.out HH.out true (by simp) w)
      have E2 := Lib.hid (show ∀ w, (Op.equalIn 10000 25 (.agg (byteCells D 16).toArray) (.agg #[.int .u8 0, .int .u8 0, .int .u8 0, .int .u8 0, .int .u8 0, .int .u8 0, .int .u8 0, .int .u8 0, .int .u8 0, .int .u8 0, .int .u8 0, .int .u8 0, .int .u8 0, .int .u8 0, .int .u8 0, .int .u8 0])).run Try.prog w = .ok true w from fun w => by
        have := run_eql_arr (P := Try.prog) 25 5 16 Try.underlying25 Try.underlying5 size_u8 (cl key) zeros (cl_lt HKL.out) zeros_lt true (by
          simp only [true_iff]
          intro i hi
          rw [← hkey]
          exact cl_nought half i hi) w
        rwa [byteCells_lit16 zeros, hD] at this)
      clear hS hD
      rw [hkey] at Q2
      clear hkey
      go_wp2_with fail
      refine q_start (by kernel_rfl) (by kernel_rfl) ?_
      refine q_call (.bool true) 14 (#[]) (by rfl) (by intro w; go_simp; try with_reducible rfl) (fun x hx => (alive_any x).mono fun e w' ⟨he, hb⟩ => ⟨he, below_trans hx hb⟩) ?_
      try simp only [Act.put, List.setIfInBounds_toArray, List.set_cons_zero, List.set_cons_succ]
      refine q_take _ (by rfl) (by intro w _; go_simp; with_reducible rfl) ?_
      try simp only [Act.put, List.setIfInBounds_toArray, List.set_cons_zero, List.set_cons_succ]
      refine q_take _ (by rfl) (fun x hx => run_load_in 22 (.tmp 5) rfl ((B + 1)) rfl (byteCells (key) 32).toArray 32 (by rw [List.size_toArray, byteCells_length]) ((Q2.out).below hx (Q2.out).lt) rfl rfl (by kernel_rfl)) ?_
      try simp only [Act.put, List.setIfInBounds_toArray, List.set_cons_zero, List.set_cons_succ]
      refine q_take _ (by rfl) (by intro w _; go_simp; with_reducible rfl) ?_
      try simp only [Act.put, List.setIfInBounds_toArray, List.set_cons_zero, List.set_cons_succ]
      refine q_call (.agg (byteCells S 16).toArray) 16 (#[.agg (byteCells key 32).toArray, .slice A n c]) (by rfl) (by intro w; go_simp; try with_reducible rfl) (fun x hx => (HSUM.out x (HR.out.below hx (Nat.le_refl _))).mono fun e w' ⟨he, hb⟩ => ⟨he, below_trans hx hb⟩) ?_
      try simp only [Act.put, List.setIfInBounds_toArray, List.set_cons_zero, List.set_cons_succ]
      refine q_take _ (by rfl) (fun x hx => run_load_in 25 (.tmp 2) rfl (B) rfl (byteCells (half) 16).toArray 16 (by rw [List.size_toArray, byteCells_length]) ((Q1.out).below hx (Q1.out).lt) rfl rfl (by kernel_rfl)) ?_
      try simp only [Act.put, List.setIfInBounds_toArray, List.set_cons_zero, List.set_cons_succ]
      refine q_take _ (by rfl) (by intro w _; go_simp; simp only [E1.out, Result.andThen_ok]; with_reducible rfl) ?_
      try simp only [Act.put, List.setIfInBounds_toArray, List.set_cons_zero, List.set_cons_succ]
      refine q_take _ (by rfl) (by intro w _; go_simp; with_reducible rfl) ?_
      try simp only [Act.put, List.setIfInBounds_toArray, List.set_cons_zero, List.set_cons_succ]
      refine q_take _ (by rfl) (by intro w _; go_simp; with_reducible rfl) ?_
      try simp only [Act.put, List.setIfInBounds_toArray, List.set_cons_zero, List.set_cons_succ]
      refine q_take _ (by rfl) (fun x hx => run_load_in 22 (.tmp 5) rfl ((B + 1)) rfl (byteCells (key) 32).toArray 32 (by rw [List.size_toArray, byteCells_length]) ((Q2.out).below hx (Q2.out).lt) rfl rfl (by kernel_rfl)) ?_
      try simp only [Act.put, List.setIfInBounds_toArray, List.set_cons_zero, List.set_cons_succ]
      refine q_call (.agg (byteCells D 16).toArray) 15 (#[.agg (byteCells key 32).toArray]) (by rfl) (by intro w; go_simp; try with_reducible rfl) (fun x hx => (HCL.out x).mono fun e w' ⟨he, hb⟩ => ⟨he, below_trans hx hb⟩) ?_
      try simp only [Act.put, List.setIfInBounds_toArray, List.set_cons_zero, List.set_cons_succ]
      refine q_take _ (by rfl) (by intro w _; go_simp; with_reducible rfl) ?_
      try simp only [Act.put, List.setIfInBounds_toArray, List.set_cons_zero, List.set_cons_succ]
      refine q_take _ (by rfl) (by intro w _; go_simp; simp only [E2.out, Result.andThen_ok]; with_reducible rfl) ?_
      try simp only [Act.put, List.setIfInBounds_toArray, List.set_cons_zero, List.set_cons_succ]
      refine q_take _ (by rfl) (by intro w _; go_simp; with_reducible rfl) ?_
      try simp only [Act.put, List.setIfInBounds_toArray, List.set_cons_zero, List.set_cons_succ]
      refine q_take _ (by rfl) (by intro w _; go_simp; with_reducible rfl) ?_
      try simp only [Act.put, List.setIfInBounds_toArray, List.set_cons_zero, List.set_cons_succ]
      refine wpQuiet_nil ?_
      intro w9 hb9
      have HB9 := Lib.hid (QB.out.trans (hb9.mono (by omega)))
      clear hb9
      go_wp2_with fail
      go_ret
      exact ⟨rfl, by rw [hB]; exact HB9.out⟩

theorem walk (half : Nat → Nat) (a1 : Option Addr) (len1 cap1 : Nat) (z1 : List Int) (w : World) (w0 : ∀ i, half i < 256) (w1 : IsRow .u8 w a1 len1 cap1 z1) :
    Calls Try.prog 5 #[.agg (byteCells half 16).toArray, .slice a1 len1 cap1] w fun e w' => e = .returned (.bool true) ∧ Below w.heap.size w w' := by
  obtain ⟨f, hf, hr, hcap, hm⟩ := rd_of_row w1
  by_cases h1 : 5000 < len1
  · exact big half a1 len1 cap1 h1 w
  · exact fits half w0 a1 len1 cap1 f hf (by omega) hcap w hr

end PolyNought
end Go.Proofs.Ytdffbjlbhjppeaa
