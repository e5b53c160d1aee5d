/- 'aditlaw03.PolyMore' returns true at every input and writes nothing that was there: the call 'more', and the walk. No condition. -/
import Derived.Test.YtdffbjlbhjppeaaNought
import Derived.Test.YtdffbjlbhjppeaaCarry
import Derived.Deep.DeepCutAuto
namespace Go.Proofs.Ytdffbjlbhjppeaa
namespace PolyMore
open Go.ChangeShapes Go.WideShapes Go.ChangeAt Go.RowKit
open Num Mem Words PolyN Chacha Quiet Poly PolyNought

/-- the sum of two numbers of sixteen bytes -/
def plus (a b : Nat → Nat) (i : Nat) : Nat := byteAt (le a 0 16 + le b 0 16) i
theorem plus_lt (a b : Nat → Nat) (i : Nat) : plus a b i < 256 := byteAt_lt _ _
theorem plus_byte (a b : Nat → Nat) (k : Nat) (hk : k < 16) : plus a b k = (cry a b k + a k + b k) % 256 := cry_byte a b k 16 hk

set_option maxRecDepth 100000 in
theorem more_any (a b : Nat → Nat) (ha : ∀ i, a i < 256) (hb : ∀ i, b i < 256) (w : World) :
    Calls Try.prog 21 #[.agg (byteCells a 16).toArray, .agg (byteCells b 16).toArray] w fun e w' => e = .returned (.agg (byteCells (plus a b) 16).toArray) ∧ Below w.heap.size w w' := by
  have HA := Lib.hid ha
  have HB := Lib.hid hb
  clear ha hb
  rw [byteCells_lit16, byteCells_lit16]
  go_enter Try.func21, Try.ntmps21
  go_upto_region 2 with fail
  refine cut_world (fun W => Whole W w.heap.size 25 (byteCells a 16).toArray ∧ Whole W (w.heap.size + 1) 25 (byteCells b 16).toArray ∧ Whole W (w.heap.size + 1 + 1) 25 (byteCells (fun _ => 0) 16).toArray ∧ Whole W (w.heap.size + 1 + 1 + 1) 25 (byteCells (fun _ => 0) 16).toArray ∧ Below w.heap.size w W) ⟨?_, ?_, ?_, ?_, ?_⟩ ?_
  · rw [byteCells_lit16]
    exact (((whole_new _ _ rfl).alloc _).alloc _).alloc _
  · rw [byteCells_lit16]
    exact ((whole_new _ _ (by simp)).alloc _).alloc _
  · exact (whole_new _ _ (by simp)).alloc _
  · exact whole_new _ _ (by simp)
  · exact below_alloc (below_alloc (below_alloc (below_alloc (Below.refl _ _) _) _) _) _
  rintro W ⟨k1, k2, k3, k4, kb⟩
  have K1 := Lib.hid k1
  have K2 := Lib.hid k2
  have K3 := Lib.hid k3
  have K4 := Lib.hid k4
  have KB := Lib.hid kb
  clear k1 k2 k3 k4 kb
  generalize hB : w.heap.size = B at K1 K2 K3 K4 KB ⊢
  go_wp2_with fail
  go_loopw [6, 7] (fun c i wr => ∃ k : Nat, k ≤ 16 ∧ i = .int .i64 k ∧ c = .int .i64 (cry a b k : Nat) ∧ Whole wr B 25 (byteCells a 16).toArray ∧ Whole wr (B + 1) 25 (byteCells b 16).toArray ∧ Whole wr (B + 1 + 1) 25 (byteCells (fun _ => 0) 16).toArray ∧ Whole wr (B + 1 + 1 + 1) 25 (byteCells (fun i => if i < k then plus a b i else 0) 16).toArray ∧ Below B w wr) (fun _ i _ => 16 - (intOf i).toNat)
  case atStart => exact ⟨0, by omega, rfl, by rw [cry_zero]; rfl, K1.out, K2.out, K3.out, K4.out, KB.out⟩
  case round =>
    obtain ⟨k, hk, rfl, rfl, q1, q2, q3, q4, qb⟩ := hrel
    have Q1 := Lib.hid q1
    have Q2 := Lib.hid q2
    have Q3 := Lib.hid q3
    have Q4 := Lib.hid q4
    have QB := Lib.hid qb
    by_cases hlt : k < 16
    · have c1 := q1.cell k
      have c2 := q2.cell k
      have f4 := q4.free k
      have c4 := q4.cell k
      rw [List.getElem?_toArray, byteCells_get _ _ _ (by omega)] at c1 c2 c4
      have b1 := HA.out k
      have b2 := HB.out k
      have b3 := cry_le HA.out HB.out k
      have HST := Lib.hid (cry_step a b k)
      have HPB := Lib.hid (plus_byte a b k hlt)
      generalize hcr : cry a b k = u at HST HPB b3 ⊢
      generalize a k = x at c1 b1 HST HPB
      generalize b k = y at c2 b2 HST HPB
      have HSM := Lib.hid (show ((u : Int) + (x : Int)) + (y : Int) = ((u + x + y : Nat) : Int) by omega)
      have i1 : (u : Int) + (x : Int) + (y : Int) < 1000 := by omega
      have HC := Lib.hid hcr
      clear q1 q2 q3 q4 qb hcr
      go_wp2_with fail
      go_quiet (fail)
      go_wp2_with fail
      go_roundw
      case rel =>
        refine ⟨k + 1, by omega, by go_num, by rw [HST.out]; go_num, (Q1.out.drewN _).far (by first | (simp; done) | (simp; omega)) _, (Q2.out.drewN _).far (by first | (simp; done) | (simp; omega)) _, (Q3.out.drewN _).far (by first | (simp; done) | (simp; omega)) _, ?_, (below_drewN QB.out _).setCell (by first | (simp; done) | (simp; omega)) _⟩
        have h := (Q4.out.drewN 1).put k (.int .u8 (plus a b k : Nat))
        rw [byteCells_set, byteCells_congr (g := fun i => if i < k + 1 then plus a b i else 0) (fun i hi => ?_)] at h
        · rw [HPB.out] at h
          have e : (((u + x + y) % 256 : Nat) : Int) = ((u : Int) + (x : Int) + (y : Int)) % 256 := by omega
          rw [e] at h
          exact h
        · by_cases e : i = k
          · subst e
            rw [if_pos rfl, if_pos (by omega)]
          · rw [if_neg e]
            by_cases l : i < k
            · rw [if_pos l, if_pos (by omega)]
            · rw [if_neg l, if_neg (by omega)]
      case measure => simp [intOf]; omega
    · obtain rfl : k = 16 := by omega
      rw [byteCells_congr (g := plus a b) (fun i hi => if_pos hi)] at q4
      have K3 := Lib.hid q3
      have K4 := Lib.hid q4
      have KB := Lib.hid qb
      clear q1 q2 q3 q4 qb
      generalize hP : plus a b = S at K4
      have HZ16 := Lib.hid (show (byteCells S 16).toArray.size = 16 by rw [List.size_toArray, byteCells_length])
      go_wp2_with (first | (refine wpList_load_row rfl 25 (.tmp 5) rfl (B + 1 + 1 + 1) rfl 25 (byteCells S 16).toArray (0, 0) _ K4.out rfl rfl (by rw [HZ16.out]; kernel_rfl) ?_) | (refine wpList_store_row rfl 25 (.tmp 4) (.tmp 29) rfl (B + 1 + 1) (byteCells S 16).toArray rfl rfl 25 _ K3.out (by rw [HZ16.out]; kernel_rfl) (by rw [HZ16.out]; rfl) (bytes_one _ _) ?_))
      have hret : Whole (wr.setRow (B + 1 + 1) (byteCells S 16).toArray) (B + 1 + 1) 25 (byteCells S 16).toArray := setRow_heap wr _ _ _ _ _ K3.out
      refine bodyPost_ret (results_cell_row rfl _ _ (B + 1 + 1) 25 _ (0, 0) _ rfl hret rfl rfl (by rw [HZ16.out]; kernel_rfl)) rfl ?_
      exact ⟨by rw [hP], by rw [hB]; exact below_setRow KB.out (by omega) _⟩

/-- the first k of a key's second half are noughts -/
def oneOf (key : Nat → Nat) (k i : Nat) : Nat := if 16 ≤ i ∧ i < 16 + k then 0 else key i
/-- the first k of it are others -/
def twoOf (key s : Nat → Nat) (k i : Nat) : Nat := if 16 ≤ i ∧ i < 16 + k then s (i - 16) else key i
/-- the first k of it, by themselves -/
def wasOf (key : Nat → Nat) (k i : Nat) : Nat := if i < k then key (16 + i) else 0
theorem oneOf_lt {key : Nat → Nat} (h : ∀ i, key i < 256) (k i : Nat) : oneOf key k i < 256 := by
  have := h i
  unfold oneOf
  split <;> omega
theorem twoOf_lt {key s : Nat → Nat} (h : ∀ i, key i < 256) (hs : ∀ i, s i < 256) (k i : Nat) : twoOf key s k i < 256 := by
  have := h i
  have := hs (i - 16)
  unfold twoOf
  split <;> omega
theorem wasOf_lt {key : Nat → Nat} (h : ∀ i, key i < 256) (k i : Nat) : wasOf key k i < 256 := by
  have := h (16 + i)
  unfold wasOf
  split <;> omega
theorem oneOf_set (key : Nat → Nat) (k i : Nat) : (if i = 16 + k then 0 else oneOf key k i) = oneOf key (k + 1) i := by
  unfold oneOf
  by_cases e : i = 16 + k
  · rw [if_pos e, if_pos ⟨by omega, by omega⟩]
  · rw [if_neg e]
    by_cases h : 16 ≤ i ∧ i < 16 + k
    · rw [if_pos h, if_pos ⟨h.1, by omega⟩]
    · rw [if_neg h, if_neg (by omega)]
theorem twoOf_set (key s : Nat → Nat) (k i : Nat) : (if i = 16 + k then s k else twoOf key s k i) = twoOf key s (k + 1) i := by
  unfold twoOf
  by_cases e : i = 16 + k
  · subst e
    rw [if_pos rfl, if_pos ⟨by omega, by omega⟩, Nat.add_sub_cancel_left]
  · rw [if_neg e]
    by_cases h : 16 ≤ i ∧ i < 16 + k
    · rw [if_pos h, if_pos ⟨h.1, by omega⟩]
    · rw [if_neg h, if_neg (by omega)]
theorem wasOf_set (key : Nat → Nat) (k i : Nat) : (if i = k then key (16 + k) else wasOf key k i) = wasOf key (k + 1) i := by
  unfold wasOf
  by_cases e : i = k
  · subst e
    rw [if_pos rfl, if_pos (by omega)]
  · rw [if_neg e]
    by_cases h : i < k
    · rw [if_pos h, if_pos (by omega)]
    · rw [if_neg h, if_neg (by omega)]

theorem rk_congr {k1 k2 : Nat → Nat} (h : ∀ i, i < 16 → k1 i = k2 i) : rk k1 = rk k2 := by
  unfold rk
  refine lv_congr 5 fun i _ => ?_
  unfold fac sp
  rw [le_congr (f := fun i => if i < 16 then cl k1 i else 0) (g := fun i => if i < 16 then cl k2 i else 0) (p := 0) (q := 0) 17 (fun j _ => by
    show (if 0 + j < 16 then cl k1 (0 + j) else 0) = if 0 + j < 16 then cl k2 (0 + j) else 0
    split
    · rename_i hj
      unfold cl
      rw [h _ hj]
    · rfl)]

theorem sum_is (key k2 : Nat → Nat) (h : ∀ i, i < 16 → k2 i = key i) (f : Nat → Nat) (n i : Nat) (_ : i < 16) : sumAt k2 f n i = byteAt (mac (rk key) false 0 f n + le k2 16 16) i := by
  unfold sumAt tag
  rw [rk_congr h]

theorem le_tag (V : Nat) (S : Nat → Nat) (h : ∀ i, i < 16 → S i = byteAt V i) : le S 0 16 = V % 2 ^ (8 * 16) := by
  rw [le_congr (f := S) (g := byteAt V) (p := 0) (q := 0) 16 (fun j hj => by rw [Nat.zero_add]; exact h j hj)]
  exact le_digits V 16

/-- with noughts behind the factor, and the other half added -/
theorem back (key : Nat → Nat) (f : Nat → Nat) (n : Nat) : ∀ i, i < 16 → sumAt key f n i = plus (sumAt (oneOf key 16) f n) (wasOf key 16) i := by
  intro i hi
  have e0 : le (oneOf key 16) 16 16 = 0 := by
    rw [le_congr (g := fun _ => 0) (q := 0) 16 (fun j hj => by show oneOf key 16 (16 + j) = 0; unfold oneOf; rw [if_pos ⟨by omega, by omega⟩])]
    decide +kernel
  have e1 := le_tag _ (sumAt (oneOf key 16) f n) (fun j hj => by rw [sum_is key (oneOf key 16) (fun j hj => by unfold oneOf; rw [if_neg (by omega)]) f n j hj, e0, Nat.add_zero])
  have e2 : le (wasOf key 16) 0 16 = le key 16 16 := le_congr 16 fun j hj => by rw [Nat.zero_add]; unfold wasOf; rw [if_pos hj]
  rw [sum_is key key (fun _ _ => rfl) f n i hi]
  unfold plus
  rw [e1, e2, ← byteAt_mod _ 16 i hi, ← byteAt_mod (_ % _ + _) 16 i hi, Nat.mod_add_mod]

/-- with as much more behind the factor -/
theorem more (key half : Nat → Nat) (f : Nat → Nat) (n : Nat) : ∀ i, i < 16 → sumAt (twoOf key (plus (wasOf key 16) half) 16) f n i = plus (sumAt key f n) half i := by
  intro i hi
  have e1 := le_tag _ (sumAt key f n) (fun j hj => sum_is key key (fun _ _ => rfl) f n j hj)
  have e3 := le_tag _ (plus (wasOf key 16) half) (fun _ _ => rfl)
  have e2 : le (wasOf key 16) 0 16 = le key 16 16 := le_congr 16 fun j hj => by rw [Nat.zero_add]; unfold wasOf; rw [if_pos hj]
  have e4 : le (twoOf key (plus (wasOf key 16) half) 16) 16 16 = le (plus (wasOf key 16) half) 0 16 := le_congr 16 fun j hj => by
    unfold twoOf
    rw [if_pos ⟨by omega, by omega⟩, Nat.add_sub_cancel_left, Nat.zero_add]
  rw [sum_is key _ (fun j hj => by unfold twoOf; rw [if_neg (by omega)]) f n i hi, e4, e3, e2]
  unfold plus
  rw [e1, ← byteAt_mod _ 16 i hi, ← byteAt_mod (_ % _ + le half 0 16) 16 i hi, Nat.add_mod_mod, Nat.mod_add_mod, Nat.add_assoc]

/-- what lies in memory -/
def MoreW (w : World) (B g1 g2 g3 : Nat) (key half one two was : Nat → Nat) (x : World) : Prop :=
  Whole x B 22 (byteCells key 32).toArray ∧ Whole x (B + 1) 25 (byteCells half 16).toArray ∧ Whole x g1 22 (byteCells one 32).toArray ∧ Whole x g2 22 (byteCells two 32).toArray ∧ Whole x g3 25 (byteCells was 16).toArray ∧
    B + 1 < g1 ∧ B + 1 < g2 ∧ B + 1 < g3 ∧ Below B w x

set_option maxRecDepth 100000 in
theorem big (key half : Nat → Nat) (A : Option Addr) (n c : Nat) (h : 2000 < n) (w : World) :
    Calls Try.prog 6 #[.agg (byteCells key 32).toArray, .agg (byteCells half 16).toArray, .slice A n c] w fun e w' => e = .returned (.bool true) ∧ Below w.heap.size w w' := by
  have hd : decide ((2000 : Int) < (n : Int)) = true := decide_eq_true (by omega)
  rw [byteCells_lit32, byteCells_lit16]
  go_enter Try.func6, Try.ntmps6
  go_wp2_with fail
  refine (alive_any _).mono ?_
  rintro e w1 ⟨rfl, hb1⟩
  have HB := Lib.hid (below_trans (below_alloc (below_alloc (Below.refl w.heap.size w) _) _) hb1)
  clear hb1
  go_wp2_with fail
  go_ret
  exact ⟨rfl, HB.out⟩

set_option maxRecDepth 100000 in
set_option maxHeartbeats 1000000 in
theorem fits (key half : Nat → Nat) (hk : ∀ i, key i < 256) (hh : ∀ i, half i < 256) (A : Option Addr) (n c : Nat) (f : Nat → Nat) (hf : ∀ i, f i < 256) (h : n ≤ 2000) (hc : n ≤ c) (w : World) (hA : Rd w A n f) :
    Calls Try.prog 6 #[.agg (byteCells key 32).toArray, .agg (byteCells half 16).toArray, .slice A n c] w fun e w' => e = .returned (.bool true) ∧ Below w.heap.size w w' := by
  have hd : decide ((2000 : Int) < (n : Int)) = false := decide_eq_false (by omega)
  have HK := Lib.hid hk
  have HH := Lib.hid hh
  have HF := Lib.hid hf
  have HA := Lib.hid hA
  clear hk hh hf hA
  rw [byteCells_lit32, byteCells_lit16]
  go_enter Try.func6, Try.ntmps6
  go_upto_region 3 with fail
  refine cut_world (fun W => Whole W w.heap.size 22 (byteCells key 32).toArray ∧ Whole W (w.heap.size + 1) 25 (byteCells half 16).toArray ∧ Below w.heap.size w W) ⟨?_, ?_, ?_⟩ ?_
  · rw [byteCells_lit32]
    exact (whole_new _ _ rfl).alloc _
  · rw [byteCells_lit16]
    exact whole_new _ _ (by simp)
  · exact below_alloc (below_alloc (Below.refl _ _) _) _
  rintro W ⟨k1, k2, kb⟩
  have K1 := Lib.hid k1
  have K2 := Lib.hid k2
  have KB := Lib.hid kb
  have hl2 := k2.lt
  clear k1 k2 kb
  generalize hB : w.heap.size = B at K1 K2 KB hl2 ⊢
  go_cut [7, 8] (fun s7 s8 wx => ∃ ga0 ga1 : Nat, s7 = .pointer (some ⟨ga0, 0, none⟩) ∧ s8 = .pointer (some ⟨ga1, 0, none⟩) ∧ ga0 ≠ ga1 ∧ W.heap.size ≤ ga0 ∧ W.heap.size ≤ ga1 ∧ Whole wx ga0 22 (byteCells key 32).toArray ∧ Whole wx ga1 22 (byteCells key 32).toArray ∧ Below W.heap.size W wx)
  case first =>
    refine region_start (fun w' => Below W.heap.size W w') (by kernel_rfl) (below_drewN (Below.refl _ _) 1) ?_
    intro w3 hS
    refine take 0 _ rfl (by kernel_rfl) (by kernel_rfl) (by kernel_rfl) (fun _ _ _ h => h) (by rfl) hS (fun w hw => run_load_op 22 (.tmp 3) rfl (B) rfl (K1.out.below hw K1.out.lt) rfl rfl (by kernel_rfl)) ?_
    try simp only [Act.put, List.setIfInBounds_toArray, List.set_cons_zero, List.set_cons_succ]
    refine take 1 _ rfl (by kernel_rfl) (by kernel_rfl) (by kernel_rfl) (fun _ _ _ h => h) (by rfl) hS (fun w hw => run_load_op 22 (.tmp 3) rfl (B) rfl (K1.out.below hw K1.out.lt) rfl rfl (by kernel_rfl)) ?_
    try simp only [Act.put, List.setIfInBounds_toArray, List.set_cons_zero, List.set_cons_succ]
    refine ready_two 2 3 rfl rfl (by kernel_rfl) (by rfl) (by rfl) ?_ ?_
    · intro K hK
      go_simp
      refine hK.out _ _ (hS.alloc hS.size _) ?_
      clear hK K
      try simp only [Act.put, List.setIfInBounds_toArray, List.set_cons_zero, List.set_cons_succ]
      refine cut_any (fun X => Whole X w3.heap.size 22 (byteCells (fun _ => 0) 32).toArray ∧ Below W.heap.size W X) ⟨Whole.new _ _ _, hS.alloc hS.size _⟩ ?_
      rintro v1 ⟨hnew, hS'⟩
      have hge0 : W.heap.size ≤ w3.heap.size := hS.size
      clear hS
      have hS := hS'
      clear hS'
      generalize w3.heap.size = ga0 at hnew hge0 ⊢
      have Ha0 := Lib.hid hnew
      clear hnew
      refine alone 3 rfl (by kernel_rfl) (by rfl) ?_
      intro K hK
      go_simp
      refine hK.out _ _ (hS.alloc hS.size _) ?_
      clear hK K
      try simp only [Act.put, List.setIfInBounds_toArray, List.set_cons_zero, List.set_cons_succ]
      refine cut_any (fun X => Whole X v1.heap.size 22 (byteCells (fun _ => 0) 32).toArray ∧ Below W.heap.size W X ∧ Whole X ga0 22 (byteCells (fun _ => 0) 32).toArray) ⟨Whole.new _ _ _, hS.alloc hS.size _, Ha0.out.alloc _⟩ ?_
      rintro v2 ⟨hnew, hS', hold0⟩
      have hlt0 : ga0 < v1.heap.size := Ha0.out.lt
      have hge1 : W.heap.size ≤ v1.heap.size := hS.size
      clear hS
      have hS := hS'
      clear hS'
      generalize v1.heap.size = ga1 at hnew hge1 hlt0 ⊢
      have Ha1 := Lib.hid hnew
      clear hnew
      replace Ha0 := Lib.hid hold0
      clear hold0
      have hne : ga0 ≠ ga1 := by omega
      refine alone 4 rfl (by kernel_rfl) (by rfl) ?_
      intro K hK
      refine wp_store_row 22 (.tmp 7) (.tmp 18) rfl ga0 (byteCells (key) 32).toArray (by rfl) (by rfl) 22 _ Ha0.out (by rw [List.size_toArray, byteCells_length]; kernel_rfl) (by rw [List.size_toArray, List.size_toArray, byteCells_length, byteCells_length]) (bytes_one _ _) ?_
      have hS2 := below_setRow hS hge0 (byteCells (key) 32).toArray
      refine hK.out _ _ hS2 ?_
      clear hK K
      refine cut_any (fun X => Whole X ga0 22 (byteCells (key) 32).toArray ∧ Whole X ga1 22 (byteCells (fun _ => 0) 32).toArray ∧ Below W.heap.size W X) ⟨setRow_heap _ _ _ _ _ _ Ha0.out, Whole.farRow Ha1.out (by omega) _, hS2⟩ ?_
      rintro v3 ⟨hnew, hold, hS3⟩
      clear hS hS2
      have hS := hS3
      clear hS3
      replace Ha0 := Lib.hid hnew
      replace Ha1 := Lib.hid hold
      clear hnew hold
      try simp only [Act.put]
      refine alone 5 rfl (by kernel_rfl) (by rfl) ?_
      intro K hK
      refine wp_store_row 22 (.tmp 8) (.tmp 19) rfl ga1 (byteCells (key) 32).toArray (by rfl) (by rfl) 22 _ Ha1.out (by rw [List.size_toArray, byteCells_length]; kernel_rfl) (by rw [List.size_toArray, List.size_toArray, byteCells_length, byteCells_length]) (bytes_one _ _) ?_
      have hS2 := below_setRow hS hge1 (byteCells (key) 32).toArray
      refine hK.out _ _ hS2 ?_
      clear hK K
      refine cut_any (fun X => Whole X ga1 22 (byteCells (key) 32).toArray ∧ Whole X ga0 22 (byteCells (key) 32).toArray ∧ Below W.heap.size W X) ⟨setRow_heap _ _ _ _ _ _ Ha1.out, Whole.farRow Ha0.out (by omega) _, hS2⟩ ?_
      rintro v4 ⟨hnew, hold, hS3⟩
      clear hS hS2
      have hS := hS3
      clear hS3
      replace Ha1 := Lib.hid hnew
      replace Ha0 := Lib.hid hold
      clear hnew hold
      try simp only [Act.put]
      refine region_end (by kernel_rfl) ?_
      go_wp2_with fail
      go_meet
      exact ⟨ga0, ga1, rfl, rfl, hne, hge0, hge1, Ha0.out, Ha1.out, hS⟩
    · intro K hK
      go_simp
      refine hK.out _ _ (hS.alloc hS.size _) ?_
      clear hK K
      try simp only [Act.put, List.setIfInBounds_toArray, List.set_cons_zero, List.set_cons_succ]
      refine cut_any (fun X => Whole X w3.heap.size 22 (byteCells (fun _ => 0) 32).toArray ∧ Below W.heap.size W X) ⟨Whole.new _ _ _, hS.alloc hS.size _⟩ ?_
      rintro v5 ⟨hnew, hS'⟩
      have hge1 : W.heap.size ≤ w3.heap.size := hS.size
      clear hS
      have hS := hS'
      clear hS'
      generalize w3.heap.size = ga1 at hnew hge1 ⊢
      have Ha1 := Lib.hid hnew
      clear hnew
      refine alone 2 rfl (by kernel_rfl) (by rfl) ?_
      intro K hK
      go_simp
      refine hK.out _ _ (hS.alloc hS.size _) ?_
      clear hK K
      try simp only [Act.put, List.setIfInBounds_toArray, List.set_cons_zero, List.set_cons_succ]
      refine cut_any (fun X => Whole X v5.heap.size 22 (byteCells (fun _ => 0) 32).toArray ∧ Below W.heap.size W X ∧ Whole X ga1 22 (byteCells (fun _ => 0) 32).toArray) ⟨Whole.new _ _ _, hS.alloc hS.size _, Ha1.out.alloc _⟩ ?_
      rintro v6 ⟨hnew, hS', hold1⟩
      have hlt1 : ga1 < v5.heap.size := Ha1.out.lt
      have hge0 : W.heap.size ≤ v5.heap.size := hS.size
      clear hS
      have hS := hS'
      clear hS'
      generalize v5.heap.size = ga0 at hnew hge0 hlt1 ⊢
      have Ha0 := Lib.hid hnew
      clear hnew
      replace Ha1 := Lib.hid hold1
      clear hold1
      have hne : ga0 ≠ ga1 := by omega
      refine alone 4 rfl (by kernel_rfl) (by rfl) ?_
      intro K hK
      refine wp_store_row 22 (.tmp 7) (.tmp 18) rfl ga0 (byteCells (key) 32).toArray (by rfl) (by rfl) 22 _ Ha0.out (by rw [List.size_toArray, byteCells_length]; kernel_rfl) (by rw [List.size_toArray, List.size_toArray, byteCells_length, byteCells_length]) (bytes_one _ _) ?_
      have hS2 := below_setRow hS hge0 (byteCells (key) 32).toArray
      refine hK.out _ _ hS2 ?_
      clear hK K
      refine cut_any (fun X => Whole X ga0 22 (byteCells (key) 32).toArray ∧ Whole X ga1 22 (byteCells (fun _ => 0) 32).toArray ∧ Below W.heap.size W X) ⟨setRow_heap _ _ _ _ _ _ Ha0.out, Whole.farRow Ha1.out (by omega) _, hS2⟩ ?_
      rintro v7 ⟨hnew, hold, hS3⟩
      clear hS hS2
      have hS := hS3
      clear hS3
      replace Ha0 := Lib.hid hnew
      replace Ha1 := Lib.hid hold
      clear hnew hold
      try simp only [Act.put]
      refine alone 5 rfl (by kernel_rfl) (by rfl) ?_
      intro K hK
      refine wp_store_row 22 (.tmp 8) (.tmp 19) rfl ga1 (byteCells (key) 32).toArray (by rfl) (by rfl) 22 _ Ha1.out (by rw [List.size_toArray, byteCells_length]; kernel_rfl) (by rw [List.size_toArray, List.size_toArray, byteCells_length, byteCells_length]) (bytes_one _ _) ?_
      have hS2 := below_setRow hS hge1 (byteCells (key) 32).toArray
      refine hK.out _ _ hS2 ?_
      clear hK K
      refine cut_any (fun X => Whole X ga1 22 (byteCells (key) 32).toArray ∧ Whole X ga0 22 (byteCells (key) 32).toArray ∧ Below W.heap.size W X) ⟨setRow_heap _ _ _ _ _ _ Ha1.out, Whole.farRow Ha0.out (by omega) _, hS2⟩ ?_
      rintro v8 ⟨hnew, hold, hS3⟩
      clear hS hS2
      have hS := hS3
      clear hS3
      replace Ha1 := Lib.hid hnew
      replace Ha0 := Lib.hid hold
      clear hnew hold
      try simp only [Act.put]
      refine region_end (by kernel_rfl) ?_
      go_wp2_with fail
      go_meet
      exact ⟨ga0, ga1, rfl, rfl, hne, hge0, hge1, Ha0.out, Ha1.out, hS⟩

  case rest =>
    obtain ⟨g1, g2, rfl, rfl, hne, hg1, hg2, h1, h2, hS⟩ := hcut
    have L1 := Lib.hid (K1.out.below hS K1.out.lt)
    have L2 := Lib.hid (K2.out.below hS K2.out.lt)
    have LB := Lib.hid (KB.out.trans (hS.mono (by omega)))
    have H1 := Lib.hid h1
    have H2 := Lib.hid h2
    have lt1 := h1.lt
    have lt2 := h2.lt
    clear h1 h2 hS K1 K2 KB
    go_upto_region 5 with fail
    refine cut_world (fun X => MoreW w B g1 g2 wc.heap.size key half (oneOf key 0) key (wasOf key 0) X ∧ g1 < wc.heap.size ∧ g2 < wc.heap.size) ⟨⟨?_, ?_, ?_, ?_, ?_, by omega, by omega, by omega, ?_⟩, lt1, lt2⟩ ?_
    · exact L1.out.alloc _
    · exact L2.out.alloc _
    · rw [byteCells_congr (f := oneOf key 0) (g := key) (n := 32) (fun i _ => by unfold oneOf; rw [if_neg (by omega)])]
      exact H1.out.alloc _
    · exact H2.out.alloc _
    · rw [byteCells_congr (f := wasOf key 0) (g := fun _ => 0) (n := 16) (fun i _ => by unfold wasOf; rw [if_neg (by omega)])]
      exact Whole.new _ _ _
    · exact LB.out.alloc (by omega) _
    rintro W3 ⟨hW, hg3, hg4⟩
    have HW := Lib.hid hW
    clear hW L1 L2 LB H1 H2 lt1 lt2
    generalize wc.heap.size = g3 at HW hg3 hg4 ⊢
    go_wp2_with fail
    go_loopw [10] (fun i wr => ∃ k : Nat, k ≤ 16 ∧ i = .int .i64 k ∧ MoreW w B g1 g2 g3 key half (oneOf key k) key (wasOf key k) wr) (fun i _ => 16 - (intOf i).toNat)
    case atStart => exact ⟨0, by omega, rfl, HW.out⟩
    case round =>
      obtain ⟨k, hk, rfl, hq⟩ := hrel
      have HQ := Lib.hid hq
      by_cases hlt : k < 16
      · obtain ⟨q1, q2, q3, q4, q5, _, _, _, qb⟩ := hq
        have c1 := q1.cell (16 + k)
        have c3 := q3.cell (16 + k)
        have f3 := q3.free (16 + k)
        have c5 := q5.cell k
        have f5 := q5.free k
        rw [List.getElem?_toArray, byteCells_get _ _ _ (by omega)] at c1 c3 c5
        have n1 : ¬ g3 = g1 := by omega
        have n2 : ¬ B = g1 := by omega
        clear q1 q2 q3 q4 q5 qb
        go_wp2_with fail
        go_roundw
        case rel =>
          refine ⟨k + 1, by omega, by go_num, ?_⟩
          obtain ⟨q1, q2, q3, q4, q5, o1, o2, o3, qb⟩ := HQ.out
          refine ⟨(q1.far (by first | (simp; done) | (simp; omega)) _).far (by first | (simp; done) | (simp; omega)) _, (q2.far (by first | (simp; done) | (simp; omega)) _).far (by first | (simp; done) | (simp; omega)) _, ?_, (q4.far (by first | (simp; done) | (simp; omega)) _).far (by first | (simp; done) | (simp; omega)) _, ?_, o1, o2, o3, (qb.setCell (by first | (simp; done) | (simp; omega)) _).setCell (by first | (simp; done) | (simp; omega)) _⟩
          · have h := (q3.put (16 + k) (.int .u8 (0 : Nat))).far (p := ⟨g3, k, none⟩) (by first | (simp; done) | (simp; omega)) (.int .u8 (key (16 + k) : Nat))
            rw [byteCells_set, byteCells_congr (fun i _ => oneOf_set key k i)] at h
            exact h
          · have h := (q5.far (p := ⟨g1, 16 + k, none⟩) (by first | (simp; done) | (simp; omega)) (.int .u8 (0 : Nat))).put k (.int .u8 (key (16 + k) : Nat))
            rw [byteCells_set, byteCells_congr (fun i _ => wasOf_set key k i)] at h
            exact h
        case measure => simp [intOf]; omega
      · obtain rfl : k = 16 := by omega
        obtain ⟨q1, q2, q3, q4, q5, o1, o2, o3, qb⟩ := hq
        obtain ⟨one, hone⟩ : ∃ x, oneOf key 16 = x := ⟨_, rfl⟩
        obtain ⟨was, hwas⟩ : ∃ x, wasOf key 16 = x := ⟨_, rfl⟩
        have HONE := Lib.hid hone
        have HWAS := Lib.hid hwas
        rw [hone] at q3
        rw [hwas] at q5
        have HWL := Lib.hid (show ∀ i, was i < 256 from fun i => by rw [← hwas]; exact wasOf_lt HK.out 16 i)
        obtain ⟨S, hS⟩ : ∃ x, plus was half = x := ⟨_, rfl⟩
        have HS := Lib.hid hS
        have HMORE := Lib.hid (show ∀ x, Calls Try.prog 21 #[.agg (byteCells was 16).toArray, .agg (byteCells half 16).toArray] x fun e w' => e = .returned (.agg (byteCells S 16).toArray) ∧ Below x.heap.size x w' from fun x => by
          rw [← hS]
          exact more_any was half HWL.out HH.out x)
        have Q1 := Lib.hid q1
        have Q2 := Lib.hid q2
        have Q3 := Lib.hid q3
        have Q4 := Lib.hid q4
        have Q5 := Lib.hid q5
        have QB := Lib.hid qb
        have HZ16 := Lib.hid (show ∀ f, (byteCells f 16).toArray.size = 16 from fun f => by rw [List.size_toArray, byteCells_length])
        clear q1 q2 q3 q4 q5 qb hone hwas hS HQ
        go_wp2_with (first | (refine wpList_load_row rfl 25 (.tmp 9) rfl g3 rfl 25 (byteCells was 16).toArray (0, 0) _ Q5.out rfl rfl (by rw [HZ16.out]; kernel_rfl) ?_) | (refine wpList_load_row rfl 25 (.tmp 4) rfl (B + 1) rfl 25 (byteCells half 16).toArray (0, 0) _ Q2.out rfl rfl (by rw [HZ16.out]; kernel_rfl) ?_))
        refine (HMORE.out _).mono ?_
        rintro e w5 ⟨rfl, hb5⟩
        have R1 := Lib.hid (Q1.out.below hb5 Q1.out.lt)
        have R2 := Lib.hid (Q2.out.below hb5 Q2.out.lt)
        have R3 := Lib.hid (Q3.out.below hb5 Q3.out.lt)
        have R4 := Lib.hid (Q4.out.below hb5 Q4.out.lt)
        have R5 := Lib.hid (Q5.out.below hb5 Q5.out.lt)
        have RB := Lib.hid (QB.out.trans (hb5.mono (by have := Q1.out.lt; omega)))
        have r1 := R1.out.lt
        have r2 := R2.out.lt
        have r3 := R3.out.lt
        have r4 := R4.out.lt
        have r5 := R5.out.lt
        clear hb5 Q1 Q2 Q3 Q4 Q5 QB
        go_upto_region 11 with (refine wpList_store_row rfl 25 (.tmp 11) (.tmp 35) rfl w5.heap.size (byteCells S 16).toArray rfl rfl 25 _ (Whole.new _ _ _) (by rw [HZ16.out]; kernel_rfl) (by rw [HZ16.out]; rfl) (bytes_one _ _) ?_)
        try simp only [Act.put]
        refine cut_world (fun X => MoreW w B g1 g2 g3 key half one (twoOf key S 0) was X ∧ Whole X w5.heap.size 25 (byteCells S 16).toArray ∧ g1 < w5.heap.size ∧ g2 < w5.heap.size ∧ g3 < w5.heap.size) ⟨⟨?_, ?_, ?_, ?_, ?_, o1, o2, o3, ?_⟩, setRow_heap _ _ _ _ _ _ (Whole.new _ _ _), r3, r4, r5⟩ ?_
        · exact Whole.farRow (R1.out.alloc _) (by omega) _
        · exact Whole.farRow (R2.out.alloc _) (by omega) _
        · exact Whole.farRow (R3.out.alloc _) (by omega) _
        · rw [byteCells_congr (f := twoOf key S 0) (g := key) (n := 32) (fun i _ => by unfold twoOf; rw [if_neg (by omega)])]
          exact Whole.farRow (R4.out.alloc _) (by omega) _
        · exact Whole.farRow (R5.out.alloc _) (by omega) _
        · exact below_setRow (RB.out.alloc (by omega) _) (by omega) _
        rintro W6 ⟨hW, h4, l1, l2, l3⟩
        have HW6 := Lib.hid hW
        have HS4 := Lib.hid h4
        clear hW h4 R1 R2 R3 R4 R5 RB r1 r2 r3 r4 r5
        generalize w5.heap.size = g4 at HS4 l1 l2 l3 ⊢
        go_wp2_with fail
        go_loopw [12] (fun i wr => ∃ k : Nat, k ≤ 16 ∧ i = .int .i64 k ∧ MoreW w B g1 g2 g3 key half one (twoOf key S k) was wr ∧ Whole wr g4 25 (byteCells S 16).toArray) (fun i _ => 16 - (intOf i).toNat)
        case atStart => exact ⟨0, by omega, rfl, HW6.out, HS4.out⟩
        case round =>
          obtain ⟨k, hk, rfl, hq, hq4⟩ := hrel
          have HQ := Lib.hid hq
          have HQ4 := Lib.hid hq4
          by_cases hlt : k < 16
          · obtain ⟨q1, q2, q3, q4, q5, _, _, _, qb⟩ := hq
            have c1 := hq4.cell k
            have c3 := q4.cell (16 + k)
            have f3 := q4.free (16 + k)
            rw [List.getElem?_toArray, byteCells_get _ _ _ (by omega)] at c1 c3
            clear q1 q2 q3 q4 q5 qb hq4
            go_wp2_with fail
            go_roundw
            case rel =>
              obtain ⟨q1, q2, q3, q4, q5, o1, o2, o3, qb⟩ := HQ.out
              refine ⟨k + 1, by omega, by go_num, ⟨q1.far (by first | (simp; done) | (simp; omega)) _, q2.far (by first | (simp; done) | (simp; omega)) _, q3.far (by first | (simp; done) | (simp; omega)) _, ?_, q5.far (by first | (simp; done) | (simp; omega)) _, o1, o2, o3, qb.setCell (by first | (simp; done) | (simp; omega)) _⟩, HQ4.out.far (by first | (simp; done) | (simp; omega)) _⟩
              have h := q4.put (16 + k) (.int .u8 (S k : Nat))
              rw [byteCells_set, byteCells_congr (fun i _ => twoOf_set key S k i)] at h
              exact h
            case measure => simp [intOf]; omega
          · obtain rfl : k = 16 := by omega
            obtain ⟨q1, q2, q3, q4, q5, _, _, _, qb⟩ := hq
            obtain ⟨two, htwo⟩ : ∃ x, twoOf key S 16 = x := ⟨_, rfl⟩
            have HTWO := Lib.hid htwo
            rw [htwo] at q4
            have HKO := Lib.hid (show ∀ i, one i < 256 from fun i => by rw [← HONE.out]; exact oneOf_lt HK.out 16 i)
            have HKT := Lib.hid (show ∀ i, two i < 256 from fun i => by rw [← HTWO.out, ← HS.out]; exact twoOf_lt HK.out (plus_lt _ _) 16 i)
            obtain ⟨S1, hS1⟩ : ∃ x, sumAt one f n = x := ⟨_, rfl⟩
            obtain ⟨S0, hS0⟩ : ∃ x, sumAt key f n = x := ⟨_, rfl⟩
            obtain ⟨S2, hS2⟩ : ∃ x, sumAt two f n = x := ⟨_, rfl⟩
            obtain ⟨P1, hP1⟩ : ∃ x, plus S1 was = x := ⟨_, rfl⟩
            obtain ⟨P2, hP2⟩ : ∃ x, plus S0 half = x := ⟨_, rfl⟩
            have HL1 := Lib.hid (show ∀ i, S1 i < 256 from fun i => by rw [← hS1]; exact tag_lt _ _ _)
            have HL0 := Lib.hid (show ∀ i, S0 i < 256 from fun i => by rw [← hS0]; exact tag_lt _ _ _)
            have HL2 := Lib.hid (show ∀ i, S2 i < 256 from fun i => by rw [← hS2]; exact tag_lt _ _ _)
            have HPL1 := Lib.hid (show ∀ i, P1 i < 256 from fun i => by rw [← hP1]; exact plus_lt _ _ _)
            have HPL2 := Lib.hid (show ∀ i, P2 i < 256 from fun i => by rw [← hP2]; exact plus_lt _ _ _)
            have X1 := Lib.hid (show ∀ i, i < 16 → S0 i = P1 i from fun i hi => by rw [← hS0, ← hP1, ← hS1, ← HONE.out, ← HWAS.out]; exact back key f n i hi)
            have X2 := Lib.hid (show ∀ i, i < 16 → S2 i = P2 i from fun i hi => by rw [← hS2, ← hP2, ← hS0, ← HTWO.out, ← HS.out, ← HWAS.out]; exact more key half f n i hi)
            have C1 := Lib.hid (show ∀ x, Rd x A n f → Calls Try.prog 16 #[.agg (byteCells one 32).toArray, .slice A n c] x fun e w' => e = .returned (.agg (byteCells S1 16).toArray) ∧ Below x.heap.size x w' from fun x hx => by
              rw [← hS1]
              exact sum_any one HKO.out A n c f HF.out (by omega) hc x hx)
            have C0 := Lib.hid (show ∀ x, Rd x A n f → Calls Try.prog 16 #[.agg (byteCells key 32).toArray, .slice A n c] x fun e w' => e = .returned (.agg (byteCells S0 16).toArray) ∧ Below x.heap.size x w' from fun x hx => by
              rw [← hS0]
              exact sum_any key HK.out A n c f HF.out (by omega) hc x hx)
            have C2 := Lib.hid (show ∀ x, Rd x A n f → Calls Try.prog 16 #[.agg (byteCells two 32).toArray, .slice A n c] x fun e w' => e = .returned (.agg (byteCells S2 16).toArray) ∧ Below x.heap.size x w' from fun x hx => by
              rw [← hS2]
              exact sum_any two HKT.out A n c f HF.out (by omega) hc x hx)
            have M1 := Lib.hid (show ∀ x, Calls Try.prog 21 #[.agg (byteCells S1 16).toArray, .agg (byteCells was 16).toArray] x fun e w' => e = .returned (.agg (byteCells P1 16).toArray) ∧ Below x.heap.size x w' from fun x => by
              rw [← hP1]
              exact more_any S1 was HL1.out HWL.out x)
            have M2 := Lib.hid (show ∀ x, Calls Try.prog 21 #[.agg (byteCells S0 16).toArray, .agg (byteCells half 16).toArray] x fun e w' => e = .returned (.agg (byteCells P2 16).toArray) ∧ Below x.heap.size x w' from fun x => by
              rw [← hP2]
              exact more_any S0 half HL0.out HH.out x)
            have E1 := Lib.hid (fun w => run_eql_arr (P := Try.prog) 25 5 16 Try.underlying25 Try.underlying5 size_u8 S0 P1 HL0.out HPL1.out true (by simp only [true_iff]; exact X1.out) w)
            have E2 := Lib.hid (fun w => run_eql_arr (P := Try.prog) 25 5 16 Try.underlying25 Try.underlying5 size_u8 S2 P2 HL2.out HPL2.out true (by simp only [true_iff]; exact X2.out) w)
            have Q1 := Lib.hid q1
            have Q2 := Lib.hid q2
            have Q3 := Lib.hid q3
            have Q4 := Lib.hid q4
            have Q5 := Lib.hid q5
            have QB := Lib.hid qb
            have HZ32 := Lib.hid (show ∀ f, (byteCells f 32).toArray.size = 32 from fun f => by rw [List.size_toArray, byteCells_length])
            clear q1 q2 q3 q4 q5 qb htwo hS0 hS1 hS2 hP1 hP2 HQ HQ4 hq4 HONE HTWO HWAS HS X1 X2
            go_wp2_with (refine wpList_load_row rfl 22 (.tmp 7) rfl g1 rfl 22 (byteCells one 32).toArray (0, 0) _ Q3.out rfl rfl (by rw [HZ32.out]; kernel_rfl) ?_)
            refine (C1.out _ (HA.out.below QB.out (by omega))).mono ?_
            rintro e w7 ⟨rfl, hb7⟩
            have R1 := Lib.hid (Q1.out.below hb7 Q1.out.lt)
            have R2 := Lib.hid (Q2.out.below hb7 Q2.out.lt)
            have R4 := Lib.hid (Q4.out.below hb7 Q4.out.lt)
            have R5 := Lib.hid (Q5.out.below hb7 Q5.out.lt)
            have RB := Lib.hid (QB.out.trans (hb7.mono (by have := Q1.out.lt; omega)))
            have r1 := R1.out.lt
            have r2 := R2.out.lt
            have r4 := R4.out.lt
            have r5 := R5.out.lt
            clear hb7 Q1 Q2 Q3 Q4 Q5 QB
            go_upto_region 16 with (refine wpList_store_row rfl 25 (.tmp 13) (.tmp 48) rfl w7.heap.size (byteCells S1 16).toArray rfl rfl 25 _ (Whole.new _ _ _) (by rw [HZ16.out]; kernel_rfl) (by rw [HZ16.out]; rfl) (bytes_one _ _) ?_)
            try simp only [Act.put]
            refine cut_world (fun X => Whole X B 22 (byteCells key 32).toArray ∧ Whole X (B + 1) 25 (byteCells half 16).toArray ∧ Whole X g2 22 (byteCells two 32).toArray ∧ Whole X g3 25 (byteCells was 16).toArray ∧ Whole X w7.heap.size 25 (byteCells S1 16).toArray ∧ Below B w X) ⟨Whole.farRow (R1.out.alloc _) (by omega) _, Whole.farRow (R2.out.alloc _) (by omega) _, Whole.farRow (R4.out.alloc _) (by omega) _, Whole.farRow (R5.out.alloc _) (by omega) _, setRow_heap _ _ _ _ _ _ (Whole.new _ _ _), below_setRow (RB.out.alloc (by omega) _) (by omega) _⟩ ?_
            rintro W8 ⟨q1, q2, q4, q5, q6, qb⟩
            have Q1 := Lib.hid q1
            have Q2 := Lib.hid q2
            have Q4 := Lib.hid q4
            have Q5 := Lib.hid q5
            have Q6 := Lib.hid q6
            have QB := Lib.hid qb
            have HR := Lib.hid (HA.out.below qb (by omega))
            have hl8 := q1.lt
            clear q1 q2 q4 q5 q6 qb R1 R2 R4 R5 RB r1 r2 r4 r5
            generalize w7.heap.size = g5 at Q6 ⊢
            refine q_start (by kernel_rfl) (by kernel_rfl) ?_
            refine q_call (.bool true) 14 (#[]) (by rfl) (by intro w; go_simp; try with_reducible rfl) (fun x hx => (alive_any x).mono fun e w' ⟨he, hb⟩ => ⟨he, below_trans hx hb⟩) ?_
            try simp only [Act.put, List.setIfInBounds_toArray, List.set_cons_zero, List.set_cons_succ]
            refine q_take _ (by rfl) (by intro w _; go_simp; with_reducible rfl) ?_
            try simp only [Act.put, List.setIfInBounds_toArray, List.set_cons_zero, List.set_cons_succ]
            refine q_take _ (by rfl) (fun x hx => run_load_in 22 (.tmp 3) rfl (B) rfl (byteCells (key) 32).toArray 32 (by rw [List.size_toArray, byteCells_length]) ((Q1.out).below hx (Q1.out).lt) rfl rfl (by kernel_rfl)) ?_
            try simp only [Act.put, List.setIfInBounds_toArray, List.set_cons_zero, List.set_cons_succ]
            refine q_take _ (by rfl) (by intro w _; go_simp; with_reducible rfl) ?_
            try simp only [Act.put, List.setIfInBounds_toArray, List.set_cons_zero, List.set_cons_succ]
            refine q_call (.agg (byteCells S0 16).toArray) 16 (#[.agg (byteCells key 32).toArray, .slice A n c]) (by rfl) (by intro w; go_simp; try with_reducible rfl) (fun x hx => (C0.out x (HR.out.below hx (Nat.le_refl _))).mono fun e w' ⟨he, hb⟩ => ⟨he, below_trans hx hb⟩) ?_
            try simp only [Act.put, List.setIfInBounds_toArray, List.set_cons_zero, List.set_cons_succ]
            refine q_take _ (by rfl) (fun x hx => run_load_in 25 (.tmp 13) rfl (g5) rfl (byteCells (S1) 16).toArray 16 (by rw [List.size_toArray, byteCells_length]) ((Q6.out).below hx (Q6.out).lt) rfl rfl (by kernel_rfl)) ?_
            try simp only [Act.put, List.setIfInBounds_toArray, List.set_cons_zero, List.set_cons_succ]
            refine q_take _ (by rfl) (fun x hx => run_load_in 25 (.tmp 9) rfl (g3) rfl (byteCells (was) 16).toArray 16 (by rw [List.size_toArray, byteCells_length]) ((Q5.out).below hx (Q5.out).lt) rfl rfl (by kernel_rfl)) ?_
            try simp only [Act.put, List.setIfInBounds_toArray, List.set_cons_zero, List.set_cons_succ]
            refine q_call (.agg (byteCells P1 16).toArray) 21 (#[.agg (byteCells S1 16).toArray, .agg (byteCells was 16).toArray]) (by rfl) (by intro w; go_simp; try with_reducible rfl) (fun x hx => (M1.out x).mono fun e w' ⟨he, hb⟩ => ⟨he, below_trans hx hb⟩) ?_
            try simp only [Act.put, List.setIfInBounds_toArray, List.set_cons_zero, List.set_cons_succ]
            refine q_take _ (by rfl) (by intro w _; go_simp; simp only [E1.out, Result.andThen_ok]; with_reducible rfl) ?_
            try simp only [Act.put, List.setIfInBounds_toArray, List.set_cons_zero, List.set_cons_succ]
            refine q_take _ (by rfl) (by intro w _; go_simp; with_reducible rfl) ?_
            try simp only [Act.put, List.setIfInBounds_toArray, List.set_cons_zero, List.set_cons_succ]
            refine q_take _ (by rfl) (by intro w _; go_simp; with_reducible rfl) ?_
            try simp only [Act.put, List.setIfInBounds_toArray, List.set_cons_zero, List.set_cons_succ]
            refine q_take _ (by rfl) (fun x hx => run_load_in 22 (.tmp 8) rfl (g2) rfl (byteCells (two) 32).toArray 32 (by rw [List.size_toArray, byteCells_length]) ((Q4.out).below hx (Q4.out).lt) rfl rfl (by kernel_rfl)) ?_
            try simp only [Act.put, List.setIfInBounds_toArray, List.set_cons_zero, List.set_cons_succ]
            refine q_take _ (by rfl) (by intro w _; go_simp; with_reducible rfl) ?_
            try simp only [Act.put, List.setIfInBounds_toArray, List.set_cons_zero, List.set_cons_succ]
            refine q_call (.agg (byteCells S2 16).toArray) 16 (#[.agg (byteCells two 32).toArray, .slice A n c]) (by rfl) (by intro w; go_simp; try with_reducible rfl) (fun x hx => (C2.out x (HR.out.below hx (Nat.le_refl _))).mono fun e w' ⟨he, hb⟩ => ⟨he, below_trans hx hb⟩) ?_
            try simp only [Act.put, List.setIfInBounds_toArray, List.set_cons_zero, List.set_cons_succ]
            refine q_take _ (by rfl) (fun x hx => run_load_in 22 (.tmp 3) rfl (B) rfl (byteCells (key) 32).toArray 32 (by rw [List.size_toArray, byteCells_length]) ((Q1.out).below hx (Q1.out).lt) rfl rfl (by kernel_rfl)) ?_
            try simp only [Act.put, List.setIfInBounds_toArray, List.set_cons_zero, List.set_cons_succ]
            refine q_take _ (by rfl) (by intro w _; go_simp; with_reducible rfl) ?_
            try simp only [Act.put, List.setIfInBounds_toArray, List.set_cons_zero, List.set_cons_succ]
            refine q_call (.agg (byteCells S0 16).toArray) 16 (#[.agg (byteCells key 32).toArray, .slice A n c]) (by rfl) (by intro w; go_simp; try with_reducible rfl) (fun x hx => (C0.out x (HR.out.below hx (Nat.le_refl _))).mono fun e w' ⟨he, hb⟩ => ⟨he, below_trans hx hb⟩) ?_
            try simp only [Act.put, List.setIfInBounds_toArray, List.set_cons_zero, List.set_cons_succ]
            refine q_take _ (by rfl) (fun x hx => run_load_in 25 (.tmp 4) rfl ((B + 1)) rfl (byteCells (half) 16).toArray 16 (by rw [List.size_toArray, byteCells_length]) ((Q2.out).below hx (Q2.out).lt) rfl rfl (by kernel_rfl)) ?_
            try simp only [Act.put, List.setIfInBounds_toArray, List.set_cons_zero, List.set_cons_succ]
            refine q_call (.agg (byteCells P2 16).toArray) 21 (#[.agg (byteCells S0 16).toArray, .agg (byteCells half 16).toArray]) (by rfl) (by intro w; go_simp; try with_reducible rfl) (fun x hx => (M2.out x).mono fun e w' ⟨he, hb⟩ => ⟨he, below_trans hx hb⟩) ?_
            try simp only [Act.put, List.setIfInBounds_toArray, List.set_cons_zero, List.set_cons_succ]
            refine q_take _ (by rfl) (by intro w _; go_simp; simp only [E2.out, Result.andThen_ok]; with_reducible rfl) ?_
            try simp only [Act.put, List.setIfInBounds_toArray, List.set_cons_zero, List.set_cons_succ]
            refine q_take _ (by rfl) (by intro w _; go_simp; with_reducible rfl) ?_
            try simp only [Act.put, List.setIfInBounds_toArray, List.set_cons_zero, List.set_cons_succ]
            refine q_take _ (by rfl) (by intro w _; go_simp; with_reducible rfl) ?_
            try simp only [Act.put, List.setIfInBounds_toArray, List.set_cons_zero, List.set_cons_succ]
            refine wpQuiet_nil ?_
            intro w9 hb9
            have HB9 := Lib.hid (QB.out.trans (hb9.mono (by omega)))
            clear hb9
            go_wp2_with fail
            go_ret
            exact ⟨rfl, by rw [hB]; exact HB9.out⟩

theorem walk (key half : Nat → Nat) (a2 : Option Addr) (len2 cap2 : Nat) (z2 : List Int) (w : World) (w0 : ∀ i, key i < 256) (w1 : ∀ i, half i < 256) (w2 : IsRow .u8 w a2 len2 cap2 z2) :
    Calls Try.prog 6 #[.agg (byteCells key 32).toArray, .agg (byteCells half 16).toArray, .slice a2 len2 cap2] w fun e w' => e = .returned (.bool true) ∧ Below w.heap.size w w' := by
  obtain ⟨f, hf, hr, hcap, hm⟩ := rd_of_row w2
  by_cases h1 : 2000 < len2
  · exact big key half a2 len2 cap2 h1 w
  · exact fits key half w0 w1 a2 len2 cap2 f hf (by omega) hcap w hr

end PolyMore
end Go.Proofs.Ytdffbjlbhjppeaa
