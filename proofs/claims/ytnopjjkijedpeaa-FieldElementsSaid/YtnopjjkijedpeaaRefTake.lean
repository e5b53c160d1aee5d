/- The document's own answers of layer 5 (package aditref05): Take, Small. -/
import Derived.Test.YtnopjjkijedpeaaRefBytes
namespace Go.Proofs.Ytnopjjkijedpeaa
namespace RefF
open Go.ChangeShapes Go.WideShapes Go.ChangeAt Go.RowKit
open Num Mem Words Radix FieldN Chacha Quiet

theorem T_M15 : T = 65536 ^ 15 * 32768 := by unfold T; decide

/-- a limb out of two bytes -/
theorem two_bytes (f : Nat → Nat) (hf : ∀ i, f i < 256) (i : Nat) (hi : i < 16) : f (2 * i) + 256 * f (2 * i + 1) = dg 65536 (le f 0 32) i := by
  have h := Field.le_part f hf (2 * i) 2 32 (by omega)
  have e : le f (2 * i) 2 = f (2 * i) + 256 * f (2 * i + 1) := by
    simp [le]
    omega
  rw [e] at h
  rw [h, dg, show (65536 : Nat) = 2 ^ 16 from rfl, ← Nat.pow_mul, show 8 * (2 * i) = 16 * i by omega]

/-- what is taken has the same limbs, but for the digit that does not count -/
theorem take_limb (v i : Nat) (hi : i < 16) : (if i = 15 then dg 65536 v 15 % 32768 else dg 65536 v i) = dg 65536 (v % T) i := by
  have hT := T_M15
  by_cases e : i = 15
  · subst e
    rw [if_pos rfl, dg, dg, hT, Nat.mod_mul_right_div_self]
    omega
  · rw [if_neg e]
    have h := Nat.div_add_mod v T
    rw [Nat.add_comm] at h
    conv => lhs; rw [← h, hT, show 65536 ^ 15 * 32768 * (v / (65536 ^ 15 * 32768)) = 32768 * (v / (65536 ^ 15 * 32768)) * 65536 ^ 15 by ac_rfl]
    rw [dg_low (by omega) _ _ i 15 (by omega), ← hT]

theorem take_sum (a b : Nat) (ha : a < 256) (hb : b < 256) : IntKind.i64.wrap (IntKind.i64.wrap (a : Int) + IntKind.i64.wrap (256 * IntKind.i64.wrap (b : Int))) = ((a + 256 * b : Nat) : Int) := by
  have e1 : IntKind.i64.wrap (a : Int) = (a : Int) := by rw [IntKind.wrap_i64]; omega
  have e2 : IntKind.i64.wrap (b : Int) = (b : Int) := by rw [IntKind.wrap_i64]; omega
  have e3 : IntKind.i64.wrap (256 * (b : Int)) = 256 * (b : Int) := by rw [IntKind.wrap_i64]; omega
  rw [e1, e2, e3, IntKind.wrap_i64]
  omega

set_option maxRecDepth 100000 in
theorem take_any (A : Option Addr) (c : Nat) (f : Nat → Nat) (hf : ∀ i, f i < 256) (w : World) (hr : Rd w A 32 f) :
    Calls Try.prog 10 #[.slice A 32 c] w fun e w' => e = .returned (nv (le f 0 32 % T)) ∧ Below w.heap.size w w' := by
  rcases hr with h0 | ⟨b, off, rfl, hblk, hcell⟩
  · omega
  obtain ⟨G, hG⟩ : ∃ G, G = dg 65536 (le f 0 32) := ⟨_, rfl⟩
  obtain ⟨R, hR⟩ : ∃ R, R = dg 65536 (le f 0 32 % T) := ⟨_, rfl⟩
  have HG := Lib.hid (show ∀ i, i < 16 → f (2 * i) + 256 * f (2 * i + 1) = G i from fun i hi => by rw [hG]; exact two_bytes f hf i hi)
  have HR := Lib.hid (show ∀ i, i < 16 → (if i = 15 then G 15 % 32768 else G i) = R i from fun i hi => by rw [hG, hR]; exact take_limb (le f 0 32) i hi)
  have HGL := Lib.hid (show ∀ i, G i < 65536 from fun i => by rw [hG]; exact lim_lt _ i)
  have HC := Lib.hid hcell
  have HF := Lib.hid hf
  have HRR := Lib.hid hR
  clear hG hR hf hcell
  go_enter Try.func10, Try.ntmps10
  go_upto_region 2 with fail
  refine cut_world (fun W => Whole W w.heap.size 24 (icells (fun _ => 0) 16).toArray ∧ Whole W (w.heap.size + 1) 24 (icells (fun _ => 0) 16).toArray ∧ Below w.heap.size w W) ⟨?_, ?_, ?_⟩ ?_
  · rw [icells_lit16 fun _ => 0]
    exact (whole_new _ _ rfl).alloc _
  · rw [icells_lit16 fun _ => 0]
    exact whole_new _ _ (by simp)
  · exact below_alloc (below_alloc (Below.refl _ _) _) _
  rintro W ⟨k1, k2, kb⟩
  have K1 := Lib.hid k1
  have K2 := Lib.hid k2
  have KB := Lib.hid kb
  clear k1 k2 kb
  generalize hB : w.heap.size = B at K1 K2 KB hblk ⊢
  go_wp2_with fail
  go_loopw [4] (fun i wr => ∃ k : Nat, k ≤ 16 ∧ i = .int .i64 k ∧ Whole wr B 24 (icells (fun _ => 0) 16).toArray ∧ Whole wr (B + 1) 24 (icells (fun i => if i < k then G i else 0) 16).toArray ∧ Below B w wr) (fun i _ => 16 - (intOf i).toNat)
  case atStart => exact ⟨0, by omega, rfl, K1.out, K2.out, KB.out⟩
  case round =>
    obtain ⟨k, hk, rfl, q1, q2, qb⟩ := hrel
    by_cases hlt : k < 16
    · have ik : (k : Int) < 16 := by omega
      obtain ⟨m, hm⟩ : ∃ m, m = 2 * k := ⟨_, rfl⟩
      obtain ⟨m1, hm1⟩ : ∃ m1, m1 = 2 * k + 1 := ⟨_, rfl⟩
      have c1 := (qb.cell (p := ⟨b, off + m, none⟩) hblk).trans (HC.out m (by omega))
      have c2 := (qb.cell (p := ⟨b, off + m1, none⟩) hblk).trans (HC.out m1 (by omega))
      have f2 := q2.free k
      have c3 := q2.inum k hlt
      have x1 := HF.out m
      have x2 := HF.out m1
      have im : (m : Int) < 32 := by omega
      have im1 : (m1 : Int) < 32 := by omega
      have HW1 := Lib.hid (show IntKind.i64.wrap (2 * (k : Int)) = (m : Int) by rw [IntKind.wrap_i64]; omega)
      have HW2 := Lib.hid (show IntKind.i64.wrap ((m : Int) + 1) = (m1 : Int) by rw [IntKind.wrap_i64]; omega)
      have hgk : G k = f m + 256 * f m1 := by rw [hm, hm1]; exact (HG.out k hlt).symm
      have HS := Lib.hid (show IntKind.i64.wrap (IntKind.i64.wrap (f m : Int) + IntKind.i64.wrap (256 * IntKind.i64.wrap (f m1 : Int))) = (G k : Int) by
        rw [hgk]
        exact take_sum _ _ x1 x2)
      have HN := Lib.hid (icells_next (a := fun _ => 0) (b := G) (n := 16) (k := k) (G k) rfl)
      have Q1 := Lib.hid q1
      have Q2 := Lib.hid q2
      have QB := Lib.hid qb
      clear q1 q2 qb hm hm1 hgk
      go_wp2_with fail
      refine wp_region_still_tail 16 (by kernel_rfl) (by kernel_rfl) ?_
      simp only [List.take_succ_cons, List.take_zero, List.drop_succ_cons, List.drop_zero]
      repeat still_step
      rw [HW1.out]
      repeat still_step
      rw [HW1.out, HW2.out]
      repeat still_step
      refine wpStill_nil ?_
      change wpList _ _ _ _ _ wr.drew
      rw [HS.out]
      go_wp2_with fail
      go_roundw
      case rel =>
        refine ⟨k + 1, by omega, by go_num, Q1.out.drew.far (by simp) _, ?_, (below_drewN QB.out 1).setCell (by simp) _⟩
        have h := Q2.out.drew.put k (.int .i64 (G k : Nat))
        rw [icells_set, HN.out] at h
        exact h
      case measure => simp [intOf]; omega
    · obtain rfl : k = 16 := by omega
      rw [icells_congr (g := G) (fun i hi => if_pos hi)] at q2
      rw [show ((16 : Nat) : Int) = 16 from rfl]
      have c15 := q2.inum 15 (by omega)
      have f15 := q2.free 15
      have g15 := HGL.out 15
      have HS := Lib.hid (show ((G 15 : Nat) : Int) % 32768 = ((G 15 % 32768 : Nat) : Int) by omega)
      have h := q2.put 15 (.int .i64 (G 15 % 32768 : Nat))
      rw [icells_set, icells_congr (g := R) (fun i hi => HR.out i hi)] at h
      have Q1 := Lib.hid (q1.far (p := ⟨B + 1, 15, none⟩) (by simp) (.int .i64 (G 15 % 32768 : Nat)))
      have Q2 := Lib.hid h
      have QB := Lib.hid (qb.setCell (p := ⟨B + 1, 15, none⟩) (by simp) (.int .i64 (G 15 % 32768 : Nat)))
      clear q1 q2 qb h
      go_upto_region 7 with fail
      rw [HS.out]
      refine cut_world (fun X => Whole X B 24 (icells (fun _ => 0) 16).toArray ∧ Whole X (B + 1) 24 (icells R 16).toArray ∧ Below B w X) ⟨Q1.out, Q2.out, QB.out⟩ ?_
      clear Q1 Q2 QB c15 f15
      rintro X ⟨k1, k2, kb⟩
      have R1 := Lib.hid k1
      have R2 := Lib.hid k2
      have RB := Lib.hid kb
      clear k1 k2 kb
      go_wp2_with (first | (refine wpList_load_row rfl 24 (.tmp 3) rfl (B + 1) rfl 24 (icells R 16).toArray (0, 0) _ R2.out rfl rfl (by rw [icells_size]; kernel_rfl) ?_) | (refine wpList_store_row rfl 24 (.tmp 2) (.tmp 30) rfl B (icells R 16).toArray rfl rfl 24 _ R1.out (by rw [icells_size]; kernel_rfl) (by rw [icells_size, icells_size]) (icells_one _ _) ?_))
      have hret : Whole (X.setRow B (icells R 16).toArray) B 24 (icells R 16).toArray := setRow_heap _ _ _ _ _ _ R1.out
      refine bodyPost_ret (results_cell_row rfl _ _ B 24 _ (0, 0) _ rfl hret rfl rfl (by rw [icells_size]; kernel_rfl)) rfl ?_
      exact ⟨by rw [nv, HRR.out], by rw [hB]; exact below_setRow RB.out (by omega) _⟩

theorem small_limb (n i : Nat) (hn : n < 4294967296) : (if i = 1 then n / 65536 else if i = 0 then n % 65536 else 0) = dg 65536 n i := by
  unfold dg
  rcases i with _ | _ | i
  · rw [if_neg (by omega), if_pos rfl, Nat.pow_zero, Nat.div_one]
  · rw [if_pos rfl, Nat.zero_add, Nat.pow_one, Nat.mod_eq_of_lt (by omega)]
  · rw [if_neg (by omega), if_neg (by omega), show i + 1 + 1 = 2 + i by omega, Nat.pow_add, ← Nat.div_div_eq_div_mul, Nat.div_eq_of_lt (show n < 65536 ^ 2 by omega), Nat.zero_div, Nat.zero_mod]

set_option maxRecDepth 100000 in
theorem small_any (n : Nat) (hn : n < 4294967296) (w : World) :
    Calls Try.prog 25 #[.int .u32 n] w fun e w' => e = .returned (nv n) ∧ Below w.heap.size w w' := by
  have HL := Lib.hid (fun i => small_limb n i hn)
  go_enter Try.func25, Try.ntmps25
  go_upto_region 2 with fail
  refine cut_world (fun W => Whole W w.heap.size 24 (icells (fun _ => 0) 16).toArray ∧ Whole W (w.heap.size + 1) 24 (icells (fun _ => 0) 16).toArray ∧ Below w.heap.size w W) ⟨?_, ?_, ?_⟩ ?_
  · rw [icells_lit16 fun _ => 0]
    exact (whole_new _ _ rfl).alloc _
  · rw [icells_lit16 fun _ => 0]
    exact whole_new _ _ (by simp)
  · exact below_alloc (below_alloc (Below.refl _ _) _) _
  rintro W ⟨k1, k2, kb⟩
  have K1 := Lib.hid k1
  have K2 := Lib.hid k2
  have KB := Lib.hid kb
  have c0 := k2.inum 0 (by omega)
  have f0 := k2.free 0
  have c1 := k2.inum 1 (by omega)
  have f1 := k2.free 1
  have HA := Lib.hid (show (n : Int) % 65536 = ((n % 65536 : Nat) : Int) by omega)
  have HB := Lib.hid (show (n : Int) / 65536 = ((n / 65536 : Nat) : Int) by omega)
  have h := (k2.put 0 (.int .i64 (n % 65536 : Nat))).put 1 (.int .i64 (n / 65536 : Nat))
  rw [icells_set, icells_set, icells_congr (g := dg 65536 n) (fun i hi => HL.out i)] at h
  have HH := Lib.hid h
  clear k1 k2 kb h
  generalize hB : w.heap.size = B at K1 K2 KB HH c0 f0 c1 f1 ⊢
  go_upto_region 4 with fail
  rw [HA.out, HB.out]
  refine cut_world (fun X => Whole X B 24 (icells (fun _ => 0) 16).toArray ∧ Whole X (B + 1) 24 (icells (dg 65536 n) 16).toArray ∧ Below B w X) ⟨(K1.out.far (by simp) _).far (by simp) _, HH.out, (KB.out.setCell (by simp) _).setCell (by simp) _⟩ ?_
  clear K1 K2 KB HH c0 f0 c1 f1
  rintro X ⟨k1, k2, kb⟩
  have R1 := Lib.hid k1
  have R2 := Lib.hid k2
  have RB := Lib.hid kb
  clear k1 k2 kb
  go_wp2_with (first | (refine wpList_load_row rfl 24 (.tmp 3) rfl (B + 1) rfl 24 (icells (dg 65536 n) 16).toArray (0, 0) _ R2.out rfl rfl (by rw [icells_size]; kernel_rfl) ?_) | (refine wpList_store_row rfl 24 (.tmp 2) (.tmp 12) rfl B (icells (dg 65536 n) 16).toArray rfl rfl 24 _ R1.out (by rw [icells_size]; kernel_rfl) (by rw [icells_size, icells_size]) (icells_one _ _) ?_))
  have hret : Whole (X.setRow B (icells (dg 65536 n) 16).toArray) B 24 (icells (dg 65536 n) 16).toArray := setRow_heap _ _ _ _ _ _ R1.out
  refine bodyPost_ret (results_cell_row rfl _ _ B 24 _ (0, 0) _ rfl hret rfl rfl (by rw [icells_size]; kernel_rfl)) rfl ?_
  exact ⟨by rw [nv], by rw [hB]; exact below_setRow RB.out (by omega) _⟩

end RefF
end Go.Proofs.Ytnopjjkijedpeaa
