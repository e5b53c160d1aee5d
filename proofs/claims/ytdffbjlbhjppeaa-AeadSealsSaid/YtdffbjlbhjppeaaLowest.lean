/- The call lowest of package poly: the number below the prime. -/
import Derived.Test.YtdffbjlbhjppeaaTimes
import Derived.StillTailTactics
namespace Go.Proofs.Ytdffbjlbhjppeaa
namespace Poly
open Go.ChangeShapes Go.WideShapes Go.ChangeAt Go.RowKit
open Num Mem Words PolyN Chacha

theorem pick_zero (x y : Nat) (hx : x < 18446744073709551616) (hy : y < 18446744073709551616) : bits .or .u64 (bits .and .u64 (x : Int) 0) (bits .andNot .u64 (y : Int) 0) = ((y : Nat) : Int) := by
  have h1 := u64_and_nat x 0 hx (by omega)
  have h2 := u64_andNot_nat y 0 hy (by omega)
  rw [Nat.and_zero] at h1
  rw [show 18446744073709551615 - 0 = 2 ^ 64 - 1 from rfl, Nat.and_two_pow_sub_one_eq_mod, Nat.mod_eq_of_lt hy] at h2
  have h3 := u64_or_nat 0 y (by omega) hy
  rw [Nat.zero_or] at h3
  rw [show (0 : Int) = ((0 : Nat) : Int) from rfl, h1, h2, h3]
theorem pick_ones (x y : Nat) (hx : x < 18446744073709551616) (hy : y < 18446744073709551616) : bits .or .u64 (bits .and .u64 (x : Int) (IntKind.u64.wrap (-1))) (bits .andNot .u64 (y : Int) (IntKind.u64.wrap (-1))) = ((x : Nat) : Int) := by
  have h1 := u64_and_nat x 18446744073709551615 hx (by omega)
  have h2 := u64_andNot_nat y 18446744073709551615 hy (by omega)
  rw [show (18446744073709551615 : Nat) = 2 ^ 64 - 1 from rfl, Nat.and_two_pow_sub_one_eq_mod, Nat.mod_eq_of_lt hx] at h1
  rw [Nat.sub_self, Nat.and_zero] at h2
  have h3 := u64_or_nat x 0 hx (by omega)
  rw [Nat.or_zero] at h3
  rw [show IntKind.u64.wrap (-1) = ((2 ^ 64 - 1 : Nat) : Int) by rw [IntKind.wrap_u64]; rfl, h1, show ((2 ^ 64 - 1 : Nat) : Int) = ((18446744073709551615 : Nat) : Int) from rfl, h2, h3]

/-- what lies in memory while one of both numbers is chosen -/
def LowW (w : World) (B G : Nat) (l a : Nat → Nat) (wr : World) : Prop :=
  Whole wr B 61 (qcells a 5).toArray ∧ Whole wr (B + 1) 61 (qcells (fun _ => 0) 5).toArray ∧ Whole wr G 61 (qcells l 5).toArray ∧ B + 1 < G ∧ Below B w wr

theorem low_set {w wr : World} {B G : Nat} {l a a' : Nat → Nat} {m v : Nat} (nq : Nat) (h : LowW w B G l a wr) (ht : ∀ k, k < 5 → (if k = m then v else a k) = a' k) :
    LowW w B G l a' ((wr.drewN nq).setCell ⟨B, m, none⟩ (.int .u64 (v : Nat))) := by
  obtain ⟨q1, q2, q3, q4, qb⟩ := h
  refine ⟨?_, (q2.drewN nq).far (by simp) _, (q3.drewN nq).far (by simp; omega) _, q4, (below_drewN qb nq).setCell (by simp) _⟩
  have h := (q1.drewN nq).put m (.int .u64 (v : Nat))
  rw [qcells_set, qcells_congr ht] at h
  exact h

set_option maxRecDepth 100000 in
theorem lowest_zero (a : Nat → Nat) (h : ∀ i, i < 5 → a i < 67108869) (h' : ∀ i, 1 ≤ i → i < 5 → a i < 67108864) (hz : pc (ca a) 5 5 = 0) (w : World) :
    Calls Try.prog 54 #[.agg (qcells a 5).toArray] w fun e w' => e = .returned (.agg (qcells (ca a) 5).toArray) ∧ Below w.heap.size w w' := by
  have HZ := Lib.hid (show ((pc (ca a) 5 5 : Nat) : Int) = 0 by rw [hz]; rfl)
  have HC := Lib.hid (ca_thrice a h h')
  have HA := Lib.hid (show ∀ i, i < 5 → a i < 4611686018427387904 from fun i hi => by have := h i hi; omega)
  clear h h' hz
  rw [qcells_lit5]
  go_enter Try.func54, Try.ntmps54
  go_upto_region 1 with fail
  refine cut_world (fun W => Whole W w.heap.size 61 (qcells a 5).toArray ∧ Whole W (w.heap.size + 1) 61 (qcells (fun _ => 0) 5).toArray ∧ Below w.heap.size w W) ⟨?_, ?_, ?_⟩ ?_
  · rw [qcells_lit5]
    exact (whole_new _ _ rfl).alloc _
  · exact whole_new _ _ (by simp)
  · exact below_alloc (below_alloc (Below.refl _ _) _) _
  rintro W ⟨k1, k2, kb⟩
  have K1 := Lib.hid k1
  have K2 := Lib.hid k2
  have KB := Lib.hid kb
  have hb2 := k2.lt
  clear k1 k2 kb
  generalize hB : w.heap.size = B at K1 K2 KB hb2 ⊢
  go_wp2_with (refine wpList_load_row rfl 61 (.tmp 1) rfl B rfl 61 (qcells a 5).toArray (0, 0) _ K1.out rfl rfl (by rw [qcells_size]; kernel_rfl) ?_)
  refine (carry_any a HA.out _).mono ?_
  rintro e w1 ⟨rfl, hb⟩
  have L1 := Lib.hid (K1.out.below hb K1.out.lt)
  have L2 := Lib.hid (K2.out.below hb K2.out.lt)
  have LB := Lib.hid (KB.out.trans (hb.mono (by omega)))
  have hb3 := hb.size
  clear hb K1 K2 KB
  go_upto_region 2 with (refine wpList_store_row rfl 61 (.tmp 1) (.tmp 8) rfl B (qcells (ca a) 5).toArray rfl rfl 61 _ L1.out (by rw [qcells_size]; kernel_rfl) (by rw [qcells_size, qcells_size]) (qcells_one _ _) ?_)
  refine cut_world (fun W => Whole W B 61 (qcells (ca a) 5).toArray ∧ Whole W (B + 1) 61 (qcells (fun _ => 0) 5).toArray ∧ Below B w W) ⟨?_, ?_, ?_⟩ ?_
  · exact setRow_heap w1 _ _ _ _ _ L1.out
  · exact (setRow_other w1 B (B + 1) _ (by omega)).trans L2.out
  · exact below_setRow LB.out (by omega) _
  rintro W2 ⟨k1, k2, kb⟩
  have K1 := Lib.hid k1
  have K2 := Lib.hid k2
  have KB := Lib.hid kb
  have hb4 := k2.lt
  clear k1 k2 kb L1 L2 LB hb2 hb3
  go_wp2_with (refine wpList_load_row rfl 61 (.tmp 1) rfl B rfl 61 (qcells (ca a) 5).toArray (0, 0) _ K1.out rfl rfl (by rw [qcells_size]; kernel_rfl) ?_)
  refine (pass_any (ca a) 5 (fun i hi => by have := HC.out i hi; omega) (by omega) _).mono ?_
  rintro e w3 ⟨rfl, hb⟩
  rw [HZ.out]
  have L1 := Lib.hid (K1.out.below hb K1.out.lt)
  have L2 := Lib.hid (K2.out.below hb K2.out.lt)
  have LB := Lib.hid (KB.out.trans (hb.mono (by omega)))
  have hb5 := hb.size
  clear hb K1 K2 KB
  go_upto_region 3 with (refine wpList_store_row rfl 61 (.tmp 3) (.tmp 12) rfl w3.heap.size (qcells (po (ca a) 5) 5).toArray rfl rfl 61 _ (Whole.new _ _ _) (by rw [qcells_size]; kernel_rfl) (by rw [qcells_size]; rfl) (qcells_one _ _) ?_)
  refine cut_world (LowW w B w3.heap.size (po (ca a) 5) (ca a)) ⟨?_, ?_, ?_, ?_, ?_⟩ ?_
  · exact (setRow_other _ _ B _ (by omega)).trans (L1.out.alloc _)
  · exact (setRow_other _ _ (B + 1) _ (by omega)).trans (L2.out.alloc _)
  · exact setRow_heap _ _ _ _ _ _ (Whole.new _ _ _)
  · omega
  · exact below_setRow (LB.out.alloc (by omega) _) (by omega) _
  rintro W3 hW
  have HW := Lib.hid hW
  clear hW L1 L2 LB
  generalize w3.heap.size = G at HW ⊢
  go_wp2_with fail
  go_loopw [16] (fun i wr => ∃ k : Nat, k ≤ 5 ∧ i = .int .i64 k ∧ LowW w B G (po (ca a) 5) (fun i => if i < k then ca a i else ca a i) wr) (fun i _ => 5 - (intOf i).toNat)
  case atStart => exact ⟨0, by omega, rfl, HW.out⟩
  case round =>
    obtain ⟨k, hk, rfl, hq⟩ := hrel
    obtain ⟨q1, q2, q3, q4, qb⟩ := hq
    by_cases hlt : k < 5
    · have c1 := q1.num k hlt
      have c3 := q3.num k hlt
      have f1 := q1.free k
      rw [if_neg (Nat.lt_irrefl k)] at c1
      have HP := Lib.hid (pick_zero (po (ca a) 5 k) (ca a k) (by have := po_lt (ca a) 5 k; omega) (by have := HC.out k hlt; omega))
      have HQ := Lib.hid (show LowW w B G (po (ca a) 5) (fun i => if i < k then ca a i else ca a i) wr from ⟨q1, q2, q3, q4, qb⟩)
      clear q1 q2 q3 qb
      go_wp2_with fail
      refine wp_region_still_tail 13 (by kernel_rfl) (by kernel_rfl) ?_
      simp only [List.take_succ_cons, List.take_zero, List.drop_succ_cons, List.drop_zero]
      repeat still_step
      refine wpStill_nil ?_
      change wpList _ _ _ _ _ wr.drew
      rw [HP.out]
      go_wp2_with fail
      go_roundw
      case rel => exact ⟨k + 1, by omega, by go_num, low_set (v := ca a k) 1 HQ.out (fun i _ => by
        by_cases e : i = k
        · subst e
          rw [if_pos rfl, if_pos (by omega)]
        · rw [if_neg e]
          by_cases l : i < k
          · rw [if_pos l, if_pos (by omega)]
          · rw [if_neg l, if_neg (by omega)])⟩
      case measure => simp [intOf]; omega
    · obtain rfl : k = 5 := by omega
      rw [qcells_congr (g := ca a) (fun i hi => if_pos hi)] at q1
      have Q1 := Lib.hid q1
      have Q2 := Lib.hid q2
      have QB := Lib.hid qb
      clear q1 q2 q3 qb
      go_wp2_with (first | (refine wpList_load_row rfl 61 (.tmp 1) rfl B rfl 61 (qcells (ca a) 5).toArray (0, 0) _ Q1.out rfl rfl (by rw [qcells_size]; kernel_rfl) ?_) | (refine wpList_store_row rfl 61 (.tmp 2) (.tmp 33) rfl (B + 1) (qcells (ca a) 5).toArray rfl rfl 61 _ Q2.out (by rw [qcells_size]; kernel_rfl) (by rw [qcells_size, qcells_size]) (qcells_one _ _) ?_))
      have hret : Whole (wr.setRow (B + 1) (qcells (ca a) 5).toArray) (B + 1) 61 (qcells (ca a) 5).toArray := setRow_heap wr _ _ _ _ _ Q2.out
      refine bodyPost_ret (results_cell_row rfl _ _ (B + 1) 61 _ (0, 0) _ rfl hret rfl rfl (by rw [qcells_size]; kernel_rfl)) rfl ?_
      exact ⟨rfl, by rw [hB]; exact below_setRow QB.out (by omega) _⟩

set_option maxRecDepth 100000 in
theorem lowest_one (a : Nat → Nat) (h : ∀ i, i < 5 → a i < 67108869) (h' : ∀ i, 1 ≤ i → i < 5 → a i < 67108864) (hz : pc (ca a) 5 5 = 1) (w : World) :
    Calls Try.prog 54 #[.agg (qcells a 5).toArray] w fun e w' => e = .returned (.agg (qcells (po (ca a) 5) 5).toArray) ∧ Below w.heap.size w w' := by
  have HZ := Lib.hid (show ((pc (ca a) 5 5 : Nat) : Int) = 1 by rw [hz]; rfl)
  have HC := Lib.hid (ca_thrice a h h')
  have HA := Lib.hid (show ∀ i, i < 5 → a i < 4611686018427387904 from fun i hi => by have := h i hi; omega)
  clear h h' hz
  rw [qcells_lit5]
  go_enter Try.func54, Try.ntmps54
  go_upto_region 1 with fail
  refine cut_world (fun W => Whole W w.heap.size 61 (qcells a 5).toArray ∧ Whole W (w.heap.size + 1) 61 (qcells (fun _ => 0) 5).toArray ∧ Below w.heap.size w W) ⟨?_, ?_, ?_⟩ ?_
  · rw [qcells_lit5]
    exact (whole_new _ _ rfl).alloc _
  · exact whole_new _ _ (by simp)
  · exact below_alloc (below_alloc (Below.refl _ _) _) _
  rintro W ⟨k1, k2, kb⟩
  have K1 := Lib.hid k1
  have K2 := Lib.hid k2
  have KB := Lib.hid kb
  have hb2 := k2.lt
  clear k1 k2 kb
  generalize hB : w.heap.size = B at K1 K2 KB hb2 ⊢
  go_wp2_with (refine wpList_load_row rfl 61 (.tmp 1) rfl B rfl 61 (qcells a 5).toArray (0, 0) _ K1.out rfl rfl (by rw [qcells_size]; kernel_rfl) ?_)
  refine (carry_any a HA.out _).mono ?_
  rintro e w1 ⟨rfl, hb⟩
  have L1 := Lib.hid (K1.out.below hb K1.out.lt)
  have L2 := Lib.hid (K2.out.below hb K2.out.lt)
  have LB := Lib.hid (KB.out.trans (hb.mono (by omega)))
  have hb3 := hb.size
  clear hb K1 K2 KB
  go_upto_region 2 with (refine wpList_store_row rfl 61 (.tmp 1) (.tmp 8) rfl B (qcells (ca a) 5).toArray rfl rfl 61 _ L1.out (by rw [qcells_size]; kernel_rfl) (by rw [qcells_size, qcells_size]) (qcells_one _ _) ?_)
  refine cut_world (fun W => Whole W B 61 (qcells (ca a) 5).toArray ∧ Whole W (B + 1) 61 (qcells (fun _ => 0) 5).toArray ∧ Below B w W) ⟨?_, ?_, ?_⟩ ?_
  · exact setRow_heap w1 _ _ _ _ _ L1.out
  · exact (setRow_other w1 B (B + 1) _ (by omega)).trans L2.out
  · exact below_setRow LB.out (by omega) _
  rintro W2 ⟨k1, k2, kb⟩
  have K1 := Lib.hid k1
  have K2 := Lib.hid k2
  have KB := Lib.hid kb
  have hb4 := k2.lt
  clear k1 k2 kb L1 L2 LB hb2 hb3
  go_wp2_with (refine wpList_load_row rfl 61 (.tmp 1) rfl B rfl 61 (qcells (ca a) 5).toArray (0, 0) _ K1.out rfl rfl (by rw [qcells_size]; kernel_rfl) ?_)
  refine (pass_any (ca a) 5 (fun i hi => by have := HC.out i hi; omega) (by omega) _).mono ?_
  rintro e w3 ⟨rfl, hb⟩
  rw [HZ.out]
  have L1 := Lib.hid (K1.out.below hb K1.out.lt)
  have L2 := Lib.hid (K2.out.below hb K2.out.lt)
  have LB := Lib.hid (KB.out.trans (hb.mono (by omega)))
  have hb5 := hb.size
  clear hb K1 K2 KB
  go_upto_region 3 with (refine wpList_store_row rfl 61 (.tmp 3) (.tmp 12) rfl w3.heap.size (qcells (po (ca a) 5) 5).toArray rfl rfl 61 _ (Whole.new _ _ _) (by rw [qcells_size]; kernel_rfl) (by rw [qcells_size]; rfl) (qcells_one _ _) ?_)
  refine cut_world (LowW w B w3.heap.size (po (ca a) 5) (ca a)) ⟨?_, ?_, ?_, ?_, ?_⟩ ?_
  · exact (setRow_other _ _ B _ (by omega)).trans (L1.out.alloc _)
  · exact (setRow_other _ _ (B + 1) _ (by omega)).trans (L2.out.alloc _)
  · exact setRow_heap _ _ _ _ _ _ (Whole.new _ _ _)
  · omega
  · exact below_setRow (LB.out.alloc (by omega) _) (by omega) _
  rintro W3 hW
  have HW := Lib.hid hW
  clear hW L1 L2 LB
  generalize w3.heap.size = G at HW ⊢
  go_wp2_with fail
  go_loopw [16] (fun i wr => ∃ k : Nat, k ≤ 5 ∧ i = .int .i64 k ∧ LowW w B G (po (ca a) 5) (fun i => if i < k then po (ca a) 5 i else ca a i) wr) (fun i _ => 5 - (intOf i).toNat)
  case atStart => exact ⟨0, by omega, rfl, HW.out⟩
  case round =>
    obtain ⟨k, hk, rfl, hq⟩ := hrel
    obtain ⟨q1, q2, q3, q4, qb⟩ := hq
    by_cases hlt : k < 5
    · have c1 := q1.num k hlt
      have c3 := q3.num k hlt
      have f1 := q1.free k
      rw [if_neg (Nat.lt_irrefl k)] at c1
      have HP := Lib.hid (pick_ones (po (ca a) 5 k) (ca a k) (by have := po_lt (ca a) 5 k; omega) (by have := HC.out k hlt; omega))
      have HQ := Lib.hid (show LowW w B G (po (ca a) 5) (fun i => if i < k then po (ca a) 5 i else ca a i) wr from ⟨q1, q2, q3, q4, qb⟩)
      clear q1 q2 q3 qb
      go_wp2_with fail
      refine wp_region_still_tail 13 (by kernel_rfl) (by kernel_rfl) ?_
      simp only [List.take_succ_cons, List.take_zero, List.drop_succ_cons, List.drop_zero]
      repeat still_step
      refine wpStill_nil ?_
      change wpList _ _ _ _ _ wr.drew
      rw [HP.out]
      go_wp2_with fail
      go_roundw
      case rel => exact ⟨k + 1, by omega, by go_num, low_set (v := po (ca a) 5 k) 1 HQ.out (fun i _ => by
        by_cases e : i = k
        · subst e
          rw [if_pos rfl, if_pos (by omega)]
        · rw [if_neg e]
          by_cases l : i < k
          · rw [if_pos l, if_pos (by omega)]
          · rw [if_neg l, if_neg (by omega)])⟩
      case measure => simp [intOf]; omega
    · obtain rfl : k = 5 := by omega
      rw [qcells_congr (g := po (ca a) 5) (fun i hi => if_pos hi)] at q1
      have Q1 := Lib.hid q1
      have Q2 := Lib.hid q2
      have QB := Lib.hid qb
      clear q1 q2 q3 qb
      go_wp2_with (first | (refine wpList_load_row rfl 61 (.tmp 1) rfl B rfl 61 (qcells (po (ca a) 5) 5).toArray (0, 0) _ Q1.out rfl rfl (by rw [qcells_size]; kernel_rfl) ?_) | (refine wpList_store_row rfl 61 (.tmp 2) (.tmp 33) rfl (B + 1) (qcells (po (ca a) 5) 5).toArray rfl rfl 61 _ Q2.out (by rw [qcells_size]; kernel_rfl) (by rw [qcells_size, qcells_size]) (qcells_one _ _) ?_))
      have hret : Whole (wr.setRow (B + 1) (qcells (po (ca a) 5) 5).toArray) (B + 1) 61 (qcells (po (ca a) 5) 5).toArray := setRow_heap wr _ _ _ _ _ Q2.out
      refine bodyPost_ret (results_cell_row rfl _ _ (B + 1) 61 _ (0, 0) _ rfl hret rfl rfl (by rw [qcells_size]; kernel_rfl)) rfl ?_
      exact ⟨rfl, by rw [hB]; exact below_setRow QB.out (by omega) _⟩

theorem lowest_any (a : Nat → Nat) (h : ∀ i, i < 5 → a i < 67108869) (h' : ∀ i, 1 ≤ i → i < 5 → a i < 67108864) (w : World) :
    Calls Try.prog 54 #[.agg (qcells a 5).toArray] w fun e w' => e = .returned (.agg (qcells (lo a) 5).toArray) ∧ Below w.heap.size w w' := by
  have hs := (lo_spec a h h').1
  rcases Nat.eq_zero_or_pos (pc (ca a) 5 5) with e | e
  · rw [qcells_congr (f := lo a) (g := ca a) (fun i _ => by unfold lo; rw [if_pos e])]
    exact lowest_zero a h h' e w
  · rw [qcells_congr (f := lo a) (g := po (ca a) 5) (fun i _ => by unfold lo; rw [if_neg (by omega)])]
    exact lowest_one a h h' (by omega) w

end Poly
end Go.Proofs.Ytdffbjlbhjppeaa
