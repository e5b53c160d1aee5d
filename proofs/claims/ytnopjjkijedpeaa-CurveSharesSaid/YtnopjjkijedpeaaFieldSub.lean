/- The call Minus of package field. -/
import Derived.Test.YtnopjjkijedpeaaFieldOps
namespace Go.Proofs.Ytnopjjkijedpeaa
namespace Field
open Go.ChangeShapes Go.WideShapes Go.ChangeAt Go.RowKit
open Num Mem Words Radix FieldN Chacha

/-- what a pass leaves is the number without what goes past 2^255 -/
theorem po_val (z : Nat → Nat) (o : Nat) : rv 2251799813685248 (po z o) 5 = (rv 2251799813685248 z 5 + o) % T := by
  rw [← T_pow, ← rv_dg]
  exact rv_congr 5 fun i hi => cy_stay (by omega) z o 5 i hi
theorem cy_top (z : Nat → Nat) (o : Nat) : cy 2251799813685248 z o 5 = (rv 2251799813685248 z 5 + o) / T := by rw [cy_div (by omega), T_pow]
theorem po_lt (z : Nat → Nat) (o i : Nat) : po z o i < 2251799813685248 := Nat.mod_lt _ (by omega)

/-- what goes past 2^255 comes back, and the number stays below twice the prime -/
theorem back_fits (v : Nat) (h : 19 * (v / T) < 4611686018427387904) : v % T + 19 * (v / T) < 2 * P := by
  have h1 := P_T
  have h2 := P_big
  have := Nat.mod_lt v (show 0 < T by omega)
  omega

set_option maxRecDepth 100000 in
theorem sub_any (a b : Nat) (ha : a < P) (hb : b < P) (w : World) :
    Calls Try.prog 21 #[el a, el b] w fun e w' => e = .returned (el ((a + (P - b)) % P)) ∧ Below w.heap.size w w' := by
  obtain ⟨x, hx⟩ : ∃ x, x = dg 2251799813685248 a := ⟨_, rfl⟩
  obtain ⟨y, hy⟩ : ∃ y, y = dg 2251799813685248 b := ⟨_, rfl⟩
  obtain ⟨z, hz⟩ : ∃ z, z = fun i => x i + (mo i - y i) := ⟨_, rfl⟩
  have HX := Lib.hid (show ∀ i, x i < 2251799813685248 from fun i => by rw [hx]; exact limb_lt a i)
  have HY := Lib.hid (show ∀ i, y i < 2251799813685248 from fun i => by rw [hy]; exact limb_lt b i)
  have HZ := Lib.hid (show ∀ i, z i = x i + (mo i - y i) from fun i => by rw [hz])
  have hmo : ∀ i, 4503599627370458 ≤ mo i ∧ mo i ≤ 4503599627370494 := fun i => by unfold mo; split <;> omega
  have HZL := Lib.hid (show ∀ i, i < 5 → z i < 9223372036854775808 from fun i _ => by rw [HZ.out]; have := HX.out i; have := hmo i; omega)
  have hval : rv 2251799813685248 z 5 = a + 2 * P - b := by
    have h1 : rv 2251799813685248 (fun i => z i + y i) 5 = rv 2251799813685248 (fun i => x i + mo i) 5 := rv_congr 5 fun i _ => by
      rw [HZ.out]
      have := HY.out i
      have := hmo i
      omega
    rw [rv_add, rv_add, rv_mo, hx, hy, rv_limbs a (below_T ha), rv_limbs b (below_T hb)] at h1
    omega
  have hov : 19 * (rv 2251799813685248 z 5 / T) < 4611686018427387904 := by
    have h1 := P_T
    have h2 := P_big
    have : rv 2251799813685248 z 5 / T < 3 := Nat.div_lt_of_lt_mul (by omega)
    omega
  obtain ⟨o, ho⟩ : ∃ o, o = cy 2251799813685248 z 0 5 := ⟨_, rfl⟩
  have ho' : o = rv 2251799813685248 z 5 / T := by rw [ho, cy_top, Nat.add_zero]
  have hpo : rv 2251799813685248 (po z 0) 5 = rv 2251799813685248 z 5 % T := by rw [po_val, Nat.add_zero]
  have HO := Lib.hid (show 19 * o < 4611686018427387904 by rw [ho']; exact hov)
  have HV := Lib.hid (show rv 2251799813685248 (po z 0) 5 + 19 * o < 2 * P by rw [hpo, ho']; exact back_fits _ hov)
  have HE := Lib.hid (show dg 2251799813685248 ((rv 2251799813685248 (po z 0) 5 + 19 * o) % P) = dg 2251799813685248 ((a + (P - b)) % P) by
    rw [hpo, ho', back_mod, hval, show a + 2 * P - b = a + (P - b) + P by omega, Nat.add_mod_right])
  have HOC := Lib.hid ho.symm
  have HPL := Lib.hid (show ∀ i, i < 5 → po z 0 i < 4611686018427387904 from fun i _ => by have := po_lt z 0 i; omega)
  rw [el, el, ← hx, ← hy, qcells_lit5, qcells_lit5]
  clear hx hy hz hval ha hb hov ho ho' hpo hmo
  go_enter Try.func21, Try.ntmps21
  go_upto_region 1 with fail
  refine cut_world (fun W => Whole W w.heap.size 38 (qcells x 5).toArray ∧ Whole W (w.heap.size + 1) 38 (qcells y 5).toArray ∧ Whole W (w.heap.size + 1 + 1) 38 (qcells (fun _ => 0) 5).toArray ∧ Below w.heap.size w W) ⟨?_, ?_, ?_, ?_⟩ ?_
  · rw [qcells_lit5]
    exact ((whole_new _ _ rfl).alloc _).alloc _
  · rw [qcells_lit5]
    exact (whole_new _ _ (by simp)).alloc _
  · exact whole_new _ _ (by simp)
  · exact below_alloc (below_alloc (below_alloc (Below.refl _ _) _) _) _
  rintro W ⟨k1, k2, k3, kb⟩
  have K1 := Lib.hid k1
  have K2 := Lib.hid k2
  have K3 := Lib.hid k3
  have KB := Lib.hid kb
  clear k1 k2 k3 kb
  generalize hB : w.heap.size = B at K1 K2 K3 KB ⊢
  go_wp2_with fail
  go_loopw [7] (fun i wr => ∃ k : Nat, k ≤ 5 ∧ i = .int .i64 k ∧ Whole wr B 38 (qcells (fun i => if i < k then z i else x i) 5).toArray ∧ Whole wr (B + 1) 38 (qcells y 5).toArray ∧ Whole wr (B + 1 + 1) 38 (qcells (fun _ => 0) 5).toArray ∧ Below B w wr) (fun i _ => 5 - (intOf i).toNat)
  case atStart => exact ⟨0, by omega, rfl, K1.out, K2.out, K3.out, KB.out⟩
  case round =>
    obtain ⟨k, hk, rfl, q1, q2, q3, qb⟩ := hrel
    by_cases hlt : k < 5
    · have f1 := q1.free k
      have c1 := q1.num k hlt
      have c2 := q2.num k hlt
      rw [if_neg (Nat.lt_irrefl k)] at c1
      have Q1 := Lib.hid q1
      have Q2 := Lib.hid q2
      have Q3 := Lib.hid q3
      have QB := Lib.hid qb
      have x1 := HX.out k
      have y1 := HY.out k
      have HN := Lib.hid (qcells_next (a := x) (b := z) (k := k) (z k) rfl)
      have HS := Lib.hid (show ∀ m : Nat, mo k = m → IntKind.u64.wrap ((x k : Int) + IntKind.u64.wrap ((m : Int) - (y k : Int))) = (z k : Int) from fun m hm => by
        have h1 : 4503599627370458 ≤ mo k ∧ mo k ≤ 4503599627370494 := by unfold mo; split <;> omega
        rw [show (m : Int) - (y k : Int) = ((m - y k : Nat) : Int) by omega, wrap64_nat, Nat.mod_eq_of_lt (by omega), ← Int.natCast_add, wrap64_nat, Nat.mod_eq_of_lt (by omega), HZ.out, hm])
      clear q1 q2 q3 qb
      by_cases e0 : k = 0
      · subst e0
        have HS2 := Lib.hid (show IntKind.u64.wrap ((x 0 : Int) + IntKind.u64.wrap ((4503599627370458 : Int) - (y 0 : Int))) = (z 0 : Int) from HS.out 4503599627370458 rfl)
        go_wp2_with fail
        refine wp_region_still_tail 13 (by kernel_rfl) (by kernel_rfl) ?_
        simp only [List.take_succ_cons, List.take_zero, List.drop_succ_cons, List.drop_zero]
        repeat still_step
        refine wpStill_nil ?_
        change wpList _ _ _ _ _ wr.drew
        rw [HS2.out]
        go_wp2_with fail
        go_roundw
        case rel =>
          refine ⟨0 + 1, by omega, by go_num, ?_, Q2.out.drew.far (by simp) _, Q3.out.drew.far (by simp; omega) _, (below_drewN QB.out 1).setCell (by simp) _⟩
          have h := Q1.out.drew.put 0 (.int .u64 (z 0 : Nat))
          rw [qcells_set, HN.out] at h
          exact h
        case measure => simp [intOf]
      · have he0 : ((k : Int) == 0) = false := by rw [beq_eq_false_iff_ne]; omega
        have HS2 := Lib.hid (show IntKind.u64.wrap ((x k : Int) + IntKind.u64.wrap ((4503599627370494 : Int) - (y k : Int))) = (z k : Int) from HS.out 4503599627370494 (if_neg e0))
        go_wp2_with fail
        refine wp_region_still_tail 13 (by kernel_rfl) (by kernel_rfl) ?_
        simp only [List.take_succ_cons, List.take_zero, List.drop_succ_cons, List.drop_zero]
        repeat still_step
        refine wpStill_nil ?_
        change wpList _ _ _ _ _ wr.drew
        rw [HS2.out]
        go_wp2_with fail
        go_roundw
        case rel =>
          refine ⟨k + 1, by omega, by go_num, ?_, Q2.out.drew.far (by simp) _, Q3.out.drew.far (by simp; omega) _, (below_drewN QB.out 1).setCell (by simp) _⟩
          have h := Q1.out.drew.put k (.int .u64 (z k : Nat))
          rw [qcells_set, HN.out] at h
          exact h
        case measure => simp [intOf]; omega
    · obtain rfl : k = 5 := by omega
      rw [qcells_congr (g := z) (fun i hi => if_pos hi)] at q1
      have Q1 := Lib.hid q1
      have Q3 := Lib.hid q3
      have QB := Lib.hid qb
      clear q1 q2 q3 qb
      go_wp2_with fail
      refine (pass_any B z 0 HZL.out (by omega) _ Q1.out).mono ?_
      rw [HOC.out]
      rintro e w0 ⟨rfl, h1, h2⟩
      have P1 := Lib.hid h1
      have P3 := Lib.hid (whole_grown Q3.out h2 (by omega))
      have PB := Lib.hid (below_grown QB.out h2 (by omega) (by have := QB.out.size; omega))
      clear h1 h2
      go_wp2_with fail
      refine (back_any B (po z 0) o HPL.out HO.out HV.out _ P1.out).mono ?_
      rintro e w1 ⟨rfl, h1, h2⟩
      have R3 := Lib.hid (whole_grown P3.out h2 (by omega))
      have RB := Lib.hid (below_grown PB.out h2 (by omega) (by have := PB.out.size; omega))
      rw [HE.out] at h1
      have R1 := Lib.hid h1
      clear h1 h2
      generalize hL : dg 2251799813685248 ((a + (P - b)) % P) = L at R1
      have HL := Lib.hid hL
      clear hL
      go_wp2_with (first | (refine wpList_load_row rfl 38 (.tmp 2) rfl B rfl 38 (qcells L 5).toArray (0, 0) _ R1.out rfl rfl (by rw [qcells_size]; kernel_rfl) ?_) | (refine wpList_store_row rfl 38 (.tmp 4) (.tmp 30) rfl (B + 1 + 1) (qcells L 5).toArray rfl rfl 38 _ R3.out (by rw [qcells_size]; kernel_rfl) (by rw [qcells_size, qcells_size]) (qcells_one _ _) ?_))
      have hret : Whole (w1.setRow (B + 1 + 1) (qcells L 5).toArray) (B + 1 + 1) 38 (qcells L 5).toArray := setRow_heap w1 _ _ _ _ _ R3.out
      refine bodyPost_ret (results_cell_row rfl _ _ (B + 1 + 1) 38 _ (0, 0) _ rfl hret rfl rfl (by rw [qcells_size]; kernel_rfl)) rfl ?_
      exact ⟨by rw [el, HL.out], by rw [hB]; exact below_setRow RB.out (by omega) _⟩

end Field
end Go.Proofs.Ytnopjjkijedpeaa
