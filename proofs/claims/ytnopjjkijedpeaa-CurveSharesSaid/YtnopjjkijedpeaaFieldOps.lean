/- The calls Plus, Minus and Little of package field. -/
import Derived.Test.YtnopjjkijedpeaaFieldTake
namespace Go.Proofs.Ytnopjjkijedpeaa
namespace Field
open Go.ChangeShapes Go.WideShapes Go.ChangeAt Go.RowKit
open Num Mem Words Radix FieldN Chacha

theorem limb_lt (v i : Nat) : dg 2251799813685248 v i < 2251799813685248 := dg_lt (by omega) v i

theorem qcells_next {a b : Nat → Nat} {k : Nat} (v : Nat) (h : v = b k) : qcells (fun i => if i = k then v else if i < k then b i else a i) 5 = qcells (fun i => if i < k + 1 then b i else a i) 5 := by
  refine qcells_congr (fun i _ => ?_)
  subst h
  by_cases e : i = k
  · subst e
    rw [if_pos rfl, if_pos (by omega)]
  · rw [if_neg e]
    by_cases l : i < k
    · rw [if_pos l, if_pos (by omega)]
    · rw [if_neg l, if_neg (by omega)]

set_option maxRecDepth 100000 in
theorem add_any (a b : Nat) (ha : a < P) (hb : b < P) (w : World) :
    Calls Try.prog 20 #[el a, el b] w fun e w' => e = .returned (el ((a + b) % P)) ∧ Below w.heap.size w w' := by
  obtain ⟨x, hx⟩ : ∃ x, x = dg 2251799813685248 a := ⟨_, rfl⟩
  obtain ⟨y, hy⟩ : ∃ y, y = dg 2251799813685248 b := ⟨_, rfl⟩
  obtain ⟨z, hz⟩ : ∃ z, z = fun i => x i + y i := ⟨_, rfl⟩
  have HX := Lib.hid (show ∀ i, x i < 2251799813685248 from fun i => by rw [hx]; exact limb_lt a i)
  have HY := Lib.hid (show ∀ i, y i < 2251799813685248 from fun i => by rw [hy]; exact limb_lt b i)
  have HZ := Lib.hid (show ∀ i, z i = x i + y i from fun i => by rw [hz])
  have HZL := Lib.hid (show ∀ i, i < 5 → z i < 9223372036854775808 from fun i _ => by rw [HZ.out]; have := HX.out i; have := HY.out i; omega)
  have hval : rv 2251799813685248 z 5 = a + b := by rw [hz, rv_add, hx, hy, rv_limbs a (below_T ha), rv_limbs b (below_T hb)]
  have HV := Lib.hid (show rv 2251799813685248 z 5 < 2 * P by rw [hval]; omega)
  have HE := Lib.hid (show dg 2251799813685248 (rv 2251799813685248 z 5 % P) = dg 2251799813685248 ((a + b) % P) by rw [hval])
  rw [el, el, ← hx, ← hy, qcells_lit5, qcells_lit5]
  clear hx hy hz hval ha hb
  go_enter Try.func20, Try.ntmps20
  go_upto_region 1 with fail
  refine cut_world (fun W => Whole W w.heap.size 38 (qcells x 5).toArray ∧ Whole W (w.heap.size + 1) 38 (qcells y 5).toArray ∧ Whole W (w.heap.size + 1 + 1) 38 (qcells (fun _ => 0) 5).toArray ∧ Below w.heap.size w W) ⟨?_, ?_, ?_, ?_⟩ ?_
  · rw [qcells_lit5]
    exact ((whole_new _ _ rfl).alloc _).alloc _
  · rw [qcells_lit5]
    exact (whole_new _ _ (by simp)).alloc _
  · exact whole_new _ _ (by simp)
  · exact below_alloc (below_alloc (below_alloc (Below.refl _ _) _) _) _
  rintro W ⟨k1, k2, k3, kb⟩
  have K1 := Lib.hid k1
  have K2 := Lib.hid k2
  have K3 := Lib.hid k3
  have KB := Lib.hid kb
  clear k1 k2 k3 kb
  generalize hB : w.heap.size = B at K1 K2 K3 KB ⊢
  go_wp2_with fail
  go_loopw [6] (fun i wr => ∃ k : Nat, k ≤ 5 ∧ i = .int .i64 k ∧ Whole wr B 38 (qcells (fun i => if i < k then z i else x i) 5).toArray ∧ Whole wr (B + 1) 38 (qcells y 5).toArray ∧ Whole wr (B + 1 + 1) 38 (qcells (fun _ => 0) 5).toArray ∧ Below B w wr) (fun i _ => 5 - (intOf i).toNat)
  case atStart => exact ⟨0, by omega, rfl, K1.out, K2.out, K3.out, KB.out⟩
  case round =>
    obtain ⟨k, hk, rfl, q1, q2, q3, qb⟩ := hrel
    by_cases hlt : k < 5
    · have f1 := q1.free k
      have c1 := q1.num k hlt
      have c2 := q2.num k hlt
      rw [if_neg (Nat.lt_irrefl k)] at c1
      have Q1 := Lib.hid q1
      have Q2 := Lib.hid q2
      have Q3 := Lib.hid q3
      have QB := Lib.hid qb
      have x1 := HX.out k
      have y1 := HY.out k
      have HS := Lib.hid (show IntKind.u64.wrap ((x k : Nat) + (y k : Nat) : Int) = (z k : Int) by rw [← Int.natCast_add, wrap64_nat, Nat.mod_eq_of_lt (by omega), HZ.out])
      have HN := Lib.hid (qcells_next (a := x) (b := z) (k := k) (z k) rfl)
      clear q1 q2 q3 qb
      go_wp2_with fail
      refine wp_region_still_tail 11 (by kernel_rfl) (by kernel_rfl) ?_
      simp only [List.take_succ_cons, List.take_zero, List.drop_succ_cons, List.drop_zero]
      repeat still_step
      refine wpStill_nil ?_
      change wpList _ _ _ _ _ wr.drew
      rw [HS.out]
      go_wp2_with fail
      go_roundw
      case rel =>
        refine ⟨k + 1, by omega, by go_num, ?_, Q2.out.drew.far (by simp) _, Q3.out.drew.far (by simp; omega) _, (below_drewN QB.out 1).setCell (by simp) _⟩
        have h := Q1.out.drew.put k (.int .u64 (z k : Nat))
        rw [qcells_set, HN.out] at h
        exact h
      case measure => simp [intOf]; omega
    · obtain rfl : k = 5 := by omega
      rw [qcells_congr (g := z) (fun i hi => if_pos hi)] at q1
      have Q1 := Lib.hid q1
      have Q3 := Lib.hid q3
      have QB := Lib.hid qb
      clear q1 q2 q3 qb
      go_wp2_with fail
      refine (lower_any B z HZL.out HV.out _ Q1.out).mono ?_
      rintro e w1 ⟨rfl, h1, h2⟩
      have R3 := Lib.hid (whole_grown Q3.out h2 (by omega))
      have RB := Lib.hid (below_grown QB.out h2 (by omega) (by have := QB.out.size; omega))
      rw [HE.out] at h1
      have R1 := Lib.hid h1
      clear h1 h2
      generalize hL : dg 2251799813685248 ((a + b) % P) = L at R1
      have HL := Lib.hid hL
      clear hL
      go_wp2_with (first | (refine wpList_load_row rfl 38 (.tmp 2) rfl B rfl 38 (qcells L 5).toArray (0, 0) _ R1.out rfl rfl (by rw [qcells_size]; kernel_rfl) ?_) | (refine wpList_store_row rfl 38 (.tmp 4) (.tmp 22) rfl (B + 1 + 1) (qcells L 5).toArray rfl rfl 38 _ R3.out (by rw [qcells_size]; kernel_rfl) (by rw [qcells_size, qcells_size]) (qcells_one _ _) ?_))
      have hret : Whole (w1.setRow (B + 1 + 1) (qcells L 5).toArray) (B + 1 + 1) 38 (qcells L 5).toArray := setRow_heap w1 _ _ _ _ _ R3.out
      refine bodyPost_ret (results_cell_row rfl _ _ (B + 1 + 1) 38 _ (0, 0) _ rfl hret rfl rfl (by rw [qcells_size]; kernel_rfl)) rfl ?_
      exact ⟨by rw [el, HL.out], by rw [hB]; exact below_setRow RB.out (by omega) _⟩

end Field
end Go.Proofs.Ytnopjjkijedpeaa
