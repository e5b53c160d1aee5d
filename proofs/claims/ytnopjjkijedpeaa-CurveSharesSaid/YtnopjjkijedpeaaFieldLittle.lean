/- The call Little of package field. -/
import Derived.Test.YtnopjjkijedpeaaFieldSub
namespace Go.Proofs.Ytnopjjkijedpeaa
namespace Field
open Go.ChangeShapes Go.WideShapes Go.ChangeAt Go.RowKit
open Num Mem Words Radix FieldN Chacha

theorem product_built (l : Nat) (hl : l < 18446744073709551616) : (#[.int .u64 0, .int .u64 (l : Nat)] : Array Value) = (qcells (pv l) 2).toArray := by
  rw [pv_lit l 0 l (Nat.div_eq_of_lt hl) (Nat.mod_eq_of_lt hl)]
  rfl

theorem rv_scale (X : Nat) (a : Nat → Nat) (n k : Nat) : rv X (fun i => a i * n) k = rv X a k * n := by
  induction k with
  | zero => simp [rv]
  | succ k ih => rw [rv, rv, ih, Nat.add_mul, Nat.mul_assoc, Nat.mul_comm n, ← Nat.mul_assoc]

set_option maxRecDepth 100000 in
theorem small_any (a n : Nat) (ha : a < P) (hn : n < 4294967296) (w : World) :
    Calls Try.prog 24 #[el a, .int .u32 n] w fun e w' => e = .returned (el (a * n % P)) ∧ Below w.heap.size w w' := by
  obtain ⟨x, hx⟩ : ∃ x, x = dg 2251799813685248 a := ⟨_, rfl⟩
  obtain ⟨z, hz⟩ : ∃ z, z = fun i => x i * n := ⟨_, rfl⟩
  have HX := Lib.hid (show ∀ i, x i < 2251799813685248 from fun i => by rw [hx]; exact limb_lt a i)
  have HZ := Lib.hid (show ∀ i, z i = x i * n from fun i => by rw [hz])
  have HZL := Lib.hid (show ∀ i, z i ≤ 2251799813685247 * 4294967295 from fun i => by rw [HZ.out]; exact Nat.mul_le_mul (by have := HX.out i; omega) (by omega))
  have hval : rv 2251799813685248 z 5 = a * n := by rw [hz, rv_scale, hx, rv_limbs a (below_T ha)]
  have HC := Lib.hid (cy_lt (X := 2251799813685248) z 0 5 4294967296 (by omega) (fun i c _ hc => by have := HZL.out i; omega))
  obtain ⟨o, ho⟩ : ∃ o, o = cy 2251799813685248 z 0 5 := ⟨_, rfl⟩
  have ho' : o = rv 2251799813685248 z 5 / T := by rw [ho, cy_top, Nat.add_zero]
  have hov : 19 * o < 4611686018427387904 := by have := HC.out 5 (by omega); omega
  have hpo : rv 2251799813685248 (po z 0) 5 = rv 2251799813685248 z 5 % T := by rw [po_val, Nat.add_zero]
  have HO := Lib.hid hov
  have HV := Lib.hid (show rv 2251799813685248 (po z 0) 5 + 19 * o < 2 * P by rw [hpo, ho']; exact back_fits _ (by rw [← ho']; exact hov))
  have HE := Lib.hid (show dg 2251799813685248 ((rv 2251799813685248 (po z 0) 5 + 19 * o) % P) = dg 2251799813685248 (a * n % P) by
    rw [hpo, ho', back_mod, hval])
  have HOC := Lib.hid ho.symm
  have HPL := Lib.hid (show ∀ i, i < 5 → po z 0 i < 4611686018427387904 from fun i _ => by have := po_lt z 0 i; omega)
  rw [el, ← hx, qcells_lit5]
  clear hx hz hval ha hov ho ho' hpo
  go_enter Try.func24, Try.ntmps24
  go_upto_region 1 with fail
  refine cut_world (fun W => Whole W w.heap.size 38 (qcells x 5).toArray ∧ Whole W (w.heap.size + 1) 38 (qcells (fun _ => 0) 5).toArray ∧ Below w.heap.size w W) ⟨?_, ?_, ?_⟩ ?_
  · rw [qcells_lit5]
    exact (whole_new _ _ rfl).alloc _
  · exact whole_new _ _ (by simp)
  · exact below_alloc (below_alloc (Below.refl _ _) _) _
  rintro W ⟨k1, k3, kb⟩
  have K1 := Lib.hid k1
  have K3 := Lib.hid k3
  have KB := Lib.hid kb
  clear k1 k3 kb
  generalize hB : w.heap.size = B at K1 K3 KB ⊢
  go_wp2_with fail
  go_loopw [5, 8] (fun c i wr => ∃ k : Nat, k ≤ 5 ∧ i = .int .i64 k ∧ c = .int .u64 (cy 2251799813685248 z 0 k : Nat) ∧ Whole wr B 38 (qcells (fun i => if i < k then po z 0 i else x i) 5).toArray ∧ Whole wr (B + 1) 38 (qcells (fun _ => 0) 5).toArray ∧ Below B w wr) (fun _ i _ => 5 - (intOf i).toNat)
  case atStart => exact ⟨0, by omega, rfl, rfl, K1.out, K3.out, KB.out⟩
  case round =>
    obtain ⟨k, hk, rfl, rfl, q1, q3, qb⟩ := hrel
    by_cases hlt : k < 5
    · have f1 := q1.free k
      have c1 := q1.num k hlt
      rw [if_neg (Nat.lt_irrefl k)] at c1
      have hs3 := q3.lt
      have Q1 := Lib.hid q1
      have Q3 := Lib.hid q3
      have QB := Lib.hid qb
      have x1 := HX.out k
      have HN := Lib.hid (qcells_next (a := x) (b := po z 0) (k := k) (po z 0 k) rfl)
      have hck := HC.out k hk
      have hzk := HZL.out k
      have hzz := HZ.out k
      have HNX := Lib.hid (show cy 2251799813685248 z 0 (k + 1) = (z k + cy 2251799813685248 z 0 k) / 2251799813685248 from rfl)
      have HPO := Lib.hid (show po z 0 k = (z k + cy 2251799813685248 z 0 k) % 2251799813685248 from rfl)
      generalize cy 2251799813685248 z 0 k = c at hck HNX HPO ⊢
      have HBU := Lib.hid (product_built c (by omega))
      have hsum : c + x k * n < 41538374868278621028243970633760768 := by rw [← hzz]; omega
      have HPLUS := Lib.hid (plus_any c (x k) n (by omega) (by omega) (by omega))
      rw [Nat.add_comm, ← hzz] at HPLUS
      have hsum2 : z k + c < 41538374868278621028243970633760768 := by omega
      have HCUT := Lib.hid (cut_any (z k + c) hsum2)
      rw [← HNX.out, ← HPO.out] at HCUT
      generalize z k + c = v at HPLUS HCUT
      clear q1 q3 qb hzk hzz hsum hsum2
      go_wp2_with fail
      rw [HBU.out]
      refine (HPLUS.out _).mono ?_
      rintro e w1 ⟨rfl, hb1⟩
      have R1 := Lib.hid (Q1.out.below hb1 Q1.out.lt)
      have R3 := Lib.hid (Q3.out.below hb1 Q3.out.lt)
      have RB := Lib.hid (QB.out.trans (hb1.mono (by omega)))
      have hs1 := hb1.size
      clear hb1 c1 f1
      have HSZ := Lib.hid (show ∀ f, (qcells f 2).toArray.size = 2 from fun f => qcells_size f 2)
      go_upto_region 6 with (refine wpList_store_row rfl 63 (.tmp 7) (.tmp 19) rfl w1.heap.size (qcells (pv v) 2).toArray rfl rfl 63 _ (Whole.new _ _ _) (by rw [HSZ.out]; kernel_rfl) (by rw [HSZ.out]; rfl) (qcells_one _ _) ?_)
      refine cut_world (fun W => Whole W B 38 (qcells (fun i => if i < k then po z 0 i else x i) 5).toArray ∧ Whole W (B + 1) 38 (qcells (fun _ => 0) 5).toArray ∧ Whole W w1.heap.size 63 (qcells (pv v) 2).toArray ∧ Below B w W ∧ B + 1 < w1.heap.size) ⟨?_, ?_, ?_, ?_, by omega⟩ ?_
      · exact Whole.farRow (R1.out.alloc _) (by omega) _
      · exact Whole.farRow (R3.out.alloc _) (by omega) _
      · exact setRow_heap _ _ _ _ _ _ (Whole.new _ _ _)
      · exact below_setRow (RB.out.alloc (by omega) _) (by omega) _
      rintro W2 ⟨k1, k3, k4, kb, hG⟩
      have K1 := Lib.hid k1
      have K3 := Lib.hid k3
      have K4 := Lib.hid k4
      have KB := Lib.hid kb
      clear k1 k3 k4 kb R1 R3 RB hs1 hs3 Q1 Q3 QB
      generalize w1.heap.size = G at K4 hG ⊢
      go_wp2_with (refine wpList_load_row rfl 63 (.tmp 7) rfl G rfl 63 (qcells (pv v) 2).toArray (0, 0) _ K4.out rfl rfl (by rw [HSZ.out]; kernel_rfl) ?_)
      refine (HCUT.out _).mono ?_
      rintro e w3 ⟨rfl, hb1⟩
      have R1 := Lib.hid (K1.out.below hb1 K1.out.lt)
      have R3 := Lib.hid (K3.out.below hb1 K3.out.lt)
      have hs4 := K4.out.lt
      have RB := Lib.hid (KB.out.trans (hb1.mono (by omega)))
      have f1 := R1.out.free k
      have c1 := R1.out.num k hlt
      clear hb1 K1 K3 KB K4
      go_wp2_with fail
      go_roundw
      case rel =>
        refine ⟨k + 1, by omega, by go_num, rfl, ?_, R3.out.far (by simp) _, RB.out.setCell (by simp) _⟩
        have h := R1.out.put k (.int .u64 (po z 0 k : Nat))
        rw [qcells_set, HN.out] at h
        exact h
      case measure => simp [intOf]; omega
    · obtain rfl : k = 5 := by omega
      rw [qcells_congr (g := po z 0) (fun i hi => if_pos hi)] at q1
      have Q1 := Lib.hid q1
      have Q3 := Lib.hid q3
      have QB := Lib.hid qb
      clear q1 q3 qb
      rw [HOC.out]
      go_wp2_with fail
      refine (back_any B (po z 0) o HPL.out HO.out HV.out _ Q1.out).mono ?_
      rintro e w1 ⟨rfl, h1, h2⟩
      have R3 := Lib.hid (whole_grown Q3.out h2 (by omega))
      have RB := Lib.hid (below_grown QB.out h2 (by omega) (by have := QB.out.size; omega))
      rw [HE.out] at h1
      have R1 := Lib.hid h1
      clear h1 h2
      generalize hL : dg 2251799813685248 (a * n % P) = L at R1
      have HL := Lib.hid hL
      clear hL
      go_wp2_with (first | (refine wpList_load_row rfl 38 (.tmp 2) rfl B rfl 38 (qcells L 5).toArray (0, 0) _ R1.out rfl rfl (by rw [qcells_size]; kernel_rfl) ?_) | (refine wpList_store_row rfl 38 (.tmp 4) (.tmp 31) rfl (B + 1) (qcells L 5).toArray rfl rfl 38 _ R3.out (by rw [qcells_size]; kernel_rfl) (by rw [qcells_size, qcells_size]) (qcells_one _ _) ?_))
      have hret : Whole (w1.setRow (B + 1) (qcells L 5).toArray) (B + 1) 38 (qcells L 5).toArray := setRow_heap w1 _ _ _ _ _ R3.out
      refine bodyPost_ret (results_cell_row rfl _ _ (B + 1) 38 _ (0, 0) _ rfl hret rfl rfl (by rw [qcells_size]; kernel_rfl)) rfl ?_
      exact ⟨by rw [el, HL.out], by rw [hB]; exact below_setRow RB.out (by omega) _⟩

end Field
end Go.Proofs.Ytnopjjkijedpeaa
