/- The call Times of package field. -/
import Derived.Test.YtnopjjkijedpeaaFieldLittle
import Derived.Test.YtnopjjkijedpeaaEarly
namespace Go.Proofs.Ytnopjjkijedpeaa
namespace Field
open Go.ChangeShapes Go.WideShapes Go.ChangeAt Go.RowKit
open Num Mem Words Radix FieldN Chacha Quiet

/-- what lies in memory while the row is made -/
def TSW (w : World) (B : Nat) (x y : Nat → Nat) (X : World) : Prop :=
  Whole X B 38 (qcells x 5).toArray ∧ Whole X (B + 1) 38 (qcells y 5).toArray ∧ Whole X (B + 1 + 1) 38 (qcells (fun _ => 0) 5).toArray ∧ Below B w X

theorem tsw_put {w X : World} {B i : Nat} {x y : Nat → Nat} {v : Value} (h : TSW w B x y X) : TSW w B x y (X.setCell ⟨B + 1 + 1 + 1, i, none⟩ v) := by
  obtain ⟨h1, h2, h3, h4⟩ := h
  exact ⟨h1.far (by show B ≠ B + 1 + 1 + 1; omega) _, h2.far (by show B + 1 ≠ B + 1 + 1 + 1; omega) _, h3.far (by show B + 1 + 1 ≠ B + 1 + 1 + 1; omega) _, h4.setCell (by simp; omega) _⟩
theorem tsw_below {w X X' : World} {B G : Nat} {x y : Nat → Nat} (h : TSW w B x y X) (hb : Below G X X') (hG : B + 1 + 1 < G) : TSW w B x y X' :=
  ⟨h.1.below hb (by omega), h.2.1.below hb (by omega), h.2.2.1.below hb (by omega), h.2.2.2.trans (hb.mono (by omega))⟩
theorem tsw_grown {w X X' : World} {B G : Nat} {x y : Nat → Nat} (h : TSW w B x y X) (hb : X.grownBy X' (some G)) (hG : B + 1 + 1 < G) : TSW w B x y X' :=
  ⟨whole_grown h.1 hb (by omega), whole_grown h.2.1 hb (by omega), whole_grown h.2.2.1 hb (by omega), below_grown h.2.2.2 hb (by omega) (by have := h.1.lt; omega)⟩

theorem place_wrap (i j m : Nat) (hi : i < 5) (hj : j < 5) (hm : m = 5 + i - j) : IntKind.i64.wrap (IntKind.i64.wrap (5 + (i : Int)) - (j : Int)) = (m : Int) := by
  have h1 : IntKind.i64.wrap (5 + (i : Int)) = ((5 + i : Nat) : Int) := by rw [IntKind.wrap_i64]; omega
  rw [h1, IntKind.wrap_i64]
  omega

theorem cut_post {F : Exit → Act → World → Prop} {e : Exit} {a : Act} {w : World} (R : World → Prop) (hR : R w) (h : ∀ w', R w' → F e a w') : F e a w := h w hR

theorem still_load {P : Program} {ops : Array Oper} {w : World} {Q : Act → Prop} {a : Act} {o : Oper} {rest : List Oper} (hw : Region.wanted o (yielded ops a.tmps) = true) (ty : TypeId) (x : Operand) (ho : o.op = .load ty x) (g : Nat) (hx : a.eval x = .pointer (some ⟨g, 0, none⟩))
    {t : TypeId} {cs : Array Value} {d : TypeDesc} (hg : Whole w g t cs) (hu : P.underlying ty = some d) (hd : (match d with | .struct _ | .array _ _ => true | _ => false) = true) (hi : (P.info? ty).map (·.size) = some cs.size)
    (h : wpStill P ops w Q rest (a.put o.dst (.agg cs))) : wpStill P ops w Q (o :: rest) a :=
  wpStill_step fun K hK => by
    rw [if_pos hw]
    unfold Oper.still
    rw [run_load_op ty x ho g hx hg hu hd hi]
    exact ⟨rfl, hK _ h⟩

/-- the row, of the first k limbs -/
def rk (y : Nat → Nat) (k i : Nat) : Nat := if i < k then 19 * y i else if 5 ≤ i ∧ i < 5 + k then y (i - 5) else 0
theorem rk_next (y : Nat → Nat) (k : Nat) (hk : k < 5) : qcells (fun i => if i = 5 + k then y k else if i = k then 19 * y k else rk y k i) 10 = qcells (rk y (k + 1)) 10 := by
  refine qcells_congr (fun i _ => ?_)
  unfold rk
  by_cases e : i = 5 + k
  · subst e
    rw [if_pos rfl, if_neg (by omega), if_pos (by omega)]
    congr 1
    omega
  · rw [if_neg e]
    by_cases e2 : i = k
    · subst e2
      rw [if_pos rfl, if_pos (by omega)]
    · rw [if_neg e2]
      by_cases l : i < k
      · rw [if_pos l, if_pos (by omega)]
      · rw [if_neg l, if_neg (show ¬ i < k + 1 by omega)]
        by_cases l2 : 5 ≤ i ∧ i < 5 + k
        · rw [if_pos l2, if_pos (by omega)]
        · rw [if_neg l2, if_neg (by omega)]
theorem rk_all (y : Nat → Nat) : qcells (rk y 5) 10 = qcells (rw5 y) 10 := by
  refine qcells_congr (fun i hi => ?_)
  unfold rk rw5
  by_cases l : i < 5
  · rw [if_pos l, if_pos l]
  · rw [if_neg l, if_neg l, if_pos (by omega)]

set_option maxRecDepth 100000 in
theorem times_any (a b : Nat) (ha : a < P) (hb : b < P) (w : World) :
    Calls Try.prog 22 #[el a, el b] w fun e w' => e = .returned (el (a * b % P)) ∧ Below w.heap.size w w' := by
  obtain ⟨x, hx⟩ : ∃ x, x = dg 2251799813685248 a := ⟨_, rfl⟩
  obtain ⟨y, hy⟩ : ∃ y, y = dg 2251799813685248 b := ⟨_, rfl⟩
  have HX := Lib.hid (show ∀ i, x i < 2251799813685248 from fun i => by rw [hx]; exact limb_lt a i)
  have HY := Lib.hid (show ∀ i, y i < 2251799813685248 from fun i => by rw [hy]; exact limb_lt b i)
  obtain ⟨z, hz⟩ : ∃ z, z = fun i => sm x y i 5 := ⟨_, rfl⟩
  have HZ := Lib.hid (show ∀ i, z i = sm x y i 5 from fun i => by rw [hz])
  have HSM := Lib.hid (sm_lt x y (fun i _ => HX.out i) (fun i _ => HY.out i))
  have hzl : ∀ i, i < 5 → z i ≤ 5 * (2251799813685248 * 42784196460019712) := fun i hi => by rw [HZ.out]; exact HSM.out i hi 5 (by omega)
  have HC := Lib.hid (cy_lt (X := 2251799813685248) z 0 5 230584300921369396 (by omega) (fun i c hi hc => by have := hzl i hi; omega))
  obtain ⟨o, ho⟩ : ∃ o, o = cy 2251799813685248 z 0 5 := ⟨_, rfl⟩
  have ho' : o = rv 2251799813685248 z 5 / T := by rw [ho, cy_top, Nat.add_zero]
  have hov : 19 * o < 4611686018427387904 := by have := HC.out 5 (by omega); omega
  have hpo : rv 2251799813685248 (po z 0) 5 = rv 2251799813685248 z 5 % T := by rw [po_val, Nat.add_zero]
  have hval : rv 2251799813685248 z 5 % P = a * b % P := by
    obtain ⟨h, hh⟩ := sm_val x y
    rw [← hz, hx, hy, rv_limbs a (below_T ha), rv_limbs b (below_T hb)] at hh
    rw [hh, Nat.add_mul_mod_self_left]
  have HO := Lib.hid hov
  have HV := Lib.hid (show rv 2251799813685248 (po z 0) 5 + 19 * o < 2 * P by rw [hpo, ho']; exact back_fits _ (by rw [← ho']; exact hov))
  have HE := Lib.hid (show dg 2251799813685248 ((rv 2251799813685248 (po z 0) 5 + 19 * o) % P) = dg 2251799813685248 (a * b % P) by
    rw [hpo, ho', back_mod, hval])
  have HOC := Lib.hid ho.symm
  have HPL := Lib.hid (show ∀ i, i < 5 → po z 0 i < 4611686018427387904 from fun i _ => by have := po_lt z 0 i; omega)
  have HZL := Lib.hid hzl
  rw [el, el, ← hx, ← hy, qcells_lit5, qcells_lit5]
  clear hx hy hz hval ha hb hov ho ho' hpo hzl
  go_enter Try.func22, Try.ntmps22
  go_upto_region 2 with fail
  refine cut_world (fun W => TSW w w.heap.size x y W ∧ Whole W (w.heap.size + 1 + 1 + 1) 61 (qcells (fun _ => 0) 10).toArray) ⟨⟨?_, ?_, ?_, ?_⟩, ?_⟩ ?_
  · rw [qcells_lit5]
    exact (((whole_new _ _ rfl).alloc _).alloc _).alloc _
  · rw [qcells_lit5]
    exact ((whole_new _ _ (by simp)).alloc _).alloc _
  · exact (whole_new _ _ (by simp)).alloc _
  · exact below_alloc (below_alloc (below_alloc (below_alloc (Below.refl _ _) _) _) _) _
  · exact whole_new _ _ (by simp)
  rintro W ⟨k1, k2⟩
  have K1 := Lib.hid k1
  have K2 := Lib.hid k2
  clear k1 k2
  generalize hB : w.heap.size = B at K1 K2 ⊢
  go_wp2_with fail
  go_loopw [12] (fun i wr => ∃ k : Nat, k ≤ 5 ∧ i = .int .i64 k ∧ TSW w B x y wr ∧ Whole wr (B + 1 + 1 + 1) 61 (qcells (rk y k) 10).toArray) (fun i _ => 5 - (intOf i).toNat)
  case atStart => exact ⟨0, by omega, rfl, K1.out, by rw [qcells_congr (g := fun _ => 0) (fun i _ => by unfold rk; rw [if_neg (by omega), if_neg (by omega)])]; exact K2.out⟩
  case round =>
    obtain ⟨k, hk, rfl, q1, q2⟩ := hrel
    by_cases hlt : k < 5
    · have Q1 := Lib.hid q1
      have Q2 := Lib.hid q2
      have y1 := HY.out k
      have i1 : (k : Int) < 10 := by omega
      obtain ⟨m, hm⟩ : ∃ m, m = 5 + k := ⟨_, rfl⟩
      have i2 : (m : Int) < 10 := by omega
      have HW5 := Lib.hid (show IntKind.i64.wrap (5 + (k : Int)) = (m : Int) by rw [IntKind.wrap_i64]; omega)
      have HM5 := Lib.hid hm
      have i3 : (k : Int) < 5 := by omega
      have HM := Lib.hid (show IntKind.u64.wrap (19 * (y k : Int)) = ((19 * y k : Nat) : Int) by rw [show 19 * (y k : Int) = ((19 * y k : Nat) : Int) by omega, wrap64_nat, Nat.mod_eq_of_lt (by omega)])
      have HN := Lib.hid (rk_next y k hlt)
      rw [← hm] at HN
      have f1 := q2.free k
      have c1 := q2.num k (by omega)
      have c2 := q2.num m (by omega)
      have hne : ¬ k = m := by omega
      have hne2 : ¬ m = k := by omega
      have f3 := q2.free m
      clear q1 q2 hm
      go_wp2_with fail
      refine region_drew (TSW w B x y) rfl ⟨Q1.out.1.drew, Q1.out.2.1.drew, Q1.out.2.2.1.drew, below_drewN Q1.out.2.2.2 1⟩ ?_
      intro hS
      refine take 0 _ rfl (by kernel_rfl) (by kernel_rfl) (by kernel_rfl) (fun _ _ _ h => h) (by rfl) hS (by intro w _; go_simp; with_reducible rfl) ?_
      try simp only [Act.put, List.setIfInBounds_toArray, List.set_cons_zero, List.set_cons_succ]
      refine take 1 _ rfl (by kernel_rfl) (by kernel_rfl) (by kernel_rfl) (fun _ _ _ h => h) (by rfl) hS (by intro w _; go_simp; with_reducible rfl) ?_
      try simp only [Act.put, List.setIfInBounds_toArray, List.set_cons_zero, List.set_cons_succ]
      refine take 3 _ rfl (by kernel_rfl) (by kernel_rfl) (by kernel_rfl) (fun _ _ _ h => h) (by rfl) hS (by intro w _; go_simp; with_reducible rfl) ?_
      try simp only [Act.put, List.setIfInBounds_toArray, List.set_cons_zero, List.set_cons_succ]
      refine take 4 _ rfl (by kernel_rfl) (by kernel_rfl) (by kernel_rfl) (fun _ _ _ h => h) (by rfl) hS (by intro w _; go_simp; with_reducible rfl) ?_
      try simp only [Act.put, List.setIfInBounds_toArray, List.set_cons_zero, List.set_cons_succ]
      refine take 8 _ rfl (by kernel_rfl) (by kernel_rfl) (by kernel_rfl) (fun _ _ _ h => h) (by rfl) hS (by intro w _; go_simp; with_reducible rfl) ?_
      try simp only [Act.put, List.setIfInBounds_toArray, List.set_cons_zero, List.set_cons_succ]
      refine take 9 _ rfl (by kernel_rfl) (by kernel_rfl) (by kernel_rfl) (fun _ _ _ h => h) (by rfl) hS (by intro w _; go_simp; with_reducible rfl) ?_
      try simp only [Act.put, List.setIfInBounds_toArray, List.set_cons_zero, List.set_cons_succ]
      refine take 2 _ rfl (by kernel_rfl) (by kernel_rfl) (by kernel_rfl) (fun _ _ _ h => h) (by rfl) hS (by intro w _; go_simp; with_reducible rfl) ?_
      try simp only [Act.put, List.setIfInBounds_toArray, List.set_cons_zero, List.set_cons_succ]
      rw [HW5.out]
      refine take 5 _ rfl (by kernel_rfl) (by kernel_rfl) (by kernel_rfl) (fun _ _ _ h => h) (by rfl) hS (by intro w _; go_simp; with_reducible rfl) ?_
      try simp only [Act.put, List.setIfInBounds_toArray, List.set_cons_zero, List.set_cons_succ]
      refine take 10 _ rfl (by kernel_rfl) (by kernel_rfl) (by kernel_rfl) (fun _ _ _ h => h) (by rfl) hS (by intro w _; go_simp; with_reducible rfl) ?_
      try simp only [Act.put, List.setIfInBounds_toArray, List.set_cons_zero, List.set_cons_succ]
      refine take 6 _ rfl (by kernel_rfl) (by kernel_rfl) (by kernel_rfl) (fun _ _ _ h => h) (by rfl) hS (by intro w hw; have hcl := hw.2.1.num k hlt; go_simp; with_reducible rfl) ?_
      try simp only [Act.put, List.setIfInBounds_toArray, List.set_cons_zero, List.set_cons_succ]
      refine take 11 _ rfl (by kernel_rfl) (by kernel_rfl) (by kernel_rfl) (fun _ _ _ h => h) (by rfl) hS (by intro w hw; have hcl := hw.2.1.num k hlt; go_simp; with_reducible rfl) ?_
      try simp only [Act.put, List.setIfInBounds_toArray, List.set_cons_zero, List.set_cons_succ]
      refine take 7 _ rfl (by kernel_rfl) (by kernel_rfl) (by kernel_rfl) (fun _ _ _ h => h) (by rfl) hS (by intro w _; go_simp; with_reducible rfl) ?_
      try simp only [Act.put, List.setIfInBounds_toArray, List.set_cons_zero, List.set_cons_succ]
      refine take 12 _ rfl (by kernel_rfl) (by kernel_rfl) (by kernel_rfl) (fun _ _ _ h => h) (by rfl) hS (by intro w _; go_simp; with_reducible rfl) ?_
      try simp only [Act.put, List.setIfInBounds_toArray, List.set_cons_zero, List.set_cons_succ]
      refine alone 13 rfl (by kernel_rfl) (by rfl) ?_
      intro K hK
      go_simp
      rw [HM.out]
      have hS2 := tsw_put (v := .int .u64 (19 * y k : Nat)) (i := k) hS
      refine hK.out _ _ hS2 ?_
      clear hK K hS
      have hS := hS2
      clear hS2
      try simp only [Act.put, List.setIfInBounds_toArray, List.set_cons_zero, List.set_cons_succ]
      refine take 14 _ rfl (by kernel_rfl) (by kernel_rfl) (by kernel_rfl) (fun _ _ _ h => h) (by rfl) hS (by intro w _; go_simp; with_reducible rfl) ?_
      try simp only [Act.put, List.setIfInBounds_toArray, List.set_cons_zero, List.set_cons_succ]
      refine alone 15 rfl (by kernel_rfl) (by rfl) ?_
      intro K hK
      go_simp
      have hS2 := tsw_put (v := .int .u64 (y k : Nat)) (i := m) hS
      refine hK.out _ _ hS2 ?_
      clear hK K hS
      have hS := hS2
      clear hS2
      try simp only [Act.put, List.setIfInBounds_toArray, List.set_cons_zero, List.set_cons_succ]
      refine region_end (by kernel_rfl) ?_
      refine cut_post (F := Exit.inBlock _ _) (fun X => TSW w B x y X ∧ Whole X (B + 1 + 1 + 1) 61 (qcells (rk y (k + 1)) 10).toArray) ⟨hS, ?_⟩ ?_
      · have h := (Q2.out.drew.put k (.int .u64 (19 * y k : Nat))).put m (.int .u64 (y k : Nat))
        rw [qcells_set, qcells_set, HN.out] at h
        exact h
      rintro X ⟨r1, r2⟩
      have R1 := Lib.hid r1
      have R2 := Lib.hid r2
      clear r1 r2 c1 c2 f1 f3 hS
      go_wp2_with fail
      go_roundw
      case rel => exact ⟨k + 1, by omega, by go_num, R1.out, R2.out⟩
      case measure => simp [intOf]; omega
    · obtain rfl : k = 5 := by omega
      rw [rk_all] at q2
      have Q1 := Lib.hid q1
      have Q2 := Lib.hid q2
      have hl := q2.lt
      clear q1 q2
      rw [show ((5 : Nat) : Int) = 5 from rfl]
      go_upto_region 8 with fail
      refine cut_world (fun X => TSW w B x y X ∧ Whole X (B + 1 + 1 + 1) 61 (qcells (rw5 y) 10).toArray ∧ Whole X wr.heap.size 38 (qcells (fun _ => 0) 5).toArray) ⟨?_, Q2.out.alloc _, Whole.new _ _ _⟩ ?_
      · exact tsw_below Q1.out (below_alloc (Below.refl _ _) _) (by omega)
      rintro X ⟨k1, k2, k3⟩
      have K1 := Lib.hid k1
      have K2 := Lib.hid k2
      have K3 := Lib.hid k3
      clear k1 k2 k3 Q1 Q2
      generalize wr.heap.size = G at K3 hl ⊢
      go_wp2_with fail
      go_loopw [8, 30] (fun c i wr => ∃ k : Nat, k ≤ 5 ∧ i = .int .i64 k ∧ c = .int .u64 (cy 2251799813685248 z 0 k : Nat) ∧ TSW w B x y wr ∧ Whole wr (B + 1 + 1 + 1) 61 (qcells (rw5 y) 10).toArray ∧ Whole wr G 38 (qcells (fun i => if i < k then po z 0 i else 0) 5).toArray) (fun _ i _ => 5 - (intOf i).toNat)
      case atStart => exact ⟨0, by omega, rfl, rfl, K1.out, K2.out, K3.out⟩
      case round =>
        obtain ⟨i, hi, rfl, rfl, q1, q2, q3⟩ := hrel
        by_cases hli : i < 5
        · have Q1 := Lib.hid q1
          have Q2 := Lib.hid q2
          have Q3 := Lib.hid q3
          have hg3 := q3.lt
          have hci := HC.out i hi
          have hzi := HZL.out i hli
          have HNX := Lib.hid (show cy 2251799813685248 z 0 (i + 1) = (z i + cy 2251799813685248 z 0 i) / 2251799813685248 from rfl)
          have HPO := Lib.hid (show po z 0 i = (z i + cy 2251799813685248 z 0 i) % 2251799813685248 from rfl)
          have HNC := Lib.hid (qcells_next (a := fun _ => 0) (b := po z 0) (k := i) (po z 0 i) rfl)
          generalize cy 2251799813685248 z 0 i = c at hci HNX HPO ⊢
          have HBU := Lib.hid (product_built c (by omega))
          have HSZ := Lib.hid (show ∀ f, (qcells f 2).toArray.size = 2 from fun f => qcells_size f 2)
          have HCUT := Lib.hid (cut_any (z i + c) (by omega))
          rw [← HNX.out, ← HPO.out, Nat.add_comm, HZ.out] at HCUT
          clear q1 q2 q3
          go_upto_region 13 with (rw [HBU.out]; refine wpList_store_row rfl 63 (.tmp 10) (.tmp 34) rfl wr.heap.size (qcells (pv c) 2).toArray rfl rfl 63 _ (Whole.new _ _ _) (by rw [HSZ.out]; kernel_rfl) (by rw [HSZ.out]; rfl) (qcells_one _ _) ?_)
          refine cut_world (fun X => TSW w B x y X ∧ Whole X (B + 1 + 1 + 1) 61 (qcells (rw5 y) 10).toArray ∧ Whole X G 38 (qcells (fun k => if k < i then po z 0 k else 0) 5).toArray ∧ Whole X wr.heap.size 63 (qcells (pv c) 2).toArray) ⟨?_, ?_, ?_, ?_⟩ ?_
          · exact tsw_grown (tsw_below Q1.out (below_alloc (Below.refl _ _) _) (by omega)) (grown_setRow _ wr.heap.size _) (by omega)
          · exact Whole.farRow (Q2.out.alloc _) (by omega) _
          · exact Whole.farRow (Q3.out.alloc _) (by omega) _
          · exact setRow_heap _ _ _ _ _ _ (Whole.new _ _ _)
          rintro X2 ⟨k1, k2, k3, k4⟩
          have K1 := Lib.hid k1
          have K2 := Lib.hid k2
          have K3 := Lib.hid k3
          have K4 := Lib.hid k4
          clear k1 k2 k3 k4 Q1 Q2 Q3
          generalize wr.heap.size = G2 at K4 hg3 ⊢
          go_wp2_with fail
          go_loopw [35] (fun q wr => ∃ j : Nat, j ≤ 5 ∧ q = .int .i64 j ∧ TSW w B x y wr ∧ Whole wr (B + 1 + 1 + 1) 61 (qcells (rw5 y) 10).toArray ∧ Whole wr G 38 (qcells (fun k => if k < i then po z 0 k else 0) 5).toArray ∧ Whole wr G2 63 (qcells (pv (c + sm x y i j)) 2).toArray) (fun q _ => 5 - (intOf q).toNat)
          case atStart => exact ⟨0, by omega, rfl, K1.out, K2.out, K3.out, K4.out⟩
          case round =>
            obtain ⟨j, hj, rfl, q1, q2, q3, q4⟩ := hrel
            by_cases hlj : j < 5
            · have Q1 := Lib.hid q1
              have Q2 := Lib.hid q2
              have Q3 := Lib.hid q3
              have Q4 := Lib.hid q4
              have hg4 := q4.lt
              have c1 := q1.1.num j hlj
              have xj := HX.out j
              obtain ⟨m, hm⟩ : ∃ m, m = 5 + i - j := ⟨_, rfl⟩
              have hm10 : m < 10 := by omega
              have c2 := q2.num m hm10
              have HW5 := Lib.hid (show IntKind.i64.wrap (IntKind.i64.wrap (5 + (i : Int)) - (j : Int)) = (m : Int) from place_wrap i j m hli hlj hm)
              have i1 : (m : Int) < 10 := by omega
              have i2 : (j : Int) < 5 := by omega
              have ym : rw5 y m ≤ 42784196460019712 := by
                unfold rw5
                have := HY.out m
                have := HY.out (m - 5)
                split <;> omega
              have hst := HSM.out i hli (j + 1) (by omega)
              rw [sm, ← hm] at hst
              have hmono : (j + 1) * (2251799813685248 * 42784196460019712) ≤ 5 * (2251799813685248 * 42784196460019712) := Nat.mul_le_mul_right _ (by omega)
              have HPLUS := Lib.hid (plus_any (c + sm x y i j) (x j) (rw5 y m) (by omega) (by omega) (by omega))
              have HSTEP := Lib.hid (show c + sm x y i j + x j * rw5 y m = c + sm x y i (j + 1) by rw [sm, ← hm, Nat.add_assoc])
              rw [HSTEP.out] at HPLUS
              generalize hs0 : c + sm x y i j = s0 at HPLUS Q4
              generalize hs1 : c + sm x y i (j + 1) = s1 at HPLUS
              have HS1 := Lib.hid hs1
              generalize rw5 y m = ym' at c2 HPLUS
              clear q1 q2 q3 q4 hm hst hmono ym HSTEP hs0 hs1
              go_wp2_with fail
              refine wp_region_still_tail 11 (by kernel_rfl) (by kernel_rfl) ?_
              simp only [List.take_succ_cons, List.take_zero, List.drop_succ_cons, List.drop_zero]
              refine still_load (by rfl) 63 (.tmp 10) rfl G2 (by rfl) (cs := (qcells (pv s0) 2).toArray) Q4.out.drew rfl rfl (by rw [HSZ.out]; kernel_rfl) ?_
              try simp only [Act.put, List.setIfInBounds_toArray, List.set_cons_zero, List.set_cons_succ]
              repeat still_step
              rw [HW5.out]
              repeat still_step
              refine wpStill_nil ?_
              change wpList _ _ _ _ _ wr.drew
              go_wp2_with fail
              refine (HPLUS.out _).mono ?_
              rintro e w5 ⟨rfl, hb⟩
              have R1 := Lib.hid (tsw_below (X := wr) (G := wr.heap.size) Q1.out ⟨hb.os, hb.tape, hb.output, hb.size, hb.block⟩ (by omega))
              have R2 := Lib.hid (Q2.out.drew.below hb (show B + 1 + 1 + 1 < wr.heap.size by omega))
              have R3 := Lib.hid (Q3.out.drew.below hb (show G < wr.heap.size by omega))
              have R4 := Lib.hid (Q4.out.drew.below hb hg4)
              clear hb Q1 Q2 Q3 Q4 c1 c2
              go_wp2_with (refine wpList_store_row rfl 63 (.tmp 10) (.tmp 49) rfl G2 (qcells (pv s1) 2).toArray rfl rfl 63 _ R4.out (by rw [HSZ.out]; kernel_rfl) (by rw [HSZ.out, HSZ.out]) (qcells_one _ _) ?_)
              go_roundw
              case rel =>
                refine ⟨j + 1, by omega, by go_num, tsw_grown R1.out (grown_setRow _ G2 _) (by omega), Whole.farRow R2.out (by omega) _, Whole.farRow R3.out (by omega) _, ?_⟩
                rw [HS1.out]
                exact setRow_heap _ _ _ _ _ _ R4.out
              case measure => simp [intOf]; omega
            · obtain rfl : j = 5 := by omega
              have Q1 := Lib.hid q1
              have Q2 := Lib.hid q2
              have Q3 := Lib.hid q3
              have Q4 := Lib.hid q4
              have hg4 := q4.lt
              clear q1 q2 q3 q4
              go_wp2_with (refine wpList_load_row rfl 63 (.tmp 10) rfl G2 rfl 63 (qcells (pv (c + sm x y i 5)) 2).toArray (0, 0) _ Q4.out rfl rfl (by rw [HSZ.out]; kernel_rfl) ?_)
              refine (HCUT.out _).mono ?_
              rintro e w5 ⟨rfl, hb⟩
              have R1 := Lib.hid (tsw_below Q1.out hb (by omega))
              have R2 := Lib.hid (Q2.out.below hb (show B + 1 + 1 + 1 < wr.heap.size by omega))
              have R3 := Lib.hid (Q3.out.below hb (show G < wr.heap.size by omega))
              have c1 := R3.out.num i hli
              have f1 := R3.out.free i
              clear hb Q1 Q2 Q3 Q4
              go_wp2_with fail
              go_roundw
              case rel =>
                refine ⟨i + 1, by omega, by go_num, rfl, tsw_grown R1.out (grown_set _ G _ _) (by omega), R2.out.far (by show B + 1 + 1 + 1 ≠ G; omega) _, ?_⟩
                have h := R3.out.put i (.int .u64 (po z 0 i : Nat))
                rw [qcells_set, HNC.out] at h
                exact h
              case measure => simp [intOf]; omega
        · obtain rfl : i = 5 := by omega
          rw [qcells_congr (g := po z 0) (fun i hi => if_pos hi)] at q3
          have Q1 := Lib.hid q1
          have Q3 := Lib.hid q3
          clear q1 q2 q3
          rw [HOC.out]
          go_wp2_with fail
          refine (back_any G (po z 0) o HPL.out HO.out HV.out _ Q3.out).mono ?_
          rintro e w1 ⟨rfl, h1, h2⟩
          have R1 := Lib.hid (tsw_grown Q1.out h2 (by omega))
          rw [HE.out] at h1
          have R3 := Lib.hid h1
          clear h1 h2
          generalize hL : dg 2251799813685248 (a * b % P) = L at R3
          have HL := Lib.hid hL
          clear hL
          go_wp2_with (first | (refine wpList_load_row rfl 38 (.tmp 7) rfl G rfl 38 (qcells L 5).toArray (0, 0) _ R3.out rfl rfl (by rw [qcells_size]; kernel_rfl) ?_) | (refine wpList_store_row rfl 38 (.tmp 4) (.tmp 62) rfl (B + 1 + 1) (qcells L 5).toArray rfl rfl 38 _ R1.out.2.2.1 (by rw [qcells_size]; kernel_rfl) (by rw [qcells_size, qcells_size]) (qcells_one _ _) ?_))
          have hret : Whole (w1.setRow (B + 1 + 1) (qcells L 5).toArray) (B + 1 + 1) 38 (qcells L 5).toArray := setRow_heap w1 _ _ _ _ _ R1.out.2.2.1
          refine bodyPost_ret (results_cell_row rfl _ _ (B + 1 + 1) 38 _ (0, 0) _ rfl hret rfl rfl (by rw [qcells_size]; kernel_rfl)) rfl ?_
          exact ⟨by rw [el, HL.out], by rw [hB]; exact below_setRow R1.out.2.2.2 (by omega) _⟩

end Field
end Go.Proofs.Ytnopjjkijedpeaa
