/- 'aditlaw12.InnerReads' returns true at every input and writes nothing that was there: the walk. -/
import Derived.Test.YtiemcfgjpcnloaaInnerRefC
import Derived.Test.YtiemcfgjpcnloaaInnerSize
namespace Go.Proofs.Ytiemcfgjpcnloaa
namespace Inner
open Go.ChangeShapes Go.WideShapes Go.ChangeAt Go.RowKit
open Num Mem Words Chacha Aead Poly Quiet

set_option maxRecDepth 100000 in
set_option maxHeartbeats 2000000 in
theorem rf_zero (A : Option Addr) (c : Nat) (w : World) :
    Calls Try.prog 10 #[.slice A 0 c] w fun e w' => e = .returned (.tuple #[.agg (packL false nought false nought 0).toArray, .int .i64 10]) ∧ Below w.heap.size w w' := by
  obtain ⟨zs, hz, hzs, hzc⟩ : ∃ zs : Array Value, (∀ w, (zeroValue 32).run Try.prog w = .ok (.agg zs) w) ∧ zs.size = 35 ∧ zs = (packL false nought false nought 0).toArray := ⟨_, zero_packR, pack_size _ _ _ _ _, rfl⟩
  have HZC := Lib.hid hzc
  have HZS := Lib.hid hzs
  have HB0 := Lib.hid packR_built0
  have HO := Lib.hid (pack_one false nought false nought 0)
  rw [← hzc] at HB0 HO
  clear hzc hzs
  go_enter Try.func10, Try.ntmps10
  go_wp2_with (first | (refine wpList_built0 rfl 32 rfl zs HB0.out ?_) | (refine wpList_store_row rfl 32 (.tmp 2) (.tmp 11) rfl w.heap.size zs rfl rfl 32 _ (Whole.new _ _ zs) (by rw [HZS.out]; kernel_rfl) rfl HO.out ?_))
  have hret : Whole ((w.alloc (.cells zs 32)).setRow w.heap.size zs) w.heap.size 32 (packL false nought false nought 0).toArray := by
    rw [← HZC.out]
    exact setRow_heap _ _ _ _ _ _ (Whole.new _ _ _)
  refine bodyPost_ret (Poly.results_cell_tmp rfl _ _ w.heap.size 32 _ _ rfl hret rfl rfl (by rw [packL_length]; kernel_rfl)) rfl ?_
  exact ⟨rfl, below_setRow (below_alloc (Below.refl _ _) _) (Nat.le_refl _) _⟩

theorem read_ref (A : Option Addr) (n c : Nat) (f : Nat → Nat) (hf : ∀ i, f i < 256) (hn : n ≤ 4000) (hcn : n ≤ c) (hcm : c ≤ 9223372036854775807) (w : World) (hr : Rd w A n f) :
    Calls Try.prog 10 #[.slice A n c] w fun e w' => e = .returned (.tuple #[.agg (rdL f n).toArray, .int .i64 (rdE f n : Nat)]) ∧ Below w.heap.size w w' := by
  by_cases h0 : n = 0
  · subst h0
    exact rf_zero A c w
  have h1 : 0 < n := by omega
  obtain ⟨b, off, rfl, hb, hc⟩ : ∃ b off, A = some ⟨b, off, none⟩ ∧ b < w.heap.size ∧ ∀ i, i < n → w.cell? ⟨b, off + i, none⟩ = some (.int .u8 (f i : Nat)) := by
    rcases hr with h | h
    · exact absurd h h0
    · exact h
  by_cases h4 : f 0 / 16 = 4
  · by_cases h20 : n < 20
    · have e : rdE f n = 10 := by unfold rdE; rw [if_neg h0, if_pos h4, if_pos h20]
      rw [rd_nought (by omega), e]
      exact rf_four_short b off n c f hf hn h1 hcn hcm h4 h20 w hb hc
    · by_cases hk : ok4 f n
      · have e : rdE f n = 0 := by unfold rdE; rw [if_neg h0, if_pos h4, if_neg h20, if_pos hk]
        have e2 : rdL f n = packL false (at4 f 12) false (at4 f 16) (sz4 f) := by unfold rdL; rw [if_pos e, if_pos h4]
        rw [e, e2]
        exact rf_four_ok b off n c f hf hn h1 hcn hcm h4 (by omega) hk w hb hc
      · have e : rdE f n = 50 := by unfold rdE; rw [if_neg h0, if_pos h4, if_neg h20, if_neg hk]
        rw [rd_nought (by omega), e]
        exact rf_four_bad b off n c f hf hn h1 hcn hcm h4 (by omega) hk w hb hc
  · by_cases h6 : f 0 / 16 = 6
    · by_cases h40 : n < 40
      · have e : rdE f n = 10 := by unfold rdE; rw [if_neg h0, if_neg h4, if_pos h6, if_pos h40]
        rw [rd_nought (by omega), e]
        exact rf_six_short b off n c f hf hn h1 hcn hcm h6 h40 w hb hc
      · by_cases hk : sz6 f ≤ n
        · have e : rdE f n = 0 := by unfold rdE; rw [if_neg h0, if_neg h4, if_pos h6, if_neg h40, if_pos hk]
          have e2 : rdL f n = packL true (at6 f 8) true (at6 f 24) (sz6 f) := by unfold rdL; rw [if_pos e, if_neg h4]
          rw [e, e2]
          exact rf_six_ok b off n c f hf hn h1 hcn hcm h6 (by omega) hk w hb hc
        · have e : rdE f n = 50 := by unfold rdE; rw [if_neg h0, if_neg h4, if_pos h6, if_neg h40, if_neg hk]
          rw [rd_nought (by omega), e]
          exact rf_six_bad b off n c f hf hn h1 hcn hcm h6 (by omega) hk w hb hc
    · have e : rdE f n = 50 := by unfold rdE; rw [if_neg h0, if_neg h4, if_neg h6]
      rw [rd_nought (by omega), e]
      exact rf_none b off n c f hf hn h1 hcn hcm h4 h6 w hb hc

/-- the walk of a region behind a wall: a goal whose head does not unfold (twelve operations in a row that are passed over) -/
structure WQ (P : Program) (ops : Array Oper) (C : World → Prop) (Q : Act → Prop) (l : List Oper) (a : Act) : Prop where
  out : wpQuiet P ops C Q l a
section
variable {P : Program} {ops : Array Oper} {C : World → Prop} {Q : Act → Prop} {a : Act} {o : Oper} {rest l : List Oper}
theorem wq_in (h : WQ P ops C Q l a) : wpQuiet P ops C Q l a := h.out
theorem wq_take (v : Value) (hw : Region.wanted o (yielded ops a.tmps) = true) (hy : ∀ w, C w → (execOp a.eval o).run P w = .ok (.value v) w) (h : WQ P ops C Q rest (a.put o.dst v)) : WQ P ops C Q (o :: rest) a := ⟨q_take v hw hy h.out⟩
theorem wq_pass (hw : Region.wanted o (yielded ops a.tmps) = false) (h : WQ P ops C Q rest (a.put o.dst undef)) : WQ P ops C Q (o :: rest) a := ⟨q_pass hw h.out⟩
theorem wq_call (v : Value) (f : FuncId) (args : Array Value) (hw : Region.wanted o (yielded ops a.tmps) = true) (hr : ∀ w, (execOp a.eval o).run P w = .ok (.enter f args) w)
    (hc : ∀ w, C w → Calls P f args w fun e w' => e = .returned v ∧ C w') (h : WQ P ops C Q rest (a.put o.dst v)) : WQ P ops C Q (o :: rest) a := ⟨q_call v f args hw hr hc h.out⟩
theorem wq_end (h : Q a) : WQ P ops C Q [] a := ⟨wpQuiet_nil h⟩
end
/-- a load of a part of a struct behind a guard that is met -/
theorem wpList_load_mid_if {P : Program} {ops : Array Oper} {rest : List Oper} {o : Oper} {a : Act} {w : World} {Q : Exit → Act → World → Prop} (hw : Region.wanted o (yielded ops a.tmps) = true) (ty : TypeId) (x : Operand) (ho : o.op = .load ty x)
    (g off : Nat) (hx : a.eval x = .pointer (some ⟨g, off, none⟩)) (cs : List Value) (d : TypeDesc) (hg : w.rangeAt g off cs)
    (hu : P.underlying ty = some d) (hd : d.isRow = true) (hi : (P.info? ty).map (·.size) = some cs.length)
    (h : wpList P ops Q rest (a.put o.dst (.agg cs.toArray)) w) : wpList P ops Q (o :: rest) a w :=
  wpList_step fun _ hK => by
    rw [if_pos hw]
    exact wp_load_mid ty x ho g off hx cs d hg hu hd hi (hK _ _ h)
theorem run_neq_op {P : Program} {o : Oper} {a : Act} (t : TypeId) (x y : Operand) (t2 : TypeId) (ho : o.op = .binOp .neq t x y t2) (xs ys : Array Value) (hx : a.eval x = .agg xs) (hy : a.eval y = .agg ys) (r q : Bool) (hq : q = !r)
    (hg : P.eqGuardType P.depth t = false) (hE : ∀ w, (Op.equalIn 10000 t (.agg xs) (.agg ys)).run P w = .ok r w) (w : World) : (execOp a.eval o).run P w = .ok (.value (.bool q)) w := by
  subst hq
  unfold execOp
  simp only [ho, hx, hy, Sem.run_bind, run_eqGuard_agg w _ _ _ _ _ _ hg, Result.andThen_ok, run_neq_struct, hE, Sem.run_pure]
theorem rd_parts (f : Nat → Nat) (hf : ∀ i, f i < 256) (n : Nat) : ∃ (s : Bool) (F1 F2 : Nat → Nat), (∀ i, F1 i < 256) ∧ (∀ i, F2 i < 256) ∧ rdL f n = packL s F1 s F2 (rdN f n : Nat) := by
  by_cases hE : rdE f n = 0
  · obtain ⟨s, F1, F2, h1, h2, h3, _⟩ := rd_form hf hE
    exact ⟨s, F1, F2, h1, h2, h3⟩
  · refine ⟨false, nought, nought, fun _ => by unfold nought; omega, fun _ => by unfold nought; omega, ?_⟩
    rw [rd_nought hE]
    unfold rdN
    rw [if_neg hE]
    rfl
theorem pack_range1 {X : World} {g : Nat} {t : TypeId} {s1 s2 : Bool} {f1 f2 : Nat → Nat} {z : Int} (h : Whole X g t (packL s1 f1 s2 f2 z).toArray) : X.rangeAt g 0 (addrL s1 f1) := by
  intro j v hj
  rw [Nat.zero_add, h.cell, List.getElem?_toArray]
  unfold packL
  rw [List.getElem?_append_left (by
    rcases Nat.lt_or_ge j (addrL s1 f1).length with k | k
    · exact k
    · rw [List.getElem?_eq_none k] at hj; cases hj)]
  exact hj
theorem pack_range2 {X : World} {g : Nat} {t : TypeId} {s1 s2 : Bool} {f1 f2 : Nat → Nat} {z : Int} (h : Whole X g t (packL s1 f1 s2 f2 z).toArray) : X.rangeAt g 17 (addrL s2 f2) := by
  intro j v hj
  have hl : j < (addrL s2 f2).length := by
    rcases Nat.lt_or_ge j (addrL s2 f2).length with k | k
    · exact k
    · rw [List.getElem?_eq_none k] at hj; cases hj
  rw [h.cell, List.getElem?_toArray]
  unfold packL
  rw [List.getElem?_append_right (by rw [addrL_length]; omega), addrL_length, Nat.add_sub_cancel_left, List.getElem?_append_left hl]
  exact hj
end Inner
namespace InnerReads
open Go.ChangeShapes Go.WideShapes Go.ChangeAt Go.RowKit
open Num Mem Words Chacha Aead Poly Quiet Inner

set_option maxRecDepth 100000 in
set_option maxHeartbeats 4000000 in
theorem walk (A1 : Option Addr) (n c1 : Nat) (z1 : List Int) (w : World) (r1 : IsRow .u8 w A1 n c1 z1) :
    Calls Try.prog 3 #[.slice A1 n c1] w fun e w' => e = .returned (.bool true) ∧ Below w.heap.size w w' := by
  obtain ⟨f, hf, hA1, hn1, hm1, hz1⟩ := row_rd r1
  clear r1 hz1
  have R1 := Lib.hid hA1
  have HF := Lib.hid hf
  clear hA1 hf
  by_cases hn : 2000 < n
  · go_enter Try.func3, Try.ntmps3
    go_wp2_with fail
    refine (alive_any _).mono ?_
    rintro e w1 ⟨rfl, hb⟩
    go_wp2_with fail
    go_ret
    exact ⟨rfl, hb⟩
  have k1 : n ≤ 2000 := by omega
  clear hn
  obtain ⟨zs, hz, hzs⟩ : ∃ zs : Array Value, (∀ w, (zeroValue 28).run Try.prog w = .ok (.agg zs) w) ∧ zs.size = 35 := ⟨_, zero_pack, pack_size _ _ _ _ _⟩
  obtain ⟨ys, hy, hys⟩ : ∃ zs : Array Value, (∀ w, (zeroValue 32).run Try.prog w = .ok (.agg zs) w) ∧ zs.size = 35 := ⟨_, zero_packR, pack_size _ _ _ _ _⟩
  have HZS := Lib.hid hzs
  have HYS := Lib.hid hys
  have CR := Lib.hid (fun X hX => read_any A1 n c1 f HF.out (by omega) hn1 hm1 X hX)
  have CF := Lib.hid (fun X hX => read_ref A1 n c1 f HF.out (by omega) hn1 hm1 X hX)
  have CN := Lib.hid (fun X hX hE => cut_no A1 n c1 f HF.out (by omega) hn1 hm1 X hX hE)
  have CC := Lib.hid (fun b off (e : A1 = some ⟨b, off, none⟩) X hb hc hE => by
    subst e
    exact cut_ok b off n c1 f HF.out (by omega) hn1 hm1 X hb hc hE : ∀ b off, A1 = some ⟨b, off, none⟩ → ∀ X : World, b < X.heap.size → (∀ i, i < n → X.cell? ⟨b, off + i, none⟩ = some (.int .u8 (f i : Nat))) → rdE f n = 0 → Calls Try.prog 11 #[.slice A1 n c1] X fun e w' => ∃ G, e = .returned (.tuple #[.slice (some ⟨G, 0, none⟩) (rdN f n) (rdN f n), .int .i64 0]) ∧ Whole w' G 5 (byteCells f (rdN f n)).toArray ∧ X.heap.size ≤ G ∧ Below X.heap.size X w')
  obtain ⟨s, F1, F2, h1, h2, hL⟩ := rd_parts f HF.out n
  have hNn := rdN_le f n
  rw [hL] at CR CF
  have HO := Lib.hid (pack_one s F1 s F2 (rdN f n : Nat))
  have HPS := Lib.hid (pack_size s F1 s F2 (rdN f n : Nat))
  have HE1 := Lib.hid (fun w => eqin_addr 9997 s s F1 F1 h1 h1 true (by simp) w)
  have HE2 := Lib.hid (fun w => eqin_addr 9997 s s F2 F2 h2 h2 true (by simp) w)
  have HRN1 := Lib.hid (fun (X : World) (g : Nat) (t : TypeId) (h : Whole X g t (packL s F1 s F2 (rdN f n : Nat)).toArray) => pack_range1 h)
  have HRN2 := Lib.hid (fun (X : World) (g : Nat) (t : TypeId) (h : Whole X g t (packL s F1 s F2 (rdN f n : Nat)).toArray) => pack_range2 h)
  have HC34 := Lib.hid (pack_at34 s F1 s F2 (rdN f n : Nat))
  have HA1 := Lib.hid (addrL_length s F1)
  have HA2 := Lib.hid (addrL_length s F2)
  have HEN := Lib.hid (show rdE f n ≠ 0 → rdN f n = 0 from fun h => by unfold rdN; rw [if_neg h])
  have HNZ := Lib.hid (show rdE f n = 0 → 0 < n from fun h => by rcases rdE_zero.1 h with ⟨_, h, _⟩ | ⟨_, h, _⟩ <;> omega)
  have HSL := Lib.hid (fun (X : World) (hX : Rd X A1 n f) => rd_front hX (rdN f n) hNn)
  obtain ⟨N, hN⟩ : ∃ N, rdN f n = N := ⟨_, rfl⟩
  obtain ⟨E, hEE⟩ : ∃ E, rdE f n = E := ⟨_, rfl⟩
  rw [hN] at CR CF CC HO HPS HC34 HEN hNn HSL
  simp only [hN] at HRN1 HRN2
  rw [hEE] at CR CF HEN
  rw [hEE] at CC CN HNZ
  obtain ⟨P, hP⟩ : ∃ P, packL s F1 s F2 (N : Nat) = P := ⟨_, rfl⟩
  rw [hP] at CR CF HO HPS HC34
  simp only [hP] at HRN1 HRN2
  obtain ⟨L1, hL1⟩ : ∃ L, addrL s F1 = L := ⟨_, rfl⟩
  obtain ⟨L2, hL2⟩ : ∃ L, addrL s F2 = L := ⟨_, rfl⟩
  rw [hL1] at HE1 HA1
  rw [hL2] at HE2 HA2
  simp only [hL1] at HRN1
  simp only [hL2] at HRN2
  clear hL hN hEE hP hL1 hL2 h1 h2 hzs hys
  go_enter Try.func3, Try.ntmps3
  go_wp2_with fail
  refine (CR.out _ R1.out).mono ?_
  rintro e w1 ⟨rfl, hb1⟩
  have HB1 := Lib.hid hb1
  clear hb1 CR
  go_upto_region 4 with (refine wpList_store_row rfl 28 (.tmp 3) (.tmp 16) rfl w1.heap.size P.toArray rfl rfl 28 _ (Whole.new _ _ zs) (by rw [HPS.out]; kernel_rfl) (by rw [HPS.out, HZS.out]) HO.out ?_)
  try simp only [Act.put]
  refine cut_world (fun X => Whole X w1.heap.size 28 P.toArray ∧ Below w.heap.size w X) ⟨setRow_heap _ _ _ _ _ _ (Whole.new _ _ _), below_setRow (below_alloc HB1.out _) HB1.out.size _⟩ ?_
  clear HB1 hz
  generalize w1.heap.size = G
  rintro W ⟨k, kb⟩
  have K1 := Lib.hid k
  have KB := Lib.hid kb
  clear k kb
  go_wp2_with fail
  refine (CF.out _ (R1.out.below KB.out (Nat.le_refl _))).mono ?_
  rintro e w2 ⟨rfl, hb2⟩
  have K2 := Lib.hid (K1.out.below hb2 K1.out.lt)
  have KB2 := Lib.hid (below_trans KB.out hb2)
  clear hb2 CF K1 KB
  go_upto_region 5 with (refine wpList_store_row rfl 32 (.tmp 5) (.tmp 21) rfl w2.heap.size P.toArray rfl rfl 32 _ (Whole.new _ _ ys) (by rw [HPS.out]; kernel_rfl) (by rw [HPS.out, HYS.out]) HO.out ?_)
  try simp only [Act.put]
  have hbs : Below w2.heap.size w2 ((w2.alloc (.cells ys 32)).setRow w2.heap.size P.toArray) := below_setRow (below_alloc (Below.refl _ _) _) (Nat.le_refl _) _
  refine cut_world (fun X => Whole X G 28 P.toArray ∧ Whole X w2.heap.size 32 P.toArray ∧ Below w.heap.size w X) ⟨K2.out.below hbs K2.out.lt, setRow_heap _ _ _ _ _ _ (Whole.new _ _ _), below_trans KB2.out hbs⟩ ?_
  clear hbs K2 KB2 hy
  generalize w2.heap.size = G2
  rintro W3 ⟨q1, q2, qb⟩
  have Q1 := Lib.hid q1
  have Q2 := Lib.hid q2
  have QB := Lib.hid qb
  have QR := Lib.hid (R1.out.below qb (Nat.le_refl _))
  clear q1 q2 qb
  by_cases hE : E = 0
  · subst hE
    obtain ⟨b, off, rfl, hbl, hcells⟩ : ∃ b off, A1 = some ⟨b, off, none⟩ ∧ b < W3.heap.size ∧ ∀ i, i < n → W3.cell? ⟨b, off + i, none⟩ = some (.int .u8 (f i : Nat)) := by
      rcases QR.out with h | h
      · have := HNZ.out rfl
        omega
      · exact h
    have CU := Lib.hid (CC.out b off rfl W3 hbl hcells (by first | exact rfl | exact trivial))
    clear CC
    go_wp2_with fail
    refine CU.out.mono ?_
    rintro e w4 ⟨GC, rfl, k4, _, hb4⟩
    have P1 := Lib.hid (Q1.out.below hb4 Q1.out.lt)
    have P2 := Lib.hid (Q2.out.below hb4 Q2.out.lt)
    have PB := Lib.hid (below_trans QB.out hb4)
    have PR := Lib.hid (HSL.out _ (QR.out.below hb4 (Nat.le_refl _)))
    have PC := Lib.hid (Rd.of_whole k4)
    have d34 : w4.cell? ⟨G, 34, none⟩ = some (.int .i64 (N : Nat)) := by rw [P1.out.cell, List.getElem?_toArray, HC34.out]
    have e34 : w4.cell? ⟨G2, 34, none⟩ = some (.int .i64 (N : Nat)) := by rw [P2.out.cell, List.getElem?_toArray, HC34.out]
    have D34 := Lib.hid e34
    clear hb4 k4 Q1 Q2 QB QR CN CU hcells hbl HNZ
    go_upto_region 6 with fail
    apply wp_region_lit
    refine wpList_value_if (by rfl) _ (by go_simp; try with_reducible rfl) ?_
    try simp only [Act.put, List.setIfInBounds_toArray, List.set_cons_zero, List.set_cons_succ]
    refine wpList_value_if (by rfl) _ (by go_simp; try with_reducible rfl) ?_
    try simp only [Act.put, List.setIfInBounds_toArray, List.set_cons_zero, List.set_cons_succ]
    refine wpList_value_if (by rfl) _ (by go_simp; try with_reducible rfl) ?_
    try simp only [Act.put, List.setIfInBounds_toArray, List.set_cons_zero, List.set_cons_succ]
    refine wpList_value_if (by rfl) _ (by go_simp; try with_reducible rfl) ?_
    try simp only [Act.put, List.setIfInBounds_toArray, List.set_cons_zero, List.set_cons_succ]
    refine wpList_value_if (by rfl) _ (by go_simp; try with_reducible rfl) ?_
    try simp only [Act.put, List.setIfInBounds_toArray, List.set_cons_zero, List.set_cons_succ]
    refine wpList_load_mid_if (by rfl) 26 (.tmp 32) rfl G 0 rfl L1 _ (HRN1.out _ _ _ P1.out) rfl rfl (by rw [HA1.out]; kernel_rfl) ?_
    try simp only [Act.put, List.setIfInBounds_toArray, List.set_cons_zero, List.set_cons_succ]
    refine wpList_value_if (by rfl) _ (by go_simp; try with_reducible rfl) ?_
    try simp only [Act.put, List.setIfInBounds_toArray, List.set_cons_zero, List.set_cons_succ]
    refine wpList_load_mid_if (by rfl) 26 (.tmp 34) rfl G2 0 rfl L1 _ (HRN1.out _ _ _ P2.out) rfl rfl (by rw [HA1.out]; kernel_rfl) ?_
    try simp only [Act.put, List.setIfInBounds_toArray, List.set_cons_zero, List.set_cons_succ]
    refine wpList_value_if (by rfl) (.bool false) (run_neq_op 26 (.tmp 33) (.tmp 35) _ rfl L1.toArray L1.toArray rfl rfl true false rfl (by kernel_rfl) HE1.out _) ?_
    try simp only [Act.put, List.setIfInBounds_toArray, List.set_cons_zero, List.set_cons_succ]
    refine wpList_value_if (by rfl) _ (by go_simp; try with_reducible rfl) ?_
    try simp only [Act.put, List.setIfInBounds_toArray, List.set_cons_zero, List.set_cons_succ]
    refine wpList_value_if (by rfl) _ (by go_simp; try with_reducible rfl) ?_
    try simp only [Act.put, List.setIfInBounds_toArray, List.set_cons_zero, List.set_cons_succ]
    refine wpList_value_if (by rfl) _ (by go_simp; try with_reducible rfl) ?_
    try simp only [Act.put, List.setIfInBounds_toArray, List.set_cons_zero, List.set_cons_succ]
    refine wpList_load_mid_if (by rfl) 26 (.tmp 39) rfl G 17 rfl L2 _ (HRN2.out _ _ _ P1.out) rfl rfl (by rw [HA2.out]; kernel_rfl) ?_
    try simp only [Act.put, List.setIfInBounds_toArray, List.set_cons_zero, List.set_cons_succ]
    refine wpList_value_if (by rfl) _ (by go_simp; try with_reducible rfl) ?_
    try simp only [Act.put, List.setIfInBounds_toArray, List.set_cons_zero, List.set_cons_succ]
    refine wpList_load_mid_if (by rfl) 26 (.tmp 41) rfl G2 17 rfl L2 _ (HRN2.out _ _ _ P2.out) rfl rfl (by rw [HA2.out]; kernel_rfl) ?_
    try simp only [Act.put, List.setIfInBounds_toArray, List.set_cons_zero, List.set_cons_succ]
    refine wpList_value_if (by rfl) (.bool false) (run_neq_op 26 (.tmp 40) (.tmp 42) _ rfl L2.toArray L2.toArray rfl rfl true false rfl (by kernel_rfl) HE2.out _) ?_
    try simp only [Act.put, List.setIfInBounds_toArray, List.set_cons_zero, List.set_cons_succ]
    refine wpList_value_if (by rfl) _ (by go_simp; try with_reducible rfl) ?_
    try simp only [Act.put, List.setIfInBounds_toArray, List.set_cons_zero, List.set_cons_succ]
    refine wpList_value_if (by rfl) _ (by go_simp; try with_reducible rfl) ?_
    try simp only [Act.put, List.setIfInBounds_toArray, List.set_cons_zero, List.set_cons_succ]
    refine wpList_value_if (by rfl) _ (by go_simp; try with_reducible rfl) ?_
    try simp only [Act.put, List.setIfInBounds_toArray, List.set_cons_zero, List.set_cons_succ]
    refine wpList_value_if (by rfl) _ (by go_simp; try with_reducible rfl) ?_
    try simp only [Act.put, List.setIfInBounds_toArray, List.set_cons_zero, List.set_cons_succ]
    refine wpList_value_if (by rfl) _ (by go_simp; try with_reducible rfl) ?_
    try simp only [Act.put, List.setIfInBounds_toArray, List.set_cons_zero, List.set_cons_succ]
    refine wpList_value_if (by rfl) _ (by go_simp; try with_reducible rfl) ?_
    try simp only [Act.put, List.setIfInBounds_toArray, List.set_cons_zero, List.set_cons_succ]
    refine wpList_value_if (by rfl) _ (by go_simp; try with_reducible rfl) ?_
    try simp only [Act.put, List.setIfInBounds_toArray, List.set_cons_zero, List.set_cons_succ]
    refine wpList_value_if (by rfl) _ (by go_simp; try with_reducible rfl) ?_
    try simp only [Act.put, List.setIfInBounds_toArray, List.set_cons_zero, List.set_cons_succ]
    refine wpList_value_if (by rfl) _ (by go_simp; try with_reducible rfl) ?_
    try simp only [Act.put, List.setIfInBounds_toArray, List.set_cons_zero, List.set_cons_succ]
    refine wpList_value_if (by rfl) _ (by go_simp; try with_reducible rfl) ?_
    try simp only [Act.put, List.setIfInBounds_toArray, List.set_cons_zero, List.set_cons_succ]
    refine wpList_value_if (by rfl) _ (by go_simp; try with_reducible rfl) ?_
    try simp only [Act.put, List.setIfInBounds_toArray, List.set_cons_zero, List.set_cons_succ]
    refine wpList_value_if (by rfl) _ (by go_simp; try with_reducible rfl) ?_
    try simp only [Act.put, List.setIfInBounds_toArray, List.set_cons_zero, List.set_cons_succ]
    refine wpList_value_if (by rfl) _ (by go_simp; try with_reducible rfl) ?_
    try simp only [Act.put, List.setIfInBounds_toArray, List.set_cons_zero, List.set_cons_succ]
    go_upto_region 8 with fail
    clear d34 e34
    have hNc : (N : Int) ≤ (c1 : Int) := by omega
    obtain ⟨ST, hST⟩ : ∃ ST, strOf f N = ST := ⟨_, rfl⟩
    have RS1 := Lib.hid (show ∀ x : World, Below w4.heap.size w4 x → ∀ (o : Oper) {a : Act} (ho : o.op = .convert 22 9 (.tmp 70)) (ha : a.eval (.tmp 70) = .slice (some ⟨GC, 0, none⟩) N N), (execOp a.eval o).run Try.prog x = .ok (.value (.string ST)) x from fun x hx o {a} ho ha => by
      rw [← hST]
      exact run_string_op 22 9 5 (.tmp 70) ho ha Try.underlying22 Try.underlying5 Try.underlying9 (PC.out.below hx (Nat.le_refl _)))
    have RS2 := Lib.hid (show ∀ x : World, Below w4.heap.size w4 x → ∀ (o : Oper) {a : Act} (ho : o.op = .convert 22 9 (.tmp 75)) (ha : a.eval (.tmp 75) = .slice (some ⟨b, off, none⟩) N c1), (execOp a.eval o).run Try.prog x = .ok (.value (.string ST)) x from fun x hx o {a} ho ha => by
      rw [← hST]
      exact run_string_op 22 9 5 (.tmp 75) ho ha Try.underlying22 Try.underlying5 Try.underlying9 (PR.out.below hx (Nat.le_refl _)))
    clear hST
    refine q_start (by kernel_rfl) (by kernel_rfl) ?_
    refine q_call (.bool true) 8 #[] (by rfl) (by intro w; go_simp; try with_reducible rfl) (fun x hx => (alive_any x).mono fun e w' ⟨he, hb⟩ => ⟨he, below_trans hx hb⟩) ?_
    try simp only [Act.put, List.setIfInBounds_toArray, List.set_cons_zero, List.set_cons_succ]
    refine q_take _ (by rfl) (by intro w _; go_simp; try with_reducible rfl) ?_
    try simp only [Act.put, List.setIfInBounds_toArray, List.set_cons_zero, List.set_cons_succ]
    refine q_take _ (by rfl) (by intro w _; go_simp; try with_reducible rfl) ?_
    try simp only [Act.put, List.setIfInBounds_toArray, List.set_cons_zero, List.set_cons_succ]
    refine q_take (.bool false) (by rfl) (by intro w _; go_simp; try with_reducible rfl) ?_
    try simp only [Act.put, List.setIfInBounds_toArray, List.set_cons_zero, List.set_cons_succ]
    refine q_take (.bool false) (by rfl) (by intro w _; go_simp; try with_reducible rfl) ?_
    try simp only [Act.put, List.setIfInBounds_toArray, List.set_cons_zero, List.set_cons_succ]
    refine q_pass (by rfl) ?_
    try simp only [Act.put, List.setIfInBounds_toArray, List.set_cons_zero, List.set_cons_succ]
    refine q_pass (by rfl) ?_
    try simp only [Act.put, List.setIfInBounds_toArray, List.set_cons_zero, List.set_cons_succ]
    refine q_pass (by rfl) ?_
    try simp only [Act.put, List.setIfInBounds_toArray, List.set_cons_zero, List.set_cons_succ]
    refine q_take (.bool false) (by rfl) (by intro w _; go_simp; try with_reducible rfl) ?_
    try simp only [Act.put, List.setIfInBounds_toArray, List.set_cons_zero, List.set_cons_succ]
    refine q_take (.bool false) (by rfl) (by intro w _; go_simp; try with_reducible rfl) ?_
    try simp only [Act.put, List.setIfInBounds_toArray, List.set_cons_zero, List.set_cons_succ]
    refine q_take _ (by rfl) (by intro w _; go_simp; try with_reducible rfl) ?_
    try simp only [Act.put, List.setIfInBounds_toArray, List.set_cons_zero, List.set_cons_succ]
    refine q_take (.bool true) (by rfl) (by intro w _; go_simp; try with_reducible rfl) ?_
    try simp only [Act.put, List.setIfInBounds_toArray, List.set_cons_zero, List.set_cons_succ]
    refine q_take (.bool true) (by rfl) (by intro w _; go_simp; try with_reducible rfl) ?_
    try simp only [Act.put, List.setIfInBounds_toArray, List.set_cons_zero, List.set_cons_succ]
    refine q_take _ (by rfl) (by intro w _; go_simp; try with_reducible rfl) ?_
    try simp only [Act.put, List.setIfInBounds_toArray, List.set_cons_zero, List.set_cons_succ]
    refine q_take (.string ST) (by rfl) (fun x hx => RS1.out x hx _ rfl rfl) ?_
    try simp only [Act.put, List.setIfInBounds_toArray, List.set_cons_zero, List.set_cons_succ]
    refine q_take _ (by rfl) (by intro w _; go_simp; try with_reducible rfl) ?_
    try simp only [Act.put, List.setIfInBounds_toArray, List.set_cons_zero, List.set_cons_succ]
    refine q_take _ (by rfl) (by intro w _; go_simp; try with_reducible rfl) ?_
    try simp only [Act.put, List.setIfInBounds_toArray, List.set_cons_zero, List.set_cons_succ]
    refine q_take (.int .i64 (N : Nat)) (by rfl) (fun x hx => by have hc := (hx.cell (p := ⟨G2, 34, none⟩) P2.out.lt).trans D34.out; go_simp; try with_reducible rfl) ?_
    try simp only [Act.put, List.setIfInBounds_toArray, List.set_cons_zero, List.set_cons_succ]
    refine q_take _ (by rfl) (by intro w _; go_simp; try with_reducible rfl) ?_
    try simp only [Act.put, List.setIfInBounds_toArray, List.set_cons_zero, List.set_cons_succ]
    refine q_take (.string ST) (by rfl) (fun x hx => RS2.out x hx _ rfl rfl) ?_
    try simp only [Act.put, List.setIfInBounds_toArray, List.set_cons_zero, List.set_cons_succ]
    refine q_take (.bool true) (by rfl) (by intro w _; go_simp; try with_reducible rfl) ?_
    try simp only [Act.put, List.setIfInBounds_toArray, List.set_cons_zero, List.set_cons_succ]
    refine q_take (.bool true) (by rfl) (by intro w _; go_simp; try with_reducible rfl) ?_
    try simp only [Act.put, List.setIfInBounds_toArray, List.set_cons_zero, List.set_cons_succ]
    refine q_take (.bool true) (by rfl) (by intro w _; go_simp; try with_reducible rfl) ?_
    try simp only [Act.put, List.setIfInBounds_toArray, List.set_cons_zero, List.set_cons_succ]
    refine q_take (.bool true) (by rfl) (by intro w _; go_simp; try with_reducible rfl) ?_
    try simp only [Act.put, List.setIfInBounds_toArray, List.set_cons_zero, List.set_cons_succ]
    refine q_take _ (by rfl) (by intro w _; go_simp; try with_reducible rfl) ?_
    try simp only [Act.put, List.setIfInBounds_toArray, List.set_cons_zero, List.set_cons_succ]
    refine wpQuiet_nil ?_
    intro W7 hb7
    have KB7 := Lib.hid (below_trans PB.out hb7)
    go_wp2_with fail
    go_ret
    exact ⟨rfl, KB7.out⟩
  · have hne : ((E : Int) != 0) = true := by rw [bne_iff_ne]; omega
    have heq : ((E : Int) == 0) = false := by rw [beq_eq_false_iff_ne]; omega
    go_wp2_with fail
    refine (CN.out _ QR.out hE).mono ?_
    rintro e w4 ⟨rfl, hb4⟩
    have P1 := Lib.hid (Q1.out.below hb4 Q1.out.lt)
    have P2 := Lib.hid (Q2.out.below hb4 Q2.out.lt)
    have PB := Lib.hid (below_trans QB.out hb4)
    have d34 : w4.cell? ⟨G, 34, none⟩ = some (.int .i64 (N : Nat)) := by rw [P1.out.cell, List.getElem?_toArray, HC34.out]
    have e34 : w4.cell? ⟨G2, 34, none⟩ = some (.int .i64 (N : Nat)) := by rw [P2.out.cell, List.getElem?_toArray, HC34.out]
    clear hb4 Q1 Q2 QB QR CN CC
    go_upto_region 6 with fail
    apply wp_region_lit
    refine wpList_value_if (by rfl) _ (by go_simp; try with_reducible rfl) ?_
    try simp only [Act.put, List.setIfInBounds_toArray, List.set_cons_zero, List.set_cons_succ]
    refine wpList_value_if (by rfl) _ (by go_simp; try with_reducible rfl) ?_
    try simp only [Act.put, List.setIfInBounds_toArray, List.set_cons_zero, List.set_cons_succ]
    refine wpList_value_if (by rfl) _ (by go_simp; try with_reducible rfl) ?_
    try simp only [Act.put, List.setIfInBounds_toArray, List.set_cons_zero, List.set_cons_succ]
    refine wpList_value_if (by rfl) _ (by go_simp; try with_reducible rfl) ?_
    try simp only [Act.put, List.setIfInBounds_toArray, List.set_cons_zero, List.set_cons_succ]
    refine wpList_value_if (by rfl) _ (by go_simp; try with_reducible rfl) ?_
    try simp only [Act.put, List.setIfInBounds_toArray, List.set_cons_zero, List.set_cons_succ]
    refine wpList_load_mid_if (by rfl) 26 (.tmp 32) rfl G 0 rfl L1 _ (HRN1.out _ _ _ P1.out) rfl rfl (by rw [HA1.out]; kernel_rfl) ?_
    try simp only [Act.put, List.setIfInBounds_toArray, List.set_cons_zero, List.set_cons_succ]
    refine wpList_value_if (by rfl) _ (by go_simp; try with_reducible rfl) ?_
    try simp only [Act.put, List.setIfInBounds_toArray, List.set_cons_zero, List.set_cons_succ]
    refine wpList_load_mid_if (by rfl) 26 (.tmp 34) rfl G2 0 rfl L1 _ (HRN1.out _ _ _ P2.out) rfl rfl (by rw [HA1.out]; kernel_rfl) ?_
    try simp only [Act.put, List.setIfInBounds_toArray, List.set_cons_zero, List.set_cons_succ]
    refine wpList_value_if (by rfl) (.bool false) (run_neq_op 26 (.tmp 33) (.tmp 35) _ rfl L1.toArray L1.toArray rfl rfl true false rfl (by kernel_rfl) HE1.out _) ?_
    try simp only [Act.put, List.setIfInBounds_toArray, List.set_cons_zero, List.set_cons_succ]
    refine wpList_value_if (by rfl) _ (by go_simp; try with_reducible rfl) ?_
    try simp only [Act.put, List.setIfInBounds_toArray, List.set_cons_zero, List.set_cons_succ]
    refine wpList_value_if (by rfl) _ (by go_simp; try with_reducible rfl) ?_
    try simp only [Act.put, List.setIfInBounds_toArray, List.set_cons_zero, List.set_cons_succ]
    refine wpList_value_if (by rfl) _ (by go_simp; try with_reducible rfl) ?_
    try simp only [Act.put, List.setIfInBounds_toArray, List.set_cons_zero, List.set_cons_succ]
    refine wpList_load_mid_if (by rfl) 26 (.tmp 39) rfl G 17 rfl L2 _ (HRN2.out _ _ _ P1.out) rfl rfl (by rw [HA2.out]; kernel_rfl) ?_
    try simp only [Act.put, List.setIfInBounds_toArray, List.set_cons_zero, List.set_cons_succ]
    refine wpList_value_if (by rfl) _ (by go_simp; try with_reducible rfl) ?_
    try simp only [Act.put, List.setIfInBounds_toArray, List.set_cons_zero, List.set_cons_succ]
    refine wpList_load_mid_if (by rfl) 26 (.tmp 41) rfl G2 17 rfl L2 _ (HRN2.out _ _ _ P2.out) rfl rfl (by rw [HA2.out]; kernel_rfl) ?_
    try simp only [Act.put, List.setIfInBounds_toArray, List.set_cons_zero, List.set_cons_succ]
    refine wpList_value_if (by rfl) (.bool false) (run_neq_op 26 (.tmp 40) (.tmp 42) _ rfl L2.toArray L2.toArray rfl rfl true false rfl (by kernel_rfl) HE2.out _) ?_
    try simp only [Act.put, List.setIfInBounds_toArray, List.set_cons_zero, List.set_cons_succ]
    refine wpList_value_if (by rfl) _ (by go_simp; try with_reducible rfl) ?_
    try simp only [Act.put, List.setIfInBounds_toArray, List.set_cons_zero, List.set_cons_succ]
    refine wpList_value_if (by rfl) _ (by go_simp; try with_reducible rfl) ?_
    try simp only [Act.put, List.setIfInBounds_toArray, List.set_cons_zero, List.set_cons_succ]
    refine wpList_value_if (by rfl) _ (by go_simp; try with_reducible rfl) ?_
    try simp only [Act.put, List.setIfInBounds_toArray, List.set_cons_zero, List.set_cons_succ]
    refine wpList_value_if (by rfl) _ (by go_simp; try with_reducible rfl) ?_
    try simp only [Act.put, List.setIfInBounds_toArray, List.set_cons_zero, List.set_cons_succ]
    refine wpList_value_if (by rfl) _ (by go_simp; try with_reducible rfl) ?_
    try simp only [Act.put, List.setIfInBounds_toArray, List.set_cons_zero, List.set_cons_succ]
    refine wpList_value_if (by rfl) _ (by go_simp; try with_reducible rfl) ?_
    try simp only [Act.put, List.setIfInBounds_toArray, List.set_cons_zero, List.set_cons_succ]
    refine wpList_value_if (by rfl) _ (by go_simp; try with_reducible rfl) ?_
    try simp only [Act.put, List.setIfInBounds_toArray, List.set_cons_zero, List.set_cons_succ]
    refine wpList_value_if (by rfl) _ (by go_simp; try with_reducible rfl) ?_
    try simp only [Act.put, List.setIfInBounds_toArray, List.set_cons_zero, List.set_cons_succ]
    refine wpList_value_if (by rfl) _ (by go_simp; try with_reducible rfl) ?_
    try simp only [Act.put, List.setIfInBounds_toArray, List.set_cons_zero, List.set_cons_succ]
    refine wpList_value_if (by rfl) _ (by go_simp; try with_reducible rfl) ?_
    try simp only [Act.put, List.setIfInBounds_toArray, List.set_cons_zero, List.set_cons_succ]
    refine wpList_value_if (by rfl) _ (by go_simp; try with_reducible rfl) ?_
    try simp only [Act.put, List.setIfInBounds_toArray, List.set_cons_zero, List.set_cons_succ]
    refine wpList_value_if (by rfl) _ (by go_simp; try with_reducible rfl) ?_
    try simp only [Act.put, List.setIfInBounds_toArray, List.set_cons_zero, List.set_cons_succ]
    refine wpList_value_if (by rfl) _ (by go_simp; try with_reducible rfl) ?_
    try simp only [Act.put, List.setIfInBounds_toArray, List.set_cons_zero, List.set_cons_succ]
    go_upto_region 8 with fail
    clear d34 e34
    refine q_start (by kernel_rfl) (by kernel_rfl) (wq_in ?_)
    refine wq_call (.bool true) 8 #[] (by rfl) (by intro w; go_simp; try with_reducible rfl) (fun x hx => (alive_any x).mono fun e w' ⟨he, hb⟩ => ⟨he, below_trans hx hb⟩) ?_
    try simp only [Act.put, List.setIfInBounds_toArray, List.set_cons_zero, List.set_cons_succ]
    refine wq_take _ (by rfl) (by intro w _; go_simp; try with_reducible rfl) ?_
    try simp only [Act.put, List.setIfInBounds_toArray, List.set_cons_zero, List.set_cons_succ]
    refine wq_take _ (by rfl) (by intro w _; go_simp; try with_reducible rfl) ?_
    try simp only [Act.put, List.setIfInBounds_toArray, List.set_cons_zero, List.set_cons_succ]
    refine wq_take (.bool true) (by rfl) (by intro w _; rw [← hne]; go_simp; try with_reducible rfl) ?_
    try simp only [Act.put, List.setIfInBounds_toArray, List.set_cons_zero, List.set_cons_succ]
    refine wq_take (.bool true) (by rfl) (by intro w _; go_simp; try with_reducible rfl) ?_
    try simp only [Act.put, List.setIfInBounds_toArray, List.set_cons_zero, List.set_cons_succ]
    refine wq_take (.slice none 0 0) (by rfl) (by intro w _; go_simp; try with_reducible rfl) ?_
    try simp only [Act.put, List.setIfInBounds_toArray, List.set_cons_zero, List.set_cons_succ]
    refine wq_take (.int .i64 0) (by rfl) (by intro w _; go_simp; try with_reducible rfl) ?_
    try simp only [Act.put, List.setIfInBounds_toArray, List.set_cons_zero, List.set_cons_succ]
    refine wq_take (.bool true) (by rfl) (by intro w _; go_simp; try with_reducible rfl) ?_
    try simp only [Act.put, List.setIfInBounds_toArray, List.set_cons_zero, List.set_cons_succ]
    refine wq_take (.bool true) (by rfl) (by intro w _; go_simp; try with_reducible rfl) ?_
    try simp only [Act.put, List.setIfInBounds_toArray, List.set_cons_zero, List.set_cons_succ]
    refine wq_take (.bool true) (by rfl) (by intro w _; go_simp; try with_reducible rfl) ?_
    try simp only [Act.put, List.setIfInBounds_toArray, List.set_cons_zero, List.set_cons_succ]
    refine wq_pass (by rfl) ?_
    try simp only [Act.put, List.setIfInBounds_toArray, List.set_cons_zero, List.set_cons_succ]
    refine wq_pass (by rfl) ?_
    try simp only [Act.put, List.setIfInBounds_toArray, List.set_cons_zero, List.set_cons_succ]
    refine wq_pass (by rfl) ?_
    try simp only [Act.put, List.setIfInBounds_toArray, List.set_cons_zero, List.set_cons_succ]
    refine wq_pass (by rfl) ?_
    try simp only [Act.put, List.setIfInBounds_toArray, List.set_cons_zero, List.set_cons_succ]
    refine wq_pass (by rfl) ?_
    try simp only [Act.put, List.setIfInBounds_toArray, List.set_cons_zero, List.set_cons_succ]
    refine wq_pass (by rfl) ?_
    try simp only [Act.put, List.setIfInBounds_toArray, List.set_cons_zero, List.set_cons_succ]
    refine wq_pass (by rfl) ?_
    try simp only [Act.put, List.setIfInBounds_toArray, List.set_cons_zero, List.set_cons_succ]
    refine wq_pass (by rfl) ?_
    try simp only [Act.put, List.setIfInBounds_toArray, List.set_cons_zero, List.set_cons_succ]
    refine wq_pass (by rfl) ?_
    try simp only [Act.put, List.setIfInBounds_toArray, List.set_cons_zero, List.set_cons_succ]
    refine wq_pass (by rfl) ?_
    try simp only [Act.put, List.setIfInBounds_toArray, List.set_cons_zero, List.set_cons_succ]
    refine wq_pass (by rfl) ?_
    try simp only [Act.put, List.setIfInBounds_toArray, List.set_cons_zero, List.set_cons_succ]
    refine wq_pass (by rfl) ?_
    try simp only [Act.put, List.setIfInBounds_toArray, List.set_cons_zero, List.set_cons_succ]
    refine wq_take (.bool true) (by rfl) (by intro w _; go_simp; try with_reducible rfl) ?_
    try simp only [Act.put, List.setIfInBounds_toArray, List.set_cons_zero, List.set_cons_succ]
    refine wq_take (.bool true) (by rfl) (by intro w _; go_simp; try with_reducible rfl) ?_
    try simp only [Act.put, List.setIfInBounds_toArray, List.set_cons_zero, List.set_cons_succ]
    refine wq_take _ (by rfl) (by intro w _; go_simp; try with_reducible rfl) ?_
    try simp only [Act.put, List.setIfInBounds_toArray, List.set_cons_zero, List.set_cons_succ]
    refine wq_end ?_
    intro W7 hb7
    have KB7 := Lib.hid (below_trans PB.out hb7)
    go_wp2_with fail
    go_ret
    exact ⟨rfl, KB7.out⟩

end InnerReads
end Go.Proofs.Ytiemcfgjpcnloaa
