/- Package feed: behind; a watcher's push and take; Watch. -/
import Derived.Test.YtlbfjdpcnnplnaaFdOne
import Derived.Great.Walk
namespace Go.Proofs.Ytlbfjdpcnnplnaa
namespace Fee
open Go.ChangeShapes Go.WideShapes Go.ChangeAt Go.RowKit Go.Maps
open Num Mem Words Chacha Aead Poly Quiet RowV RowS

theorem info_item : (Try.prog.info? 66).map (fun i => (i.zero, i.size, i.bytes)) = some (some (.agg (itL ⟨noEv, 0⟩).toArray), 35, 56) := by kernel_rfl
set_option maxRecDepth 100000 in
theorem behind_any (L M : List It) (v u : Value) (w : World) (h1 : Its w v L) (h2 : Its w u M) (hM : M ≠ []) (hl : L.length + M.length ≤ 1000) :
    Calls Try.prog 33 #[v, u] w fun e w' => ∃ z, e = .returned z ∧ Its w' z (L ++ M) ∧ Below w.heap.size w w' := by
  obtain ⟨A, rfl, hA⟩ := h1
  obtain ⟨C, rfl, hC⟩ := h2
  rcases hC with hC | ⟨b, off, cs, rfl, hw, hc⟩
  · rcases M with _ | ⟨x, M⟩
    · exact absurd rfl hM
    · have := flatI_length (x :: M)
      rw [hC] at this
      simp at this
  have HM := Lib.hid (RdI.cell (w := w) (A := some ⟨b, off, none⟩) (.inr ⟨b, off, cs, rfl, hw, hc⟩) rfl)
  have HL := Lib.hid (fun a (e : A = some a) => RdI.cell hA e)
  have HN := Lib.hid (show A = none → L.length = 0 ∧ L.length = 0 from fun e => by
    rcases hA with h | ⟨b, off, cs, e2, _⟩
    · have := flatI_length L
      rw [h] at this
      simp at this
      omega
    · rw [e] at e2; cases e2)
  have hlm := List.length_pos_iff.2 hM
  have HFL := Lib.hid (flatI_length L)
  have HFM := Lib.hid (flatI_length M)
  have HEM := Lib.hid (flatI_each M)
  have HAP := Lib.hid (flatI_append L M)
  obtain ⟨i0, hi, hz0, hz1, hz2⟩ := info_parts info_item
  obtain ⟨n, hn⟩ : ∃ n, L.length = n := ⟨_, rfl⟩
  obtain ⟨m, hm⟩ : ∃ m, M.length = m := ⟨_, rfl⟩
  have HLL := Lib.hid (show (L ++ M).length = n + m by rw [List.length_append, hn, hm])
  rw [hn] at HFL HN hl ⊢
  rw [hm] at HFM hl hlm ⊢
  generalize flatI L = xs at HL HFL HAP
  generalize flatI M = ys at HM HFM HEM HAP
  have HI := Lib.hid hi
  have HZ := Lib.hid (show i0.zero = _ ∧ i0.size = 35 ∧ i0.bytes = 56 from ⟨hz0, hz1, hz2⟩)
  clear hA hw hc hM hn hm hi hz0 hz1 hz2
  go_enter Try.func33, Try.ntmps33
  go_upto_region 2 with (at_builtin; refine wpList_append_grows _ rfl _ _ 46 rfl 66 i0 _ 35 56 Try.underlying46 HI.out HZ.out.1 HZ.out.2.1 HZ.out.2.2 rfl (by decide) A n n xs rfl HN.out HFL.out HL.out ⟨b, off, none⟩ m m ys rfl HFM.out HM.out HEM.out (by omega) (by unfold maxLen; omega) (by omega) ?_; intro v' w' hown hgr)
  rcases hown.2 with ⟨_, h0⟩ | ⟨gg, cap, cur, rfl, hB, hh, hle, hmx, _, ht⟩
  · omega
  have HE := Lib.hid (show Its w' (.slice (some ⟨gg, 0, none⟩) (n + m) (n + m)) (L ++ M) ∧ Below w.heap.size w w' from by
    refine ⟨⟨some ⟨gg, 0, none⟩, by rw [HLL.out], ?_⟩, ⟨hgr.os, hgr.tape, hgr.output, hgr.size, fun i hi => hgr.block i hi (by simp)⟩⟩
    rw [HAP.out]
    exact RdI.of_own hown)
  have hcap : cap ≤ 9223372036854775807 := by unfold maxLen at hmx; exact hmx
  clear hown hgr hh ht hB hmx
  have hle' : (n : Int) + (m : Int) ≤ (cap : Int) := by omega
  go_wp2_with fail
  go_ret
  exact ⟨_, rfl, HE.out⟩

theorem wpList_built1 {P : Program} {ops : Array Oper} {rest : List Oper} {o : Oper} {a : Act} {w : World} {Q : Exit → Act → World → Prop} (hg : o.guard = none) (t : TypeId) (k : Nat) (x : Operand) (ho : o.op = .build t #[(k, x)])
    (v : Value) (hx : a.eval x = v) (vs : Array Value) (hb : P.built t [(k, v)] = some vs) (h : wpList P ops Q rest (a.put o.dst (.agg vs)) w) : wpList P ops Q (o :: rest) a w := by
  have e : P.built t ((#[(k, x)] : Array (Nat × Operand)).map fun (i, x) => (i, a.eval x)).toList = some vs := by simpa [hx] using hb
  refine wpList_build hg t #[(k, x)] ho (by rw [e]; rfl) ?_
  rw [e]
  exact h
theorem run_built1 {P : Program} {o : Oper} {a : Act} {w : World} (t : TypeId) (k : Nat) (x : Operand) (ho : o.op = .build t #[(k, x)])
    (v : Value) (hx : a.eval x = v) (vs : Array Value) (hb : P.built t [(k, v)] = some vs) : (execOp a.eval o).run P w = .ok (.value (.agg vs)) w := by
  have e : P.built t ((#[(k, x)] : Array (Nat × Operand)).map fun (i, x) => (i, a.eval x)).toList = some vs := by simpa [hx] using hb
  unfold execOp
  simp only [ho, Sem.run_bind, run_build w t _ vs e, Result.andThen_ok, Sem.run_pure]
theorem wp_buildSliceTo {P : Program} {o : Oper} {a : Act} {w : World} {K : Act → World → Prop} {Q : Exit → Act → World → Prop} (t e : TypeId) (len : Nat) (parts : Array (Nat × Operand)) (ho : o.op = .buildSlice t len parts)
    (hu : P.underlying t = some (.slice e)) (cells : Array Value) (hf : P.builtSlice e len (parts.map fun (i, x) => (i, a.eval x)).toList = some cells)
    (h : K (a.put o.dst (.slice (some ⟨w.heap.size, 0, none⟩) len len)) (w.alloc (.cells cells e))) : o.wp P a w K Q := by
  unfold Program.builtSlice at hf
  cases hie : P.info? e with
  | none => simp [hie] at hf
  | some ie =>
    simp only [hie] at hf
    cases hz : ie.zero with
    | none => simp [hz] at hf
    | some z =>
      simp only [hz] at hf
      by_cases hc : len * ie.size > 2 ^ 24 ∨ len * ie.size = 0
      · simp [hc] at hf
      · rw [if_neg hc] at hf
        exact wp_buildSlice t e len parts ho cells ie z hu hie hz (fun h' => hc (Or.inl h')) (fun h' => hc (Or.inr h')) hf h
theorem wpList_rowOne {P : Program} {ops : Array Oper} {rest : List Oper} {o : Oper} {a : Act} {w : World} {Q : Exit → Act → World → Prop} (hg : o.guard = none) (t e : TypeId) (x : Operand) (ho : o.op = .buildSlice t 1 #[(0, x)])
    (v : Value) (hx : a.eval x = v) (hu : P.underlying t = some (.slice e)) (cells : Array Value) (hb : P.builtSlice e 1 [(0, v)] = some cells)
    (h : wpList P ops Q rest (a.put o.dst (.slice (some ⟨w.heap.size, 0, none⟩) 1 1)) (w.alloc (.cells cells e))) : wpList P ops Q (o :: rest) a w := by
  have e1 : P.builtSlice e 1 ((#[(0, x)] : Array (Nat × Operand)).map fun (i, x) => (i, a.eval x)).toList = some cells := by simpa [hx] using hb
  exact Great.wpList_buildSliceTo hg t e 1 _ ho _ rfl _ rfl hu cells e1 h
theorem wp_rowTwo {P : Program} {o : Oper} {a : Act} {w : World} {K : Act → World → Prop} {Q : Exit → Act → World → Prop} (t e : TypeId) (x y : Operand) (ho : o.op = .buildSlice t 2 #[(0, x), (1, y)])
    (v u : Value) (hx : a.eval x = v) (hy : a.eval y = u) (hu : P.underlying t = some (.slice e)) (cells : Array Value) (hb : P.builtSlice e 2 [(0, v), (1, u)] = some cells)
    (h : K (a.put o.dst (.slice (some ⟨w.heap.size, 0, none⟩) 2 2)) (w.alloc (.cells cells e))) : o.wp P a w K Q := by
  have e1 : P.builtSlice e 2 ((#[(0, x), (1, y)] : Array (Nat × Operand)).map fun (i, x) => (i, a.eval x)).toList = some cells := by simpa [hx, hy] using hb
  exact wp_buildSliceTo t e 2 _ ho hu cells e1 h
theorem item_ev (e : Ev) : Try.prog.built 66 [(0, .agg (evL e).toArray)] = some (itL ⟨e, 0⟩).toArray := by kernel_rfl
theorem item_gap (n : Nat) : Try.prog.built 66 [(1, .int .u64 (n : Nat))] = some (itL ⟨noEv, n⟩).toArray := by kernel_rfl
theorem row_one (x : It) : Try.prog.builtSlice 66 1 [(0, .agg (itL x).toArray)] = some (flatI [x]).toArray := by kernel_rfl
theorem row_two (x y : It) : Try.prog.builtSlice 66 2 [(0, .agg (itL x).toArray), (1, .agg (itL y).toArray)] = some (flatI [x, y]).toArray := by kernel_rfl
theorem its_new {w : World} (L : List It) : Its (w.alloc (.cells (flatI L).toArray 66)) (.slice (some ⟨w.heap.size, 0, none⟩) L.length L.length) L :=
  ⟨_, rfl, .inr ⟨_, 0, _, rfl, Whole.new _ _ _, fun i v hv => by rw [Nat.zero_add, List.getElem?_toArray]; exact hv⟩⟩

structure PW (w : World) (r : Nat) (x : Wt) (e : Ev) (N : Nat) (X : World) : Prop where
  wt : WtW X r x
  ev : Whole X N 45 (evL e).toArray
  bel : Below w.heap.size w X
theorem PW.below {w : World} {r : Nat} {x : Wt} {e : Ev} {N : Nat} {X Y : World} (h : PW w r x e N X) (hb : Below X.heap.size X Y) : PW w r x e N Y := ⟨h.wt.below hb, h.ev.below hb h.ev.lt, below_trans h.bel hb⟩
theorem cut_post {F : Exit → Act → World → Prop} {e : Exit} {a : Act} {w : World} (R : World → Prop) (hR : R w) (h : ∀ w', R w' → F e a w') : F e a w := h w hR
theorem grown_cell1 (w : World) (g i : Nat) (v : Value) : w.grownBy (w.setCell ⟨g, i, none⟩ v) (some g) :=
  ⟨rfl, rfl, rfl, by simp, fun k _ hk => Below.heap_setCell w ⟨g, i, none⟩ v k (fun e => hk (by rw [e]))⟩
theorem grown_tr {a b c : World} {row : Option Nat} (h : a.grownBy b row) (k : b.grownBy c row) : a.grownBy c row := h.andThen k (fun _ hj => Or.inr hj)
theorem hV_below {w w' : World} {r : Nat} {t : TypeId} {cs : Array Value} (h : Whole w r t cs) (hb : Below w.heap.size w w') : Whole w' r t cs := h.below hb h.lt
set_option maxRecDepth 100000 in
theorem wpush_any (r : Nat) (x : Wt) (e : Ev) (w : World) (h : WtW w r x) (hf : x.L.length ≤ 16) (hl : x.lost ≤ 1000000000) :
    Calls Try.prog 29 #[.pointer (some ⟨r, 0, none⟩), .agg (evL e).toArray] w fun o w' => o = .returned (.tuple #[]) ∧ WtW w' r (pushW x e) ∧ w.grownBy w' (some r) := by
  have H := Lib.hid h
  have HES := Lib.hid (show (evL e).toArray.size = 34 by rw [List.size_toArray, evL_length])
  have HB := Lib.hid (item_ev e)
  have HR := Lib.hid (row_one ⟨e, 0⟩)
  have HGP := Lib.hid (item_gap x.lost)
  have HR2 := Lib.hid (row_two ⟨noEv, x.lost⟩ ⟨e, 0⟩)
  obtain ⟨E, hE⟩ : ∃ E, (evL e).toArray = E := ⟨_, rfl⟩
  obtain ⟨I, hI⟩ : ∃ I, (itL ⟨e, 0⟩).toArray = I := ⟨_, rfl⟩
  obtain ⟨J, hJ⟩ : ∃ J, (itL ⟨noEv, x.lost⟩).toArray = J := ⟨_, rfl⟩
  have HE := Lib.hid hE
  rw [hE] at HES HB ⊢
  rw [hI] at HB HR HR2
  rw [hJ] at HGP HR2
  have HI := Lib.hid hI
  clear h hE hI hJ
  go_enter Try.func29, Try.ntmps29
  go_upto_region 1 with fail
  have hb0 : Below w.heap.size w (w.alloc (.cells E 45)) := below_alloc (Below.refl _ _) _
  refine cut_world (fun X => PW w r x e w.heap.size X) ⟨H.out.below hb0, by rw [HE.out]; exact whole_new _ _ rfl, hb0⟩ ?_
  intro X hX
  have HX := Lib.hid hX
  generalize w.heap.size = N at HX hX ⊢
  have HEV := Lib.hid (show Whole X N 45 E by rw [← HE.out]; exact HX.out.ev)
  clear hX
  go_upto_region 2 with (first | (refine wpList_load_row rfl 45 (.tmp 3) rfl N rfl 45 E (0, 0) _ HEV.out rfl rfl (by rw [HES.out]; kernel_rfl) ?_) | (refine wpList_built1 rfl 66 0 (.tmp 5) rfl (.agg E) rfl I HB.out ?_) | (refine wpList_rowOne rfl 46 66 (.tmp 6) rfl (.agg I) rfl Try.underlying46 _ HR.out ?_))
  refine cut_world (fun Y => PW w r x e N Y ∧ Its Y (.slice (some ⟨X.heap.size, 0, none⟩) 1 1) [⟨e, 0⟩]) ⟨HX.out.below (below_alloc (Below.refl _ _) _), its_new [⟨e, 0⟩]⟩ ?_
  rintro Y ⟨hY, hIY⟩
  clear HX HEV
  generalize X.heap.size = NI at hIY ⊢
  clear X
  by_cases hlost : 0 < x.lost
  · have hX := hY
    have HEV := Lib.hid (show Whole Y N 45 E by rw [← HE.out]; exact hY.ev)
    have HY := Lib.hid hY
    obtain ⟨v, hv1, A, rfl, hv2⟩ := hX.wt
    have c1 : Y.cell? ⟨r, 1, none⟩ = some (.int .u64 (x.lost : Nat)) := hv1.cell 1
    obtain ⟨l, hll⟩ : ∃ l, x.lost = l := ⟨_, rfl⟩
    rw [hll] at hlost c1 HGP
    have HL0 := Lib.hid hll
    have hd0 : decide ((0 : Int) < (l : Int)) = true := decide_eq_true (by omega)
    clear hX hv1 hv2 hY hIY hll
    go_upto_region 3 with fail
    refine region_drew (fun V => Below Y.heap.size Y V) (by kernel_rfl) (Below.drew (Below.refl _ _)) (fun hS => ?_)
    refine take 0 _ rfl (by kernel_rfl) (by kernel_rfl) (by kernel_rfl) (fun _ _ _ h => h) (by rfl) hS (by intro w _; go_simp; with_reducible rfl) ?_
    try simp only [Act.put, List.setIfInBounds_toArray, List.set_cons_zero, List.set_cons_succ]
    refine take 1 _ rfl (by kernel_rfl) (by kernel_rfl) (by kernel_rfl) (fun _ _ _ h => h) (by rfl) hS (by intro w _; go_simp; with_reducible rfl) ?_
    try simp only [Act.put, List.setIfInBounds_toArray, List.set_cons_zero, List.set_cons_succ]
    refine take 2 _ rfl (by kernel_rfl) (by kernel_rfl) (by kernel_rfl) (fun _ _ _ h => h) (by rfl) hS (by intro w _; go_simp; with_reducible rfl) ?_
    try simp only [Act.put, List.setIfInBounds_toArray, List.set_cons_zero, List.set_cons_succ]
    refine take 3 _ rfl (by kernel_rfl) (by kernel_rfl) (by kernel_rfl) (fun _ _ _ h => h) (by rfl) hS (by intro w hw; have hcl := (hw.cell (p := ⟨r, 1, none⟩) (HY.out.wt.lt)).trans c1; go_simp; with_reducible rfl) ?_
    try simp only [Act.put, List.setIfInBounds_toArray, List.set_cons_zero, List.set_cons_succ]
    refine take 4 (.agg J) rfl (by kernel_rfl) (by kernel_rfl) (by kernel_rfl) (fun _ _ _ h => h) (by rfl) hS (fun w hw => run_built1 66 1 (.tmp 16) rfl (.int .u64 (l : Nat)) rfl J HGP.out) ?_
    try simp only [Act.put, List.setIfInBounds_toArray, List.set_cons_zero, List.set_cons_succ]
    refine take 5 (.agg E) rfl (by kernel_rfl) (by kernel_rfl) (by kernel_rfl) (fun _ _ _ h => h) (by rfl) hS (fun w hw => run_load_in 45 (.tmp 3) rfl N rfl E 34 HES.out (HEV.out.below hw HEV.out.lt) rfl rfl (by kernel_rfl)) ?_
    try simp only [Act.put, List.setIfInBounds_toArray, List.set_cons_zero, List.set_cons_succ]
    refine take 6 (.agg I) rfl (by kernel_rfl) (by kernel_rfl) (by kernel_rfl) (fun _ _ _ h => h) (by rfl) hS (fun w hw => run_built1 66 0 (.tmp 18) rfl (.agg E) rfl I HB.out) ?_
    try simp only [Act.put, List.setIfInBounds_toArray, List.set_cons_zero, List.set_cons_succ]
    refine alone 7 rfl (by kernel_rfl) (by rfl) ?_
    intro K hK
    refine wp_rowTwo 46 66 (.tmp 17) (.tmp 19) rfl (.agg J) (.agg I) rfl rfl Try.underlying46 _ HR2.out ?_
    refine hK.out _ _ (below_alloc hS _) ?_
    clear hK K
    try simp only [Act.put, List.setIfInBounds_toArray, List.set_cons_zero, List.set_cons_succ]
    replace hS := below_alloc hS (.cells (flatI [⟨noEv, x.lost⟩, ⟨e, 0⟩]).toArray 66)
    refine take 8 _ rfl (by kernel_rfl) (by kernel_rfl) (by kernel_rfl) (fun _ _ _ h => h) (by rfl) hS (by intro w _; go_simp; with_reducible rfl) ?_
    try simp only [Act.put, List.setIfInBounds_toArray, List.set_cons_zero, List.set_cons_succ]
    refine region_end (by kernel_rfl) ?_
    refine cut_post (F := Exit.then _ _) (fun Z => PW w r x e N Z ∧ Its Z (.slice (some ⟨Y.heap.size, 0, none⟩) 2 2) [⟨noEv, x.lost⟩, ⟨e, 0⟩]) ⟨HY.out.below hS, its_new (w := Y.drew) [⟨noEv, x.lost⟩, ⟨e, 0⟩]⟩ ?_
    clear hS c1 hd0 HY HEV
    generalize Y.heap.size = NJ
    generalize Y.drew.heap.size = ND
    rintro Z ⟨hX, hI⟩
    clear Y
    have HG := Lib.hid (show gapL x.lost = [⟨noEv, x.lost⟩] by unfold gapL; rw [if_pos (by rw [HL0.out]; exact hlost)])
    clear HL0 hlost
    have HWT := Lib.hid hX.wt
    have HBEL := Lib.hid hX.bel
    have HIT := Lib.hid hI
    obtain ⟨v, hv1, A, rfl, hv2⟩ := hX.wt
    obtain ⟨n, hn⟩ : ∃ n, x.L.length = n := ⟨_, rfl⟩
    have HN := Lib.hid hn
    rw [hn] at hv1 hf
    have HRI := Lib.hid (show Its Z (.slice A n n) x.L from ⟨A, by rw [hn], hv2⟩)
    have HV := Lib.hid hv1
    have c0 : Z.cell? ⟨r, 0, none⟩ = some (.slice A n n) := hv1.cell 0
    have c1 : Z.cell? ⟨r, 1, none⟩ = some (.int .u64 (x.lost : Nat)) := hv1.cell 1
    have f0 : Z.frozen? ⟨r, 0, none⟩ = false := hv1.free 0
    have f1 : Z.frozen? ⟨r, 1, none⟩ = false := hv1.free 1
    have hw1 : IntKind.i64.wrap ((n : Int) + 2) = (n : Int) + 2 := by rw [IntKind.wrap_i64]; omega
    have hw2 : IntKind.u64.wrap ((x.lost : Int) + 1) = (x.lost : Int) + 1 := by rw [IntKind.wrap_u64]; omega
    have HGR := Lib.hid (show w.grownBy Z (some r) from ⟨HBEL.out.os, HBEL.out.tape, HBEL.out.output, HBEL.out.size, fun k hk _ => HBEL.out.block k hk⟩)
    obtain ⟨l, hll⟩ : ∃ l, x.lost = l := ⟨_, rfl⟩
    have HL := Lib.hid hll
    rw [hll] at c1 hw2 HV hl
    clear hX hI hv1 hv2 hn hll
    skip
    by_cases h16 : 16 < n + 2
    · have hd : decide ((16 : Int) < (n : Int) + 2) = true := decide_eq_true (by omega)
      have h16' : (16 : Int) < (n : Int) + 2 := by omega
      go_wp2_with fail
      refine bodyPost_ret (results_none (by rfl) _ _ _) rfl ?_
      have e0 : pushW x e = ⟨x.L, x.lost + 1⟩ := by unfold pushW; rw [HG.out, HN.out, if_pos (by simpa using h16)]
      have hg := grown_cell1 Z r 1 (.int .u64 ((l : Int) + 1))
      refine ⟨rfl, ?_, grown_tr HGR.out hg⟩
      rw [e0, HL.out]
      refine ⟨.slice A n n, ?_, ?_⟩
      · have := HV.out.put 1 (.int .u64 ((l : Int) + 1))
        exact this
      · exact HRI.out.keep fun i cs hw => (hg.block i hw.lt (fun c => by injection c with c; subst c; exact absurd (whole_type hw HV.out) (by decide))).trans hw
    · have hd : decide ((16 : Int) < (n : Int) + 2) = false := decide_eq_false (by omega)
      have h16' : ¬ (16 : Int) < (n : Int) + 2 := by omega
      have HC := Lib.hid (behind_any x.L _ (.slice A n n) _ Z HRI.out HIT.out (by simp) (by rw [HN.out]; simp only [List.length_cons, List.length_nil]; omega))
      go_wp2_with fail
      refine HC.out.mono ?_
      rintro o U ⟨z, rfl, hz, hb⟩
      have HY := Lib.hid (hV_below HV.out hb)
      have HZ := Lib.hid hz
      have HB2 := Lib.hid hb
      have f0 : U.frozen? ⟨r, 0, none⟩ = false := HY.out.free 0
      have f1 : U.frozen? ⟨r, 1, none⟩ = false := HY.out.free 1
      have c0' : U.cell? ⟨r, 0, none⟩ = some (.slice A n n) := HY.out.cell 0
      have c1' : U.cell? ⟨r, 1, none⟩ = some (.int .u64 (l : Nat)) := HY.out.cell 1
      obtain ⟨C, rfl, hC⟩ := hz
      obtain ⟨q, hq⟩ : ∃ q, (x.L ++ ([⟨noEv, x.lost⟩, ⟨e, 0⟩] : List It)).length = q := ⟨_, rfl⟩
      rw [hq] at HZ ⊢
      clear hb hC hq
      go_wp2_with fail
      go_end0
      have e0 : pushW x e = ⟨x.L ++ ([⟨noEv, x.lost⟩, ⟨e, 0⟩] : List It), 0⟩ := by unfold pushW; rw [HG.out, HN.out, if_neg (by simpa using h16)]; rfl
      have hg := grown_cell1 U r 0 (.slice C q q)
      have hg2 := grown_cell1 (U.setCell ⟨r, 0, none⟩ (.slice C q q)) r 1 (.int .u64 0)
      have hgg := grown_tr hg hg2
      refine ⟨rfl, ?_, grown_tr HGR.out (grown_tr ⟨HB2.out.os, HB2.out.tape, HB2.out.output, HB2.out.size, fun k hk _ => HB2.out.block k hk⟩ hgg)⟩
      rw [e0]
      refine ⟨.slice C q q, ?_, HZ.out.keep fun i cs hw => (hgg.block i hw.lt (fun c => by injection c with c; subst c; exact absurd (whole_type hw HY.out) (by decide))).trans hw⟩
      exact (HY.out.put 0 (.slice C q q)).put 1 (.int .u64 0)
  · have HG := Lib.hid (show gapL x.lost = [] by unfold gapL; rw [if_neg hlost])
    have hX := hY
    have hI := hIY
    clear hY hIY
    have HWT := Lib.hid hX.wt
    have HBEL := Lib.hid hX.bel
    have HIT := Lib.hid hI
    obtain ⟨v, hv1, A, rfl, hv2⟩ := hX.wt
    obtain ⟨n, hn⟩ : ∃ n, x.L.length = n := ⟨_, rfl⟩
    have HN := Lib.hid hn
    rw [hn] at hv1 hf
    have HRI := Lib.hid (show Its Y (.slice A n n) x.L from ⟨A, by rw [hn], hv2⟩)
    have HV := Lib.hid hv1
    have c0 : Y.cell? ⟨r, 0, none⟩ = some (.slice A n n) := hv1.cell 0
    have c1 : Y.cell? ⟨r, 1, none⟩ = some (.int .u64 (x.lost : Nat)) := hv1.cell 1
    have f0 : Y.frozen? ⟨r, 0, none⟩ = false := hv1.free 0
    have f1 : Y.frozen? ⟨r, 1, none⟩ = false := hv1.free 1
    have hw1 : IntKind.i64.wrap ((n : Int) + 1) = (n : Int) + 1 := by rw [IntKind.wrap_i64]; omega
    have hw2 : IntKind.u64.wrap ((x.lost : Int) + 1) = (x.lost : Int) + 1 := by rw [IntKind.wrap_u64]; omega
    have HGR := Lib.hid (show w.grownBy Y (some r) from ⟨HBEL.out.os, HBEL.out.tape, HBEL.out.output, HBEL.out.size, fun k hk _ => HBEL.out.block k hk⟩)
    obtain ⟨l, hll⟩ : ∃ l, x.lost = l := ⟨_, rfl⟩
    have HL := Lib.hid hll
    rw [hll] at c1 hw2 HV hl
    clear hX hI hv1 hv2 hn hll
    have hd0 : ¬ 0 < l := by rw [← HL.out]; exact hlost
    by_cases h16 : 16 < n + 1
    · have hd : decide ((16 : Int) < (n : Int) + 1) = true := decide_eq_true (by omega)
      have h16' : (16 : Int) < (n : Int) + 1 := by omega
      go_wp2_with fail
      refine bodyPost_ret (results_none (by rfl) _ _ _) rfl ?_
      have e0 : pushW x e = ⟨x.L, x.lost + 1⟩ := by unfold pushW; rw [HG.out, HN.out, if_pos (by simpa using h16)]
      have hg := grown_cell1 Y r 1 (.int .u64 ((l : Int) + 1))
      refine ⟨rfl, ?_, grown_tr HGR.out hg⟩
      rw [e0, HL.out]
      refine ⟨.slice A n n, ?_, ?_⟩
      · have := HV.out.put 1 (.int .u64 ((l : Int) + 1))
        exact this
      · exact HRI.out.keep fun i cs hw => (hg.block i hw.lt (fun c => by injection c with c; subst c; exact absurd (whole_type hw HV.out) (by decide))).trans hw
    · have hd : decide ((16 : Int) < (n : Int) + 1) = false := decide_eq_false (by omega)
      have h16' : ¬ (16 : Int) < (n : Int) + 1 := by omega
      have HC := Lib.hid (behind_any x.L _ (.slice A n n) _ Y HRI.out HIT.out (by simp) (by rw [HN.out]; simp only [List.length_cons, List.length_nil]; omega))
      go_wp2_with fail
      refine HC.out.mono ?_
      rintro o U ⟨z, rfl, hz, hb⟩
      have HY := Lib.hid (hV_below HV.out hb)
      have HZ := Lib.hid hz
      have HB2 := Lib.hid hb
      have f0 : U.frozen? ⟨r, 0, none⟩ = false := HY.out.free 0
      have f1 : U.frozen? ⟨r, 1, none⟩ = false := HY.out.free 1
      have c0' : U.cell? ⟨r, 0, none⟩ = some (.slice A n n) := HY.out.cell 0
      have c1' : U.cell? ⟨r, 1, none⟩ = some (.int .u64 (l : Nat)) := HY.out.cell 1
      obtain ⟨C, rfl, hC⟩ := hz
      obtain ⟨q, hq⟩ : ∃ q, (x.L ++ ([⟨e, 0⟩] : List It)).length = q := ⟨_, rfl⟩
      rw [hq] at HZ ⊢
      clear hb hC hq
      go_wp2_with fail
      go_end0
      have e0 : pushW x e = ⟨x.L ++ ([⟨e, 0⟩] : List It), 0⟩ := by unfold pushW; rw [HG.out, HN.out, if_neg (by simpa using h16)]; rfl
      have hg := grown_cell1 U r 0 (.slice C q q)
      have hg2 := grown_cell1 (U.setCell ⟨r, 0, none⟩ (.slice C q q)) r 1 (.int .u64 0)
      have hgg := grown_tr hg hg2
      refine ⟨rfl, ?_, grown_tr HGR.out (grown_tr ⟨HB2.out.os, HB2.out.tape, HB2.out.output, HB2.out.size, fun k hk _ => HB2.out.block k hk⟩ hgg)⟩
      rw [e0]
      refine ⟨.slice C q q, ?_, HZ.out.keep fun i cs hw => (hgg.block i hw.lt (fun c => by injection c with c; subst c; exact absurd (whole_type hw HY.out) (by decide))).trans hw⟩
      exact (HY.out.put 0 (.slice C q q)).put 1 (.int .u64 0)
end Fee
end Go.Proofs.Ytlbfjdpcnnplnaa
