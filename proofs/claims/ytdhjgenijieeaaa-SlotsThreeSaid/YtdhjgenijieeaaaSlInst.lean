/- Package slots: Install. -/
import Derived.Test.YtdhjgenijieeaaaSlFind
namespace Go.Proofs.Ytdhjgenijieeaaa
namespace Sl
open Go.ChangeShapes Go.WideShapes Go.ChangeAt Go.RowKit
open Num Mem Words Chacha Aead Poly Ops Quiet WinT Win Pr

theorem wp_store_bool {P : Program} {op : Oper} {a : Act} {w : World} {K : Act → World → Prop} {Q : Exit → Act → World → Prop} (ty : TypeId) (x y : Operand) (ho : op.op = .store ty x y) (b o : Nat) (k : Bool) (c : Value)
    (hx : a.eval x = .pointer (some ⟨b, o, none⟩)) (hy : a.eval y = .bool k) (hi : (P.info? ty).map (·.size) = some 1) (hc : w.cell? ⟨b, o, none⟩ = some c) (hf : w.frozen? ⟨b, o, none⟩ = false) (h : K (a.put op.dst undef) (w.setCell ⟨b, o, none⟩ (.bool k))) : op.wp P a w K Q := by
  cases hq : P.info? ty with
  | none => simp [hq] at hi
  | some i =>
    have hs : i.size = 1 := by simpa [hq] using hi
    have hst := run_store P w ⟨b, o, none⟩ (.bool k) .plain rfl
    rw [hc, hf] at hst
    have hcs : (Value.bool k).cells = #[.bool k] := rfl
    unfold Oper.wp execOp
    simp only [ho, hx, hy, Instr.storeAt, Instr.sureAddr, Sem.run_bind, Sem.run_pure, Result.andThen_ok]
    simp [storeVar, sizeOf, typeInfo, hq, hcs, hs, storeCells]
    rw [show (Addr.mk b o none).add 0 = ⟨b, o, none⟩ from rfl, hst]
    exact h
theorem results_cell1 {fn : Func} {p u : Tmp} {ty : TypeId} {P : Program} (h : fn.results = #[.cell p ty, .tmp u]) (tmps : Array Value) (w : World) (g : Nat) (t : TypeId) (cs : List Value) (d : TypeDesc)
    (hp : tmps.getD p undef = .pointer (some ⟨g, 0, none⟩)) (hg : Whole w g t cs.toArray)
    (hu : P.underlying ty = some d) (hd : d.isRow = true) (hi : (P.info? ty).map (·.size) = some cs.length) :
    (results fn tmps).run P w = .ok (.tuple #[.agg cs.toArray, tmps.getD u undef]) w := by
  have hp' : tmps[p]?.getD undef = .pointer (some ⟨g, 0, none⟩) := by simpa using hp
  simp [results, h, hp', asAddr, run_loadVar_mid w g 0 ty cs d (Poly.whole_range hg) hu hd hi]
theorem below_cells' {B h : Nat} {w : World} (hB : B ≤ h) : ∀ (l : List Value) (i : Nat) {X : World}, Below B w X → Below B w (X.setCells h i l)
  | [], _, _, H => H
  | v :: l, i, _, H => below_cells' hB l (i + 1) (H.setCell hB v)
/-- the world of Install -/
structure IsW (w : World) (B g h : Nat) (x : SS) (K : List Value) (p : PS) (y : SS) (X : World) : Prop where
  arg : Whole X B 36 (slL x).toArray
  key : Whole X (B + 1) 27 K.toArray
  res : Whole X (B + 1 + 1) 36 (slL noS).toArray
  pr : Whole X g 34 (pairL p).toArray
  out : Whole X h 36 (slL y).toArray
  bel : Below B w X
  n1 : B + 1 + 1 < g
  n2 : g < h
theorem IsW.drew {w : World} {B g h : Nat} {x : SS} {K : List Value} {p : PS} {y : SS} {X : World} (H : IsW w B g h x K p y X) : IsW w B g h x K p y X.drew := ⟨H.arg.drew, H.key.drew, H.res.drew, H.pr.drew, H.out.drew, H.bel.drew, H.n1, H.n2⟩
theorem IsW.bool {w : World} {B g h : Nat} {x : SS} {K : List Value} {p : PS} {y : SS} {X : World} (H : IsW w B g h x K p y X) {o : Nat} {v : Value} {z : SS} (hz : Whole (X.setCell ⟨h, o, none⟩ v) h 36 (slL z).toArray) : IsW w B g h x K p z (X.setCell ⟨h, o, none⟩ v) := by
  have h1 := H.n1
  have h2 := H.n2
  exact ⟨Whole.far H.arg (by show B ≠ h; omega) _, Whole.far H.key (by show B + 1 ≠ h; omega) _, Whole.far H.res (by show B + 1 + 1 ≠ h; omega) _, Whole.far H.pr (by show g ≠ h; omega) _, hz, H.bel.setCell (show B ≤ h by omega) _, h1, h2⟩
theorem IsW.pair {w : World} {B g h : Nat} {x : SS} {K : List Value} {p : PS} {y : SS} {X : World} (H : IsW w B g h x K p y X) {o : Nat} {vs : List Value} {z : SS} (hz : Whole (X.setCells h o vs) h 36 (slL z).toArray) : IsW w B g h x K p z (X.setCells h o vs) := by
  have h1 := H.n1
  have h2 := H.n2
  exact ⟨whole_cells _ _ (by omega) H.arg, whole_cells _ _ (by omega) H.key, whole_cells _ _ (by omega) H.res, whole_cells _ _ (by omega) H.pr, hz, below_cells' (by omega) _ _ H.bel, h1, h2⟩
theorem IsW.below {w : World} {B g h : Nat} {x : SS} {K : List Value} {p : PS} {y : SS} {X Y : World} (H : IsW w B g h x K p y X) (hb : Below X.heap.size X Y) : IsW w B g h x K p y Y :=
  ⟨H.arg.below hb H.arg.lt, H.key.below hb H.key.lt, H.res.below hb H.res.lt, H.pr.below hb H.pr.lt, H.out.below hb H.out.lt, H.bel.trans (hb.mono (Nat.le_of_lt H.arg.lt)), H.n1, H.n2⟩
def insA (x : SS) (p : PS) : SS := { x with hp := false, hn := true, n := p }
def insB (x : SS) (p : PS) : SS := { x with hp := true, p := x.n, hc := true, c := p, hn := false }
def insC (x : SS) (p : PS) : SS := { x with hp := x.hc, p := x.c, hc := true, c := p, hn := false }
def inst (x : SS) (p : PS) : SS := tidy (if p.one = false then insA x p else if x.hn = true then insB x p else insC x p)
theorem zero_keys' (w : World) : (zeroValue 27).run Try.prog w = .ok (.agg (keysL (fun _ => 0) (fun _ => 0) 0 0 false).toArray) w := by kernel_rfl
set_option maxRecDepth 100000 in
set_option maxHeartbeats 8000000 in
theorem install_ok (x : SS) (s r : Nat → Nat) (l m : Nat) (one : Bool) (t : Int) (hr : rightT t = true) (w : World) :
    Calls Try.prog 7 #[slV x, .agg (keysL s r l m one).toArray, .int .i64 t] w fun e w' => e = .returned (.tuple #[slV (inst x (newP s r l m one t)), .int .i64 0]) ∧ Below w.heap.size w w' := by
  have HN := Lib.hid (fun w => new_ok s r l m one t hr w)
  unfold slV
  unfold pairV at HN
  have hz := zero_slots
  have hzp := zero_pair
  have HKL := Lib.hid (keysL_length s r l m one)
  have HONE := Lib.hid (show (newP s r l m one t).one = one from rfl)
  have HFK := Lib.hid (show ∀ V g, Whole V g 27 (keysL s r l m one).toArray → V.cell? ⟨g, 66, none⟩ = some (.bool one) from fun V g h => (h.cell 66).trans (by rw [List.getElem?_toArray]; unfold keysL; rw [List.getElem?_append_right (by rw [byteCells_length]; omega), List.getElem?_append_right (by simp only [byteCells_length]; omega)]; simp only [byteCells_length]; rfl))
  obtain ⟨K, hK⟩ : ∃ K, keysL s r l m one = K := ⟨_, rfl⟩
  rw [hK] at HN HKL HFK ⊢
  obtain ⟨P, hP⟩ : ∃ P, newP s r l m one t = P := ⟨_, rfl⟩
  rw [hP] at HN HONE ⊢
  have HPL := Lib.hid (And.intro (pairL_length P) (pair_one P))
  have HXL := Lib.hid (And.intro (slL_length x) (sl_one x))
  have HCL := Lib.hid (And.intro (pairL_length x.c) (pair_one x.c))
  have HNL := Lib.hid (And.intro (pairL_length x.n) (pair_one x.n))
  obtain ⟨PL, hPL⟩ : ∃ L, pairL P = L := ⟨_, rfl⟩
  have HPE := Lib.hid hPL
  rw [hPL] at HN HPL
  obtain ⟨L, hL⟩ : ∃ L, slL x = L := ⟨_, rfl⟩
  have HLE := Lib.hid hL
  rw [hL] at HXL ⊢
  obtain ⟨hnb, hhn⟩ : ∃ b, x.hn = b := ⟨_, rfl⟩
  obtain ⟨hcb, hhc⟩ : ∃ b, x.hc = b := ⟨_, rfl⟩
  have HBB := Lib.hid (And.intro hhn hhc)
  clear hK hP hPL hL hr hhn hhc
  go_enter Try.func7, Try.ntmps7
  go_upto_region 1 with fail
  refine cut_world (fun X => Whole X w.heap.size 36 L.toArray ∧ Whole X (w.heap.size + 1) 27 K.toArray ∧ Whole X (w.heap.size + 1 + 1) 36 (slL noS).toArray ∧ Below w.heap.size w X) ⟨((Whole.new _ _ _).alloc _).alloc _, (whole_new _ _ (by simp)).alloc _, whole_new _ _ (by simp), below_alloc (below_alloc (below_alloc (Below.refl _ _) _) _) _⟩ ?_
  rintro X hX
  generalize hB : w.heap.size = B at hX ⊢
  have HB := Lib.hid hB
  have HX := Lib.hid hX
  clear hB hX
  go_upto_region 2 with (first
    | (refine wpList_load_row rfl 27 (.tmp 4) rfl (B + 1) rfl 27 K.toArray (0, 0) _ HX.out.2.1 rfl rfl (by rw [List.size_toArray, HKL.out]; kernel_rfl) ?_)
    | (go_at_call 15; refine (HN.out _).mono ?_; rintro e X1 ⟨rfl, hb1⟩; have HX1 := Lib.hid (show Whole X1 B 36 L.toArray ∧ Whole X1 (B + 1) 27 K.toArray ∧ Whole X1 (B + 1 + 1) 36 (slL noS).toArray ∧ Below B w X1 from ⟨HX.out.1.below hb1 HX.out.1.lt, HX.out.2.1.below hb1 HX.out.2.1.lt, HX.out.2.2.1.below hb1 HX.out.2.2.1.lt, HX.out.2.2.2.trans (hb1.mono (Nat.le_of_lt HX.out.1.lt))⟩); clear hb1)
    | (refine wpList_store_row rfl 34 (.tmp 8) (.tmp 15) rfl X1.heap.size PL.toArray rfl rfl 34 _ (Whole.new _ _ _) (by rw [List.size_toArray, HPL.out.1]; kernel_rfl) (by simp [HPL.out.1, pairL_length]) HPL.out.2 ?_))
  refine cut_world (fun X => Whole X B 36 L.toArray ∧ Whole X (B + 1) 27 K.toArray ∧ Whole X (B + 1 + 1) 36 (slL noS).toArray ∧ Below B w X ∧ Whole X X1.heap.size 34 PL.toArray ∧ B + 1 + 1 < X1.heap.size) ⟨HX1.out.1.below (below_var _ _ _ _) HX1.out.1.lt, HX1.out.2.1.below (below_var _ _ _ _) HX1.out.2.1.lt, HX1.out.2.2.1.below (below_var _ _ _ _) HX1.out.2.2.1.lt, HX1.out.2.2.2.trans ((below_var _ _ _ _).mono (Nat.le_of_lt HX1.out.1.lt)), setRow_heap _ _ _ _ _ _ (Whole.new _ _ _), HX1.out.2.2.1.lt⟩ ?_
  rintro X2 h2
  generalize X1.heap.size = g at h2 ⊢
  have H2 := Lib.hid h2
  clear h2 HX1 HX hzp HN
  go_upto_region 6 with (first
    | (refine wpList_load_row rfl 36 (.tmp 3) rfl B rfl 36 L.toArray (0, 0) _ H2.out.1 rfl rfl (by rw [List.size_toArray, HXL.out.1]; kernel_rfl) ?_)
    | (refine wpList_store_row rfl 36 (.tmp 10) (.tmp 21) rfl X2.heap.size L.toArray rfl rfl 36 _ (Whole.new _ _ _) (by rw [List.size_toArray, HXL.out.1]; kernel_rfl) (by rw [sl_size, List.size_toArray, HXL.out.1]) HXL.out.2 ?_))
  refine cut_world (fun X => IsW w B g X2.heap.size x K P x X) ⟨by rw [HLE.out]; exact H2.out.1.below (below_var _ _ _ _) H2.out.1.lt, H2.out.2.1.below (below_var _ _ _ _) H2.out.2.1.lt, H2.out.2.2.1.below (below_var _ _ _ _) H2.out.2.2.1.lt, by rw [HPE.out]; exact H2.out.2.2.2.2.1.below (below_var _ _ _ _) H2.out.2.2.2.2.1.lt, by rw [HLE.out]; exact setRow_heap _ _ _ _ _ _ (Whole.new _ _ _), H2.out.2.2.2.1.trans ((below_var _ _ _ _).mono (Nat.le_of_lt H2.out.1.lt)), H2.out.2.2.2.2.2, H2.out.2.2.2.2.1.lt⟩ ?_
  rintro X3 h3
  generalize X2.heap.size = h at h3 ⊢
  have H3 := Lib.hid h3
  clear h3 H2 hz
  have HVP := Lib.hid (show ∀ V y, IsW w B g h x K P y V → Whole V g 34 PL.toArray from fun V y hV => by rw [← HPE.out]; exact hV.pr)
  have HPN := Lib.hid (show ∀ V y, Whole V h 36 (slL y).toArray → Whole (V.setCells h 147 PL) h 36 (slL { y with n := P }).toArray from fun V y hV => by rw [← HPE.out]; exact put_n hV P)
  have HPC := Lib.hid (show ∀ V y, Whole V h 36 (slL y).toArray → Whole (V.setCells h 75 PL) h 36 (slL { y with c := P }).toArray from fun V y hV => by rw [← HPE.out]; exact put_c hV P)
  have HPX := Lib.hid (fun (q : PS) V y (hV : Whole V h 36 (slL y).toArray) => put_p hV q)
  have HRG := Lib.hid (show ∀ V y, IsW w B g h x K P y V → V.cell? ⟨B, 1, none⟩ = some (.bool hcb) ∧ V.cell? ⟨B, 2, none⟩ = some (.bool hnb) ∧ V.rangeAt B 75 (pairL x.c) ∧ V.rangeAt B 147 (pairL x.n) from fun V y hV => ⟨by rw [← HBB.out.2]; exact at_hc hV.arg, by rw [← HBB.out.1]; exact at_hn hV.arg, at_c hV.arg, at_n hV.arg⟩)
  have ck := HFK.out _ _ H3.out.key
  cases one with
  | false =>
    have co := at_hp H3.out.out
    have hfr := H3.out.out.free 0
    have H4 := Lib.hid (H3.out.bool (put_hp H3.out.out false))
    go_upto_region 8 with fail
    clear H3 ck co hfr
    have HI := Lib.hid H4.out.drew
    clear H4
    refine region_drew (fun V => ∃ y, IsW w B g h x K P y V) (by kernel_rfl) ⟨_, HI.out⟩ (fun hS => ?_)
    refine take 0 (.agg PL.toArray) rfl (by kernel_rfl) (by kernel_rfl) (by kernel_rfl) (fun _ _ _ h => h) (by rfl) hS (fun V hV => run_load_in 34 (.tmp 8) rfl g rfl PL.toArray 72 (by rw [List.size_toArray, HPL.out.1]) (HVP.out _ _ hV.choose_spec) rfl rfl (by kernel_rfl)) ?_
    try simp only [Act.put, List.setIfInBounds_toArray, List.set_cons_zero, List.set_cons_succ]
    refine take 1 _ rfl (by kernel_rfl) (by kernel_rfl) (by kernel_rfl) (fun _ _ _ h => h) (by rfl) hS (by intro w _; go_simp; with_reducible rfl) ?_
    try simp only [Act.put, List.setIfInBounds_toArray, List.set_cons_zero, List.set_cons_succ]
    refine alone 2 rfl (by kernel_rfl) (by rfl) ?_
    intro K hK
    refine wp_store_bool 4 (.tmp 34) (.const (.bool true)) rfl h 2 true _ (by rfl) (by rfl) (by kernel_rfl) (at_hn HI.out.out) (HI.out.out.free _) ?_
    replace HI := Lib.hid (HI.out.bool (put_hn HI.out.out true))
    refine hK.out _ _ ⟨_, HI.out⟩ ?_
    clear hK K
    replace hS := (⟨_, HI.out⟩ : ∃ y, IsW w B g h x K P y _)
    try simp only [Act.put]
    refine take 3 _ rfl (by kernel_rfl) (by kernel_rfl) (by kernel_rfl) (fun _ _ _ h => h) (by rfl) hS (by intro w _; go_simp; with_reducible rfl) ?_
    try simp only [Act.put, List.setIfInBounds_toArray, List.set_cons_zero, List.set_cons_succ]
    refine alone 4 rfl (by kernel_rfl) (by rfl) ?_
    intro K hK
    refine wp_store_mid 34 (.tmp 35) (.tmp 33) rfl h 147 PL.toArray (by rfl) (by rfl) (by rw [List.size_toArray, HPL.out.1]; exact there_at HI.out.out _ _ (by omega)) (by rw [List.size_toArray, HPL.out.1]; kernel_rfl) (HPL.out.2) ?_
    replace HI := Lib.hid (HI.out.pair (HPN.out _ _ HI.out.out))
    refine hK.out _ _ ⟨_, HI.out⟩ ?_
    clear hK K
    replace hS := (⟨_, HI.out⟩ : ∃ y, IsW w B g h x K P y _)
    try simp only [Act.put]
    refine region_end (by kernel_rfl) ?_
    have HFL := Lib.hid (And.intro (slL_length (insA x P)) (sl_one (insA x P)))
    have HTI := Lib.hid (tidy_any (insA x P))
    have HTL := Lib.hid (And.intro (slL_length (tidy (insA x P))) (sl_one (tidy (insA x P))))
    have HOU := Lib.hid (show ∀ V, IsW w B g h x K P (insA x P) V → Whole V h 36 (slL (insA x P)).toArray from fun V hV => hV.out)
    have HEZ := Lib.hid (show inst x P = tidy (insA x P) from by unfold inst; rw [if_pos HONE.out])
    unfold slV at HTI
    obtain ⟨ZL, hZL⟩ : ∃ L, slL (insA x P) = L := ⟨_, rfl⟩
    obtain ⟨TL, hTL⟩ : ∃ L, slL (tidy (insA x P)) = L := ⟨_, rfl⟩
    have HTE := Lib.hid hTL
    rw [hZL] at HFL HTI HOU
    rw [hTL] at HTI HTL
    clear hZL hTL
    go_wp2_with (first
      | (refine wpList_load_row rfl 36 (.tmp 10) rfl h rfl 36 ZL.toArray (0, 0) _ (HOU.out _ HI.out) rfl rfl (by rw [List.size_toArray, HFL.out.1]; kernel_rfl) ?_)
      | (go_at_call 16; refine (HTI.out _).mono ?_; rintro e W2 ⟨rfl, hb2⟩; have HJ := Lib.hid (HI.out.below hb2); clear hb2)
      | (refine wpList_store_row rfl 36 (.tmp 6) (.tmp 37) rfl (B + 1 + 1) TL.toArray rfl rfl 36 _ HJ.out.res (by rw [List.size_toArray, HTL.out.1]; kernel_rfl) (by rw [sl_size, List.size_toArray, HTL.out.1]) HTL.out.2 ?_))
    have HE := Lib.hid (setRow_heap _ _ _ TL.toArray _ _ HJ.out.res)
    refine bodyPost_ret (results_cell1 rfl _ _ (B + 1 + 1) 36 TL _ rfl HE.out rfl rfl (by rw [HTL.out.1]; kernel_rfl)) rfl ?_
    exact ⟨by rw [HEZ.out, ← HTE.out]; rfl, by rw [HB.out]; exact below_setRow HJ.out.bel (by omega) _⟩
  | true =>
    have c2 := (HRG.out _ _ H3.out).2.1
    cases hnb with
    | true =>
      go_upto_region 11 with fail
      have HI := Lib.hid H3.out.drew
      clear H3 ck c2
      obtain ⟨NL, hNL⟩ : ∃ L, pairL x.n = L := ⟨_, rfl⟩
      have HPN2 := Lib.hid (HPX.out x.n)
      rw [hNL] at HNL HRG HPN2
      clear hNL
      refine region_drew (fun V => ∃ y, IsW w B g h x K P y V) (by kernel_rfl) ⟨_, HI.out⟩ (fun hS => ?_)
      refine take 0 _ rfl (by kernel_rfl) (by kernel_rfl) (by kernel_rfl) (fun _ _ _ h => h) (by rfl) hS (by intro w _; go_simp; with_reducible rfl) ?_
      try simp only [Act.put, List.setIfInBounds_toArray, List.set_cons_zero, List.set_cons_succ]
      refine take 1 (.agg NL.toArray) rfl (by kernel_rfl) (by kernel_rfl) (by kernel_rfl) (fun _ _ _ h => h) (by rfl) hS (fun V hV => run_mid_in 34 (.tmp 41) rfl B 147 rfl NL _ (HRG.out _ _ hV.choose_spec).2.2.2 rfl rfl (by rw [HNL.out.1]; kernel_rfl)) ?_
      try simp only [Act.put, List.setIfInBounds_toArray, List.set_cons_zero, List.set_cons_succ]
      refine take 2 _ rfl (by kernel_rfl) (by kernel_rfl) (by kernel_rfl) (fun _ _ _ h => h) (by rfl) hS (by intro w _; go_simp; with_reducible rfl) ?_
      try simp only [Act.put, List.setIfInBounds_toArray, List.set_cons_zero, List.set_cons_succ]
      refine alone 3 rfl (by kernel_rfl) (by rfl) ?_
      intro K hK
      refine wp_store_bool 4 (.tmp 43) (.const (.bool true)) rfl h 0 true _ (by rfl) (by rfl) (by kernel_rfl) (at_hp HI.out.out) (HI.out.out.free _) ?_
      replace HI := Lib.hid (HI.out.bool (put_hp HI.out.out true))
      refine hK.out _ _ ⟨_, HI.out⟩ ?_
      clear hK K
      replace hS := (⟨_, HI.out⟩ : ∃ y, IsW w B g h x K P y _)
      try simp only [Act.put]
      refine take 4 _ rfl (by kernel_rfl) (by kernel_rfl) (by kernel_rfl) (fun _ _ _ h => h) (by rfl) hS (by intro w _; go_simp; with_reducible rfl) ?_
      try simp only [Act.put, List.setIfInBounds_toArray, List.set_cons_zero, List.set_cons_succ]
      refine alone 5 rfl (by kernel_rfl) (by rfl) ?_
      intro K hK
      refine wp_store_mid 34 (.tmp 44) (.tmp 42) rfl h 3 NL.toArray (by rfl) (by rfl) (by rw [List.size_toArray, HNL.out.1]; exact there_at HI.out.out _ _ (by omega)) (by rw [List.size_toArray, HNL.out.1]; kernel_rfl) (HNL.out.2) ?_
      replace HI := Lib.hid (HI.out.pair (HPN2.out _ _ HI.out.out))
      refine hK.out _ _ ⟨_, HI.out⟩ ?_
      clear hK K
      replace hS := (⟨_, HI.out⟩ : ∃ y, IsW w B g h x K P y _)
      try simp only [Act.put]
      refine region_end (by kernel_rfl) ?_
      go_upto_region 12 with fail
      replace HI := Lib.hid HI.out.drew
      refine region_drew (fun V => ∃ y, IsW w B g h x K P y V) (by kernel_rfl) ⟨_, HI.out⟩ (fun hS => ?_)
      refine take 0 (.agg PL.toArray) rfl (by kernel_rfl) (by kernel_rfl) (by kernel_rfl) (fun _ _ _ h => h) (by rfl) hS (fun V hV => run_load_in 34 (.tmp 8) rfl g rfl PL.toArray 72 (by rw [List.size_toArray, HPL.out.1]) (HVP.out _ _ hV.choose_spec) rfl rfl (by kernel_rfl)) ?_
      try simp only [Act.put, List.setIfInBounds_toArray, List.set_cons_zero, List.set_cons_succ]
      refine take 1 _ rfl (by kernel_rfl) (by kernel_rfl) (by kernel_rfl) (fun _ _ _ h => h) (by rfl) hS (by intro w _; go_simp; with_reducible rfl) ?_
      try simp only [Act.put, List.setIfInBounds_toArray, List.set_cons_zero, List.set_cons_succ]
      refine alone 2 rfl (by kernel_rfl) (by rfl) ?_
      intro K hK
      refine wp_store_bool 4 (.tmp 46) (.const (.bool true)) rfl h 1 true _ (by rfl) (by rfl) (by kernel_rfl) (at_hc HI.out.out) (HI.out.out.free _) ?_
      replace HI := Lib.hid (HI.out.bool (put_hc HI.out.out true))
      refine hK.out _ _ ⟨_, HI.out⟩ ?_
      clear hK K
      replace hS := (⟨_, HI.out⟩ : ∃ y, IsW w B g h x K P y _)
      try simp only [Act.put]
      refine take 3 _ rfl (by kernel_rfl) (by kernel_rfl) (by kernel_rfl) (fun _ _ _ h => h) (by rfl) hS (by intro w _; go_simp; with_reducible rfl) ?_
      try simp only [Act.put, List.setIfInBounds_toArray, List.set_cons_zero, List.set_cons_succ]
      refine alone 4 rfl (by kernel_rfl) (by rfl) ?_
      intro K hK
      refine wp_store_mid 34 (.tmp 47) (.tmp 45) rfl h 75 PL.toArray (by rfl) (by rfl) (by rw [List.size_toArray, HPL.out.1]; exact there_at HI.out.out _ _ (by omega)) (by rw [List.size_toArray, HPL.out.1]; kernel_rfl) (HPL.out.2) ?_
      replace HI := Lib.hid (HI.out.pair (HPC.out _ _ HI.out.out))
      refine hK.out _ _ ⟨_, HI.out⟩ ?_
      clear hK K
      replace hS := (⟨_, HI.out⟩ : ∃ y, IsW w B g h x K P y _)
      try simp only [Act.put]
      refine take 5 _ rfl (by kernel_rfl) (by kernel_rfl) (by kernel_rfl) (fun _ _ _ h => h) (by rfl) hS (by intro w _; go_simp; with_reducible rfl) ?_
      try simp only [Act.put, List.setIfInBounds_toArray, List.set_cons_zero, List.set_cons_succ]
      refine alone 6 rfl (by kernel_rfl) (by rfl) ?_
      intro K hK
      refine wp_store_bool 4 (.tmp 48) (.const (.bool false)) rfl h 2 false _ (by rfl) (by rfl) (by kernel_rfl) (at_hn HI.out.out) (HI.out.out.free _) ?_
      replace HI := Lib.hid (HI.out.bool (put_hn HI.out.out false))
      refine hK.out _ _ ⟨_, HI.out⟩ ?_
      clear hK K
      replace hS := (⟨_, HI.out⟩ : ∃ y, IsW w B g h x K P y _)
      try simp only [Act.put]
      refine region_end (by kernel_rfl) ?_
      have HFL := Lib.hid (And.intro (slL_length (insB x P)) (sl_one (insB x P)))
      have HTI := Lib.hid (tidy_any (insB x P))
      have HTL := Lib.hid (And.intro (slL_length (tidy (insB x P))) (sl_one (tidy (insB x P))))
      have HOU := Lib.hid (show ∀ V, IsW w B g h x K P (insB x P) V → Whole V h 36 (slL (insB x P)).toArray from fun V hV => hV.out)
      have HEZ := Lib.hid (show inst x P = tidy (insB x P) from by unfold inst; rw [if_neg (by rw [HONE.out]; decide), if_pos HBB.out.1])
      unfold slV at HTI
      obtain ⟨ZL, hZL⟩ : ∃ L, slL (insB x P) = L := ⟨_, rfl⟩
      obtain ⟨TL, hTL⟩ : ∃ L, slL (tidy (insB x P)) = L := ⟨_, rfl⟩
      have HTE := Lib.hid hTL
      rw [hZL] at HFL HTI HOU
      rw [hTL] at HTI HTL
      clear hZL hTL
      go_wp2_with (first
        | (refine wpList_load_row rfl 36 (.tmp 10) rfl h rfl 36 ZL.toArray (0, 0) _ (HOU.out _ HI.out) rfl rfl (by rw [List.size_toArray, HFL.out.1]; kernel_rfl) ?_)
        | (go_at_call 16; refine (HTI.out _).mono ?_; rintro e W2 ⟨rfl, hb2⟩; have HJ := Lib.hid (HI.out.below hb2); clear hb2)
        | (refine wpList_store_row rfl 36 (.tmp 6) (.tmp 50) rfl (B + 1 + 1) TL.toArray rfl rfl 36 _ HJ.out.res (by rw [List.size_toArray, HTL.out.1]; kernel_rfl) (by rw [sl_size, List.size_toArray, HTL.out.1]) HTL.out.2 ?_))
      have HE := Lib.hid (setRow_heap _ _ _ TL.toArray _ _ HJ.out.res)
      refine bodyPost_ret (results_cell1 rfl _ _ (B + 1 + 1) 36 TL _ rfl HE.out rfl rfl (by rw [HTL.out.1]; kernel_rfl)) rfl ?_
      exact ⟨by rw [HEZ.out, ← HTE.out]; rfl, by rw [HB.out]; exact below_setRow HJ.out.bel (by omega) _⟩
    | false =>
      go_upto_region 5 with fail
      have HI := Lib.hid H3.out.drew
      clear H3 ck c2
      obtain ⟨CL, hCL⟩ : ∃ L, pairL x.c = L := ⟨_, rfl⟩
      have HPC2 := Lib.hid (HPX.out x.c)
      rw [hCL] at HCL HRG HPC2
      clear hCL
      refine region_drew (fun V => ∃ y, IsW w B g h x K P y V) (by kernel_rfl) ⟨_, HI.out⟩ (fun hS => ?_)
      refine take 0 _ rfl (by kernel_rfl) (by kernel_rfl) (by kernel_rfl) (fun _ _ _ h => h) (by rfl) hS (by intro w _; go_simp; with_reducible rfl) ?_
      try simp only [Act.put, List.setIfInBounds_toArray, List.set_cons_zero, List.set_cons_succ]
      refine take 1 (.bool hcb) rfl (by kernel_rfl) (by kernel_rfl) (by kernel_rfl) (fun _ _ _ h => h) (by rfl) hS (fun V hV => by have hcl := (HRG.out _ _ hV.choose_spec).1; go_simp; try with_reducible rfl) ?_
      try simp only [Act.put, List.setIfInBounds_toArray, List.set_cons_zero, List.set_cons_succ]
      refine take 2 _ rfl (by kernel_rfl) (by kernel_rfl) (by kernel_rfl) (fun _ _ _ h => h) (by rfl) hS (by intro w _; go_simp; with_reducible rfl) ?_
      try simp only [Act.put, List.setIfInBounds_toArray, List.set_cons_zero, List.set_cons_succ]
      refine take 3 (.agg CL.toArray) rfl (by kernel_rfl) (by kernel_rfl) (by kernel_rfl) (fun _ _ _ h => h) (by rfl) hS (fun V hV => run_mid_in 34 (.tmp 24) rfl B 75 rfl CL _ (HRG.out _ _ hV.choose_spec).2.2.1 rfl rfl (by rw [HCL.out.1]; kernel_rfl)) ?_
      try simp only [Act.put, List.setIfInBounds_toArray, List.set_cons_zero, List.set_cons_succ]
      refine take 4 _ rfl (by kernel_rfl) (by kernel_rfl) (by kernel_rfl) (fun _ _ _ h => h) (by rfl) hS (by intro w _; go_simp; with_reducible rfl) ?_
      try simp only [Act.put, List.setIfInBounds_toArray, List.set_cons_zero, List.set_cons_succ]
      refine alone 5 rfl (by kernel_rfl) (by rfl) ?_
      intro K hK
      refine wp_store_bool 4 (.tmp 26) (.tmp 23) rfl h 0 hcb _ (by rfl) (by rfl) (by kernel_rfl) (at_hp HI.out.out) (HI.out.out.free _) ?_
      replace HI := Lib.hid (HI.out.bool (put_hp HI.out.out hcb))
      refine hK.out _ _ ⟨_, HI.out⟩ ?_
      clear hK K
      replace hS := (⟨_, HI.out⟩ : ∃ y, IsW w B g h x K P y _)
      try simp only [Act.put]
      refine take 6 _ rfl (by kernel_rfl) (by kernel_rfl) (by kernel_rfl) (fun _ _ _ h => h) (by rfl) hS (by intro w _; go_simp; with_reducible rfl) ?_
      try simp only [Act.put, List.setIfInBounds_toArray, List.set_cons_zero, List.set_cons_succ]
      refine alone 7 rfl (by kernel_rfl) (by rfl) ?_
      intro K hK
      refine wp_store_mid 34 (.tmp 27) (.tmp 25) rfl h 3 CL.toArray (by rfl) (by rfl) (by rw [List.size_toArray, HCL.out.1]; exact there_at HI.out.out _ _ (by omega)) (by rw [List.size_toArray, HCL.out.1]; kernel_rfl) (HCL.out.2) ?_
      replace HI := Lib.hid (HI.out.pair (HPC2.out _ _ HI.out.out))
      refine hK.out _ _ ⟨_, HI.out⟩ ?_
      clear hK K
      replace hS := (⟨_, HI.out⟩ : ∃ y, IsW w B g h x K P y _)
      try simp only [Act.put]
      refine region_end (by kernel_rfl) ?_
      go_upto_region 12 with fail
      replace HI := Lib.hid HI.out.drew
      refine region_drew (fun V => ∃ y, IsW w B g h x K P y V) (by kernel_rfl) ⟨_, HI.out⟩ (fun hS => ?_)
      refine take 0 (.agg PL.toArray) rfl (by kernel_rfl) (by kernel_rfl) (by kernel_rfl) (fun _ _ _ h => h) (by rfl) hS (fun V hV => run_load_in 34 (.tmp 8) rfl g rfl PL.toArray 72 (by rw [List.size_toArray, HPL.out.1]) (HVP.out _ _ hV.choose_spec) rfl rfl (by kernel_rfl)) ?_
      try simp only [Act.put, List.setIfInBounds_toArray, List.set_cons_zero, List.set_cons_succ]
      refine take 1 _ rfl (by kernel_rfl) (by kernel_rfl) (by kernel_rfl) (fun _ _ _ h => h) (by rfl) hS (by intro w _; go_simp; with_reducible rfl) ?_
      try simp only [Act.put, List.setIfInBounds_toArray, List.set_cons_zero, List.set_cons_succ]
      refine alone 2 rfl (by kernel_rfl) (by rfl) ?_
      intro K hK
      refine wp_store_bool 4 (.tmp 46) (.const (.bool true)) rfl h 1 true _ (by rfl) (by rfl) (by kernel_rfl) (at_hc HI.out.out) (HI.out.out.free _) ?_
      replace HI := Lib.hid (HI.out.bool (put_hc HI.out.out true))
      refine hK.out _ _ ⟨_, HI.out⟩ ?_
      clear hK K
      replace hS := (⟨_, HI.out⟩ : ∃ y, IsW w B g h x K P y _)
      try simp only [Act.put]
      refine take 3 _ rfl (by kernel_rfl) (by kernel_rfl) (by kernel_rfl) (fun _ _ _ h => h) (by rfl) hS (by intro w _; go_simp; with_reducible rfl) ?_
      try simp only [Act.put, List.setIfInBounds_toArray, List.set_cons_zero, List.set_cons_succ]
      refine alone 4 rfl (by kernel_rfl) (by rfl) ?_
      intro K hK
      refine wp_store_mid 34 (.tmp 47) (.tmp 45) rfl h 75 PL.toArray (by rfl) (by rfl) (by rw [List.size_toArray, HPL.out.1]; exact there_at HI.out.out _ _ (by omega)) (by rw [List.size_toArray, HPL.out.1]; kernel_rfl) (HPL.out.2) ?_
      replace HI := Lib.hid (HI.out.pair (HPC.out _ _ HI.out.out))
      refine hK.out _ _ ⟨_, HI.out⟩ ?_
      clear hK K
      replace hS := (⟨_, HI.out⟩ : ∃ y, IsW w B g h x K P y _)
      try simp only [Act.put]
      refine take 5 _ rfl (by kernel_rfl) (by kernel_rfl) (by kernel_rfl) (fun _ _ _ h => h) (by rfl) hS (by intro w _; go_simp; with_reducible rfl) ?_
      try simp only [Act.put, List.setIfInBounds_toArray, List.set_cons_zero, List.set_cons_succ]
      refine alone 6 rfl (by kernel_rfl) (by rfl) ?_
      intro K hK
      refine wp_store_bool 4 (.tmp 48) (.const (.bool false)) rfl h 2 false _ (by rfl) (by rfl) (by kernel_rfl) (at_hn HI.out.out) (HI.out.out.free _) ?_
      replace HI := Lib.hid (HI.out.bool (put_hn HI.out.out false))
      refine hK.out _ _ ⟨_, HI.out⟩ ?_
      clear hK K
      replace hS := (⟨_, HI.out⟩ : ∃ y, IsW w B g h x K P y _)
      try simp only [Act.put]
      refine region_end (by kernel_rfl) ?_
      have HFL := Lib.hid (And.intro (slL_length ({ insC x P with hp := hcb })) (sl_one ({ insC x P with hp := hcb })))
      have HTI := Lib.hid (tidy_any ({ insC x P with hp := hcb }))
      have HTL := Lib.hid (And.intro (slL_length (tidy ({ insC x P with hp := hcb }))) (sl_one (tidy ({ insC x P with hp := hcb }))))
      have HOU := Lib.hid (show ∀ V, IsW w B g h x K P ({ insC x P with hp := hcb }) V → Whole V h 36 (slL ({ insC x P with hp := hcb })).toArray from fun V hV => hV.out)
      have HEZ := Lib.hid (show inst x P = tidy ({ insC x P with hp := hcb }) from by unfold inst; rw [if_neg (by rw [HONE.out]; decide), if_neg (by rw [HBB.out.1]; decide), ← HBB.out.2]; rfl)
      unfold slV at HTI
      obtain ⟨ZL, hZL⟩ : ∃ L, slL ({ insC x P with hp := hcb }) = L := ⟨_, rfl⟩
      obtain ⟨TL, hTL⟩ : ∃ L, slL (tidy ({ insC x P with hp := hcb })) = L := ⟨_, rfl⟩
      have HTE := Lib.hid hTL
      rw [hZL] at HFL HTI HOU
      rw [hTL] at HTI HTL
      clear hZL hTL
      go_wp2_with (first
        | (refine wpList_load_row rfl 36 (.tmp 10) rfl h rfl 36 ZL.toArray (0, 0) _ (HOU.out _ HI.out) rfl rfl (by rw [List.size_toArray, HFL.out.1]; kernel_rfl) ?_)
        | (go_at_call 16; refine (HTI.out _).mono ?_; rintro e W2 ⟨rfl, hb2⟩; have HJ := Lib.hid (HI.out.below hb2); clear hb2)
        | (refine wpList_store_row rfl 36 (.tmp 6) (.tmp 50) rfl (B + 1 + 1) TL.toArray rfl rfl 36 _ HJ.out.res (by rw [List.size_toArray, HTL.out.1]; kernel_rfl) (by rw [sl_size, List.size_toArray, HTL.out.1]) HTL.out.2 ?_))
      have HE := Lib.hid (setRow_heap _ _ _ TL.toArray _ _ HJ.out.res)
      refine bodyPost_ret (results_cell1 rfl _ _ (B + 1 + 1) 36 TL _ rfl HE.out rfl rfl (by rw [HTL.out.1]; kernel_rfl)) rfl ?_
      exact ⟨by rw [HEZ.out, ← HTE.out]; rfl, by rw [HB.out]; exact below_setRow HJ.out.bel (by omega) _⟩
end Sl
end Go.Proofs.Ytdhjgenijieeaaa
