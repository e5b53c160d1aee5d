/- Package trie: with. -/
import Derived.Test.YtcpfchfhcfdcpaaTrNext
namespace Go.Proofs.Ytcpfchfhcfdcpaa
namespace Tri
open Go.ChangeShapes Go.WideShapes Go.ChangeAt Go.RowKit
open Num Mem Words Chacha Aead Poly Quiet Ops Adr

theorem nod_built0 (s : Bool) (g : Nat → Nat) (n o : Int) : Try.prog.built 87 [(0, .agg (routeL s g n o).toArray)] = some (nodL s g n o none none).toArray := by kernel_rfl
theorem zero_pref2 : ∀ w : World, (zeroValue 29).run Try.prog w = .ok (.agg (prefL false nought 0).toArray) w := zero_pref
theorem nod_built2 (s : Bool) (g : Nat → Nat) (n o : Int) (k0 k1 : Option Nat) : Try.prog.built 87 [(0, .agg (routeL s g n o).toArray), (1, .agg #[ptrV k0, ptrV k1])] = some (nodL s g n o k0 k1).toArray := by kernel_rfl
theorem zero_node : ∀ w : World, (zeroValue 87).run Try.prog w = .ok (.agg (nodL false nought 0 0 none none).toArray) w := fun w => by kernel_rfl
theorem run_built1 {P : Program} {o : Oper} {a : Act} {w : World} (t : TypeId) (k : Nat) (x : Operand) (ho : o.op = .build t #[(k, x)])
    (v : Value) (hx : a.eval x = v) (vs : Array Value) (hb : P.built t [(k, v)] = some vs) : (execOp a.eval o).run P w = .ok (.value (.agg vs)) w := by
  have e : P.built t ((#[(k, x)] : Array (Nat × Operand)).map fun (i, x) => (i, a.eval x)).toList = some vs := by simpa [hx] using hb
  unfold execOp
  simp only [ho, Sem.run_bind, run_build w t _ vs e, Result.andThen_ok, Sem.run_pure]
theorem okI_zero : okI 0 := by unfold okI; decide
theorem route_built1 (s : Bool) (g : Nat → Nat) (n : Int) : Try.prog.built 38 [(0, .agg (prefL s g n).toArray)] = some (routeL s g n 0).toArray := by kernel_rfl
theorem maskV_ok {s : Bool} {g : Nat → Nat} {c : Int} (h : maskE s g c = 0) : maskV s g c = .agg (prefL s (maskF c g) c).toArray := by
  unfold maskV mS mF mZ
  rw [if_pos h, if_pos h, if_pos h]
theorem isT_node {A : Nat → Prop} {X : World} {M : Nat} {s : Bool} {g : Nat → Nat} {n : Nat} {o : Int} {a b : Tr} {k0 k1 : Option Nat} (h : Whole X M 87 (nodL s g n o k0 k1).toArray) (hA : A M) (ta : IsT A X s a k0) (tb : IsT A X s b k1) (hg : ∀ i, g i < 256) (hr : rightPB s g (n : Int) = true) (ho : okI o) : IsT A X s (.node (bs g n) o a b) (some M) :=
  ⟨M, g, k0, k1, rfl, hA, hg, by rw [bs_length]; exact hr, by rw [bs_length], ho, by rw [bs_length]; exact h, ta, tb⟩
theorem Nod.kids {w : World} {r : Nat} {s : Bool} {f : Nat → Nat} {z : Nat} {o : Int} {k0 k1 : Option Nat} (h : Nod w r s f z o k0 k1) : w.rangeAt r 19 [ptrV k0, ptrV k1] := fun j v hj => by
  rcases j with _ | _ | j
  · simp at hj; subst hj; exact h.kid0
  · simp at hj; subst hj; exact h.kid1
  · simp at hj
theorem run_built2 {P : Program} {o : Oper} {a : Act} {w : World} (t : TypeId) (k m : Nat) (x y : Operand) (ho : o.op = .build t #[(k, x), (m, y)])
    (v u : Value) (hx : a.eval x = v) (hy : a.eval y = u) (vs : Array Value) (hb : P.built t [(k, v), (m, u)] = some vs) : (execOp a.eval o).run P w = .ok (.value (.agg vs)) w := by
  have e : P.built t ((#[(k, x), (m, y)] : Array (Nat × Operand)).map fun (i, x) => (i, a.eval x)).toList = some vs := by simpa [hx, hy] using hb
  unfold execOp
  simp only [ho, Sem.run_bind, run_build w t _ vs e, Result.andThen_ok, Sem.run_pure]
/-- the world behind the two prefixes -/
structure WkW (w : World) (r : Nat) (s : Bool) (f : Nat → Nat) (z : Nat) (u : Int) (k0 k1 : Option Nat) (g : Nat → Nat) (n : Nat) (o : Int) (N N1 N2 : Nat) (X : World) : Prop where
  rt : Whole X N 38 (routeL s g n o).toArray
  nd : Nod X r s f z u k0 k1
  own : Whole X N1 29 (prefL s f z).toArray
  p : Whole X N2 29 (prefL s g n).toArray
  bel : Below N w X
theorem WkW.below {w : World} {r : Nat} {s : Bool} {f : Nat → Nat} {z : Nat} {u : Int} {k0 k1 : Option Nat} {g : Nat → Nat} {n : Nat} {o : Int} {N N1 N2 : Nat} {X Y : World} (h : WkW w r s f z u k0 k1 g n o N N1 N2 X) (hb : Below X.heap.size X Y) : WkW w r s f z u k0 k1 g n o N N1 N2 Y :=
  ⟨h.rt.below hb h.rt.lt, ⟨h.nd.row.below hb h.nd.row.lt⟩, h.own.below hb h.own.lt, h.p.below hb h.p.lt, h.bel.trans (hb.mono (Nat.le_of_lt h.rt.lt))⟩
theorem nod_set0 (s : Bool) (f : Nat → Nat) (z o : Int) (k0 k1 q : Option Nat) : (nodL s f z o k0 k1).toArray.setIfInBounds 19 (ptrV q) = (nodL s f z o q k1).toArray := by
  rw [List.setIfInBounds_toArray]
  unfold nodL
  rw [List.set_append_right _ _ (by rw [routeL_length]; omega), routeL_length]
  rfl
theorem nod_set1 (s : Bool) (f : Nat → Nat) (z o : Int) (k0 k1 q : Option Nat) : (nodL s f z o k0 k1).toArray.setIfInBounds 20 (ptrV q) = (nodL s f z o k0 q).toArray := by
  rw [List.setIfInBounds_toArray]
  unfold nodL
  rw [List.set_append_right _ _ (by rw [routeL_length]; omega), routeL_length]
  rfl
theorem whole_far {w : World} {h g : Nat} {t : TypeId} {cs : Array Value} (H : Whole w h t cs) (hne : h ≠ g) (i : Nat) (v : Value) : Whole (w.setCell ⟨g, i, none⟩ v) h t cs := (Below.heap_setCell w ⟨g, i, none⟩ v h hne).trans H
theorem WkW.set {w : World} {r : Nat} {s : Bool} {f : Nat → Nat} {z : Nat} {u : Int} {k0 k1 : Option Nat} {g : Nat → Nat} {n : Nat} {o : Int} {N N1 N2 : Nat} {X : World} (h : WkW w r s f z u k0 k1 g n o N N1 N2 X) {O : Nat} (hO : N < O ∧ N1 < O ∧ N2 < O ∧ r < O) (i : Nat) (v : Value) : WkW w r s f z u k0 k1 g n o N N1 N2 (X.setCell ⟨O, i, none⟩ v) :=
  ⟨whole_far h.rt (by omega) _ _, ⟨whole_far h.nd.row (by omega) _ _⟩, whole_far h.own (by omega) _ _, whole_far h.p (by omega) _ _, h.bel.setCell (p := ⟨O, i, none⟩) (by show N ≤ O; omega) v⟩
set_option maxRecDepth 100000 in
set_option maxHeartbeats 40000000 in
theorem with_any (s : Bool) (g : Nat → Nat) (n : Nat) (o : Int) (hg : ∀ i, g i < 256) (hr : rightPB s g (n : Int) = true) (ho : okI o) : ∀ (t : Tr), t.Ok → ∀ (A : Nat → Prop) (w : World) (q : Option Nat), IsT A w s t q →
    Calls Try.prog 37 #[ptrV q, .agg (routeL s g n o).toArray] w fun e w' => ∃ r, e = .returned (.pointer (some ⟨r, 0, none⟩)) ∧ IsT (fun i => A i ∨ w.heap.size ≤ i) w' s (t.ins (bs g n) o) (some r) ∧ Below w.heap.size w w' := by
  intro t
  induction t with
  | nil =>
    intro _ A w q hq
    have hq : q = none := hq
    subst hq
    have HE := Lib.hid (fun (X : World) (r : Nat) (hA : w.heap.size ≤ r) (h : Whole X r 87 (nodL s g n o none none).toArray) => (show IsT (fun i => A i ∨ w.heap.size ≤ i) X s (Tr.ins (bs g n) o .nil) (some r) from ⟨r, g, none, none, rfl, .inr hA, hg, by rw [bs_length]; exact hr, by rw [bs_length], ho, by rw [bs_length]; exact h, rfl, rfl⟩))
    have HNB := Lib.hid (nod_built0 s g n o)
    have HL := Lib.hid (show (routeL s g n o).toArray.size = 19 by rw [List.size_toArray, routeL_length])
    have HNL := Lib.hid (nodL_length s g n o none none)
    obtain ⟨L, hL⟩ : ∃ L, (routeL s g n o).toArray = L := ⟨_, rfl⟩
    obtain ⟨M, hM⟩ : ∃ M, (nodL s g n o none none).toArray = M := ⟨_, rfl⟩
    rw [hM] at HE
    rw [hL] at HL ⊢
    rw [hL, hM] at HNB
    clear hL hM
    show Calls Try.prog _ #[.pointer none, _] _ _
    go_enter Try.func37, Try.ntmps37
    go_upto_region 2 with fail
    go_wp2_with (first | (refine wpList_load_row rfl 38 (.tmp 3) rfl w.heap.size rfl 38 L (0, 0) _ (Whole.new _ _ _) rfl rfl (by rw [HL.out]; kernel_rfl) ?_) | (refine wpList_built1 rfl 87 0 (.tmp 16) rfl (.agg L) rfl M HNB.out ?_))
    go_ret
    exact ⟨_, rfl, HE.out _ _ (Nat.le_succ _) (whole_new _ _ (by simp)), below_alloc (below_alloc (Below.refl _ _) _) _⟩
  | node p u a b iha ihb =>
    intro hok A w q hT
    obtain ⟨r, f, k0, k1, rfl, hAr, hf, hrf, hbs, hu, hw, hta, htb⟩ := hT
    obtain ⟨z, hz⟩ : ∃ z, p.length = z := ⟨_, rfl⟩
    rw [hz] at hrf hbs hw
    subst hbs
    have HRT := Lib.hid (show (routeL s g n o).toArray.size = 19 by rw [List.size_toArray, routeL_length])
    have HPF := Lib.hid (prefL_length s f (z : Int))
    have HPG := Lib.hid (prefL_length s g (n : Int))
    have HPR := Lib.hid (show ∀ (X : World) (M : Nat), Whole X M 38 (routeL s g n o).toArray → X.rangeAt M 0 (prefL s g n) from fun X M h j v hj => by rw [Nat.zero_add, h.cell, List.getElem?_toArray]; exact route_pre _ _ _ _ hj)
    have HND := Lib.hid (show ∀ (X : World), Nod X r s f z u k0 k1 → X.rangeAt r 0 (prefL s f z) from fun X h => h.pref)
    have HWK := Lib.hid (show ∀ (X : World) (N1 N2 : Nat), Whole X w.heap.size 38 (routeL s g n o).toArray → Nod X r s f z u k0 k1 → Whole X N1 29 (prefL s f z).toArray → Whole X N2 29 (prefL s g n).toArray → Below w.heap.size w X → WkW w r s f z u k0 k1 g n o w.heap.size N1 N2 X from fun X N1 N2 h1 h2 h3 h4 h5 => ⟨h1, h2, h3, h4, h5⟩)
    have H0 := Lib.hid (show Nod w r s f z u k0 k1 from ⟨hw⟩)
    obtain ⟨L, hL⟩ : ∃ L, (routeL s g n o).toArray = L := ⟨_, rfl⟩
    obtain ⟨PF, hPF⟩ : ∃ PF, prefL s f (z : Int) = PF := ⟨_, rfl⟩
    obtain ⟨PG, hPG⟩ : ∃ PG, prefL s g (n : Int) = PG := ⟨_, rfl⟩
    have HO1 := Lib.hid (show PF.toArray.all (·.oneCell') = true by rw [← hPF]; exact pref_one _ _ _)
    have HO2 := Lib.hid (show PG.toArray.all (·.oneCell') = true by rw [← hPG]; exact pref_one _ _ _)
    have HEQ3 := Lib.hid (show (routeL s g n o).toArray = L ∧ prefL s f (z : Int) = PF ∧ prefL s g (n : Int) = PG from ⟨hL, hPF, hPG⟩)
    rw [hL] at HRT HPR HWK ⊢
    rw [hPF] at HPF HND HWK
    rw [hPG] at HPG HPR HWK
    have HT0 := Lib.hid (show (∀ X, Below w.heap.size w X → IsT (fun i => A i ∧ i < w.heap.size) X s a k0 ∧ IsT (fun i => A i ∧ i < w.heap.size) X s b k1) ∧ A r ∧ r < w.heap.size from ⟨fun X hX => ⟨(hta.keep (fun i _ ha hi => ⟨⟨ha, hi.lt⟩, hi⟩) : IsT (fun i => A i ∧ i < w.heap.size) w s a k0).below hX, (htb.keep (fun i _ ha hi => ⟨⟨ha, hi.lt⟩, hi⟩) : IsT (fun i => A i ∧ i < w.heap.size) w s b k1).below hX⟩, hAr, hw.lt⟩)
    clear hL hPF hPG hw hta htb hAr
    show Calls Try.prog _ #[.pointer (some ⟨r, 0, none⟩), _] _ _
    have hzp := zero_pref
    obtain ⟨Z, hZ⟩ : ∃ Z, (prefL false nought 0).toArray = Z := ⟨_, rfl⟩
    have HZS := Lib.hid (show Z.size = 18 by rw [← hZ]; exact pref_size _ _ _)
    rw [hZ] at hzp
    clear hZ
    go_enter Try.func37, Try.ntmps37
    go_upto_region 3 with fail
    refine cut_world (fun X => Whole X w.heap.size 38 L ∧ Nod X r s f z u k0 k1 ∧ Below w.heap.size w X) ⟨Whole.new _ _ _, ⟨H0.out.row.alloc _⟩, below_alloc (Below.refl _ _) _⟩ ?_
    rintro W hW
    have HW := Lib.hid hW
    clear hW H0
    obtain ⟨N, hNN⟩ : ∃ N, w.heap.size = N := ⟨_, rfl⟩
    have HNN := Lib.hid hNN
    rw [hNN] at HW HWK ⊢
    clear hNN
    go_cut [5, 6] (fun t5 t6 X => ∃ N1 N2, t5 = .pointer (some ⟨N1, 0, none⟩) ∧ t6 = .pointer (some ⟨N2, 0, none⟩) ∧ WkW w r s f z u k0 k1 g n o N N1 N2 X)
    case first =>
      refine region_drew (fun V => Whole V N 38 L ∧ Nod V r s f z u k0 k1 ∧ Below N w V) (by kernel_rfl) ⟨HW.out.1.below (Below.drew (Below.refl _ _)) HW.out.1.lt, ⟨HW.out.2.1.row.below (Below.drew (Below.refl _ _)) HW.out.2.1.row.lt⟩, HW.out.2.2.drew⟩ (fun hS => ?_)
      refine take 0 _ rfl (by kernel_rfl) (by kernel_rfl) (by kernel_rfl) (fun _ _ _ h => h) (by rfl) hS (by intro w _; go_simp; with_reducible rfl) ?_
      try simp only [Act.put, List.setIfInBounds_toArray, List.set_cons_zero, List.set_cons_succ]
      refine take 1 _ rfl (by kernel_rfl) (by kernel_rfl) (by kernel_rfl) (fun _ _ _ h => h) (by rfl) hS (by intro w _; go_simp; with_reducible rfl) ?_
      try simp only [Act.put, List.setIfInBounds_toArray, List.set_cons_zero, List.set_cons_succ]
      refine take 2 _ rfl (by kernel_rfl) (by kernel_rfl) (by kernel_rfl) (fun _ _ _ h => h) (by rfl) hS (by intro w _; go_simp; with_reducible rfl) ?_
      try simp only [Act.put, List.setIfInBounds_toArray, List.set_cons_zero, List.set_cons_succ]
      refine take 3 _ rfl (by kernel_rfl) (by kernel_rfl) (by kernel_rfl) (fun _ _ _ h => h) (by rfl) hS (by intro w _; go_simp; with_reducible rfl) ?_
      try simp only [Act.put, List.setIfInBounds_toArray, List.set_cons_zero, List.set_cons_succ]
      refine take 4 (.agg PF.toArray) rfl (by kernel_rfl) (by kernel_rfl) (by kernel_rfl) (fun _ _ _ h => h) (by rfl) hS (fun w hw => run_mid_in 29 (.tmp 22) rfl r 0 rfl PF _ (HND.out w hw.2.1) rfl rfl (by rw [HPF.out]; kernel_rfl)) ?_
      try simp only [Act.put, List.setIfInBounds_toArray, List.set_cons_zero, List.set_cons_succ]
      refine take 5 _ rfl (by kernel_rfl) (by kernel_rfl) (by kernel_rfl) (fun _ _ _ h => h) (by rfl) hS (by intro w _; go_simp; with_reducible rfl) ?_
      try simp only [Act.put, List.setIfInBounds_toArray, List.set_cons_zero, List.set_cons_succ]
      refine take 6 (.agg PG.toArray) rfl (by kernel_rfl) (by kernel_rfl) (by kernel_rfl) (fun _ _ _ h => h) (by rfl) hS (fun w hw => run_mid_in 29 (.tmp 24) rfl N 0 rfl PG _ (HPR.out w N hw.1) rfl rfl (by rw [HPG.out]; kernel_rfl)) ?_
      try simp only [Act.put, List.setIfInBounds_toArray, List.set_cons_zero, List.set_cons_succ]
      refine ready_two 7 8 rfl rfl (by kernel_rfl) (by rfl) (by rfl) ?_ ?_
      · skip
        intro K hK
        go_simp
        have hS2 : Whole (W.drew.alloc (.cells Z 29)) N 38 L ∧ Nod (W.drew.alloc (.cells Z 29)) r s f z u k0 k1 ∧ Below N w (W.drew.alloc (.cells Z 29)) := ⟨hS.1.alloc _, ⟨hS.2.1.row.alloc _⟩, hS.2.2.alloc (Nat.le_of_lt hS.1.lt) _⟩
        refine hK.out _ _ hS2 ?_
        clear hK K
        try simp only [Act.put, List.setIfInBounds_toArray, List.set_cons_zero, List.set_cons_succ]
        refine alone 8 rfl (by kernel_rfl) (by rfl) ?_
        intro K hK
        go_simp
        have hS3 : Whole (((W.alloc (.cells Z 29)).alloc (.cells Z 29)).drew) N 38 L ∧ Nod (((W.alloc (.cells Z 29)).alloc (.cells Z 29)).drew) r s f z u k0 k1 ∧ Below N w (((W.alloc (.cells Z 29)).alloc (.cells Z 29)).drew) := ⟨hS2.1.alloc _, ⟨hS2.2.1.row.alloc _⟩, hS2.2.2.alloc (Nat.le_of_lt hS2.1.lt) _⟩
        refine hK.out _ _ hS3 ?_
        clear hK K
        have HB1 := Lib.hid (show Whole (((W.alloc (.cells Z 29)).alloc (.cells Z 29)).drew) W.heap.size 29 Z ∧ Whole (((W.alloc (.cells Z 29)).alloc (.cells Z 29)).drew) (W.heap.size + 1) 29 Z from ⟨(Whole.new W.drew _ _).alloc _, whole_new (w := W.drew.alloc (.cells Z 29)) _ _ (by simp)⟩)
        have hlt1 := HW.out.1.lt
        have hlt2 := HW.out.2.1.row.lt
        obtain ⟨N1, hN1⟩ : ∃ N1, W.heap.size = N1 := ⟨_, rfl⟩
        obtain ⟨N2, hN2⟩ : ∃ N2, W.heap.size + 1 = N2 := ⟨_, rfl⟩
        have HNE := Lib.hid (show N ≠ N1 ∧ N ≠ N2 ∧ r ≠ N1 ∧ r ≠ N2 ∧ N ≤ N1 ∧ N ≤ N2 ∧ N1 ≠ N2 by omega)
        have HZ1 := Lib.hid (hN1 ▸ HB1.out.1)
        have HZ2 := Lib.hid (hN2 ▸ HB1.out.2)
        rw [hN2, hN1]
        clear HB1 hN1 hN2 hlt1 hlt2 hS hS2
        generalize ((W.alloc (.cells Z 29)).alloc (.cells Z 29)).drew = Y at hS3 HZ1 HZ2 ⊢
        have hS := hS3
        clear hS3
        try simp only [Act.put, List.setIfInBounds_toArray, List.set_cons_zero, List.set_cons_succ]
        refine alone 9 rfl (by kernel_rfl) (by rfl) ?_
        intro K hK
        refine wp_store_row 29 (.tmp 5) (.tmp 23) rfl N1 PF.toArray (by rfl) (by rfl) 29 Z HZ1.out (by rw [List.size_toArray, HPF.out]; kernel_rfl) (by rw [HZS.out, List.size_toArray, HPF.out]) HO1.out ?_
        have hS2 : Whole (Y.setRow N1 PF.toArray) N 38 L ∧ Nod (Y.setRow N1 PF.toArray) r s f z u k0 k1 ∧ Below N w (Y.setRow N1 PF.toArray) := ⟨Whole.farRow hS.1 HNE.out.1 _, ⟨Whole.farRow hS.2.1.row HNE.out.2.2.1 _⟩, below_setRow hS.2.2 HNE.out.2.2.2.2.1 _⟩
        refine hK.out _ _ hS2 ?_
        clear hK K
        have HZ1b := Lib.hid (show Whole (Y.setRow N1 PF.toArray) N1 29 PF.toArray from setRow_heap _ _ _ _ _ _ HZ1.out)
        have HZ2b := Lib.hid (show Whole (Y.setRow N1 PF.toArray) N2 29 Z from Whole.farRow HZ2.out (fun e => HNE.out.2.2.2.2.2.2 e.symm) _)
        generalize Y.setRow N1 PF.toArray = Y2 at hS2 HZ1b HZ2b ⊢
        clear hS HZ1 HZ2
        clear Y
        have hS := hS2
        clear hS2
        try simp only [Act.put]
        refine alone 10 rfl (by kernel_rfl) (by rfl) ?_
        intro K hK
        refine wp_store_row 29 (.tmp 6) (.tmp 25) rfl N2 PG.toArray (by rfl) (by rfl) 29 Z HZ2b.out (by rw [List.size_toArray, HPG.out]; kernel_rfl) (by rw [HZS.out, List.size_toArray, HPG.out]) HO2.out ?_
        have hS2 : Whole (Y2.setRow N2 PG.toArray) N 38 L ∧ Nod (Y2.setRow N2 PG.toArray) r s f z u k0 k1 ∧ Below N w (Y2.setRow N2 PG.toArray) := ⟨Whole.farRow hS.1 HNE.out.2.1 _, ⟨Whole.farRow hS.2.1.row HNE.out.2.2.2.1 _⟩, below_setRow hS.2.2 HNE.out.2.2.2.2.2.1 _⟩
        refine hK.out _ _ hS2 ?_
        clear hK K
        have HEND := Lib.hid (HWK.out _ N1 N2 hS2.1 hS2.2.1 (Whole.farRow HZ1b.out HNE.out.2.2.2.2.2.2 _) (setRow_heap _ _ _ _ _ _ HZ2b.out) hS2.2.2)
        try simp only [Act.put]
        refine region_end (by kernel_rfl) ?_
        go_wp2_with fail
        go_meet
        exact ⟨N1, N2, rfl, rfl, HEND.out⟩
      · skip
        intro K hK
        go_simp
        have hS2 : Whole (W.drew.alloc (.cells Z 29)) N 38 L ∧ Nod (W.drew.alloc (.cells Z 29)) r s f z u k0 k1 ∧ Below N w (W.drew.alloc (.cells Z 29)) := ⟨hS.1.alloc _, ⟨hS.2.1.row.alloc _⟩, hS.2.2.alloc (Nat.le_of_lt hS.1.lt) _⟩
        refine hK.out _ _ hS2 ?_
        clear hK K
        try simp only [Act.put, List.setIfInBounds_toArray, List.set_cons_zero, List.set_cons_succ]
        refine alone 7 rfl (by kernel_rfl) (by rfl) ?_
        intro K hK
        go_simp
        have hS3 : Whole (((W.alloc (.cells Z 29)).alloc (.cells Z 29)).drew) N 38 L ∧ Nod (((W.alloc (.cells Z 29)).alloc (.cells Z 29)).drew) r s f z u k0 k1 ∧ Below N w (((W.alloc (.cells Z 29)).alloc (.cells Z 29)).drew) := ⟨hS2.1.alloc _, ⟨hS2.2.1.row.alloc _⟩, hS2.2.2.alloc (Nat.le_of_lt hS2.1.lt) _⟩
        refine hK.out _ _ hS3 ?_
        clear hK K
        have HB1 := Lib.hid (show Whole (((W.alloc (.cells Z 29)).alloc (.cells Z 29)).drew) W.heap.size 29 Z ∧ Whole (((W.alloc (.cells Z 29)).alloc (.cells Z 29)).drew) (W.heap.size + 1) 29 Z from ⟨(Whole.new W.drew _ _).alloc _, whole_new (w := W.drew.alloc (.cells Z 29)) _ _ (by simp)⟩)
        have hlt1 := HW.out.1.lt
        have hlt2 := HW.out.2.1.row.lt
        obtain ⟨N1, hN1⟩ : ∃ N1, W.heap.size + 1 = N1 := ⟨_, rfl⟩
        obtain ⟨N2, hN2⟩ : ∃ N2, W.heap.size = N2 := ⟨_, rfl⟩
        have HNE := Lib.hid (show N ≠ N1 ∧ N ≠ N2 ∧ r ≠ N1 ∧ r ≠ N2 ∧ N ≤ N1 ∧ N ≤ N2 ∧ N1 ≠ N2 by omega)
        have HZ1 := Lib.hid (hN1 ▸ HB1.out.2)
        have HZ2 := Lib.hid (hN2 ▸ HB1.out.1)
        rw [hN1, hN2]
        clear HB1 hN1 hN2 hlt1 hlt2 hS hS2
        generalize ((W.alloc (.cells Z 29)).alloc (.cells Z 29)).drew = Y at hS3 HZ1 HZ2 ⊢
        have hS := hS3
        clear hS3
        try simp only [Act.put, List.setIfInBounds_toArray, List.set_cons_zero, List.set_cons_succ]
        refine alone 9 rfl (by kernel_rfl) (by rfl) ?_
        intro K hK
        refine wp_store_row 29 (.tmp 5) (.tmp 23) rfl N1 PF.toArray (by rfl) (by rfl) 29 Z HZ1.out (by rw [List.size_toArray, HPF.out]; kernel_rfl) (by rw [HZS.out, List.size_toArray, HPF.out]) HO1.out ?_
        have hS2 : Whole (Y.setRow N1 PF.toArray) N 38 L ∧ Nod (Y.setRow N1 PF.toArray) r s f z u k0 k1 ∧ Below N w (Y.setRow N1 PF.toArray) := ⟨Whole.farRow hS.1 HNE.out.1 _, ⟨Whole.farRow hS.2.1.row HNE.out.2.2.1 _⟩, below_setRow hS.2.2 HNE.out.2.2.2.2.1 _⟩
        refine hK.out _ _ hS2 ?_
        clear hK K
        have HZ1b := Lib.hid (show Whole (Y.setRow N1 PF.toArray) N1 29 PF.toArray from setRow_heap _ _ _ _ _ _ HZ1.out)
        have HZ2b := Lib.hid (show Whole (Y.setRow N1 PF.toArray) N2 29 Z from Whole.farRow HZ2.out (fun e => HNE.out.2.2.2.2.2.2 e.symm) _)
        generalize Y.setRow N1 PF.toArray = Y2 at hS2 HZ1b HZ2b ⊢
        clear hS HZ1 HZ2
        clear Y
        have hS := hS2
        clear hS2
        try simp only [Act.put]
        refine alone 10 rfl (by kernel_rfl) (by rfl) ?_
        intro K hK
        refine wp_store_row 29 (.tmp 6) (.tmp 25) rfl N2 PG.toArray (by rfl) (by rfl) 29 Z HZ2b.out (by rw [List.size_toArray, HPG.out]; kernel_rfl) (by rw [HZS.out, List.size_toArray, HPG.out]) HO2.out ?_
        have hS2 : Whole (Y2.setRow N2 PG.toArray) N 38 L ∧ Nod (Y2.setRow N2 PG.toArray) r s f z u k0 k1 ∧ Below N w (Y2.setRow N2 PG.toArray) := ⟨Whole.farRow hS.1 HNE.out.2.1 _, ⟨Whole.farRow hS.2.1.row HNE.out.2.2.2.1 _⟩, below_setRow hS.2.2 HNE.out.2.2.2.2.2.1 _⟩
        refine hK.out _ _ hS2 ?_
        clear hK K
        have HEND := Lib.hid (HWK.out _ N1 N2 hS2.1 hS2.2.1 (Whole.farRow HZ1b.out HNE.out.2.2.2.2.2.2 _) (setRow_heap _ _ _ _ _ _ HZ2b.out) hS2.2.2)
        try simp only [Act.put]
        refine region_end (by kernel_rfl) ?_
        go_wp2_with fail
        go_meet
        exact ⟨N1, N2, rfl, rfl, HEND.out⟩
    case rest =>
      obtain ⟨N1, N2, rfl, rfl, hk⟩ := hcut
      have HK := Lib.hid hk
      clear hk HW HWK HND HPR HZS hzp
      have hzr := right_parts hrf
      have hnr := right_parts hr
      have hdd := digits_le s
      have HSD := Lib.hid (fun X => sd_any s f hf z (by omega) s g hg n (by omega) X)
      have HEQP := Lib.hid (fun X => eqin_pref 9996 s s f g (z : Int) (n : Int) hf hg (decide (bs f z = bs g n)) (by
        rw [decide_eq_true_eq, ← right_eq hf hg hrf hr]
        constructor
        · rintro ⟨h1, h2⟩; exact ⟨⟨rfl, h1⟩, by omega⟩
        · rintro ⟨⟨_, h1⟩, h2⟩; exact ⟨h1, by omega⟩) X)
      have HOWN := Lib.hid (show ∀ X, WkW w r s f z u k0 k1 g n o N N1 N2 X → Whole X N 38 L ∧ Whole X N1 29 PF.toArray ∧ Whole X N2 29 PG.toArray from fun X h => ⟨HEQ3.out.1 ▸ h.rt, HEQ3.out.2.1 ▸ h.own, HEQ3.out.2.2 ▸ h.p⟩)
      rw [HEQ3.out.2.1, HEQ3.out.2.2] at HSD HEQP
      go_upto_region 5 with (first
        | (refine wpList_load_row rfl 29 (.tmp 5) rfl N1 rfl 29 PF.toArray (0, 0) _ (HOWN.out _ HK.out).2.1 rfl rfl (by rw [List.size_toArray, HPF.out]; kernel_rfl) ?_)
        | (refine wpList_load_row rfl 29 (.tmp 6) rfl N2 rfl 29 PG.toArray (0, 0) _ (HOWN.out _ HK.out).2.2 rfl rfl (by rw [List.size_toArray, HPG.out]; kernel_rfl) ?_)
        | (go_at_call 50; refine (HSD.out _).mono ?_; rintro e X1 ⟨rfl, hb1⟩; have HK1 := Lib.hid (HK.out.below hb1); clear hb1 HK HSD))
      have HNB := Lib.hid (nod_built2 s g n o k0 k1)
      rw [HEQ3.out.1] at HNB
      by_cases heq : bs f z = bs g n
      · have HEND := Lib.hid (show ∀ (X : World) (M : Nat), Whole X M 87 (nodL s g n o k0 k1).toArray → N ≤ M → WkW w r s f z u k0 k1 g n o N N1 N2 X → IsT (fun i => A i ∨ N ≤ i) X s (Tr.ins (bs g n) o (.node (bs f z) u a b)) (some M) from fun X M h hM hk => by
          unfold Tr.ins
          rw [if_pos heq]
          have h0 := HT0.out.1 X (HNN.out ▸ hk.bel)
          exact isT_node h (.inr hM) (h0.1.mono fun i _ hi => .inl hi.1) (h0.2.mono fun i _ hi => .inl hi.1) hg hr ho)
        rw [decide_eq_true heq] at HEQP
        clear heq
        have HML := Lib.hid (show (nodL s g n o k0 k1).toArray.size = 21 by rw [List.size_toArray, nodL_length])
        obtain ⟨M, hM⟩ : ∃ M, (nodL s g n o k0 k1).toArray = M := ⟨_, rfl⟩
        rw [hM] at HNB HEND HML
        clear hM
        go_upto_region 6 with (first
          | (refine wpList_load_row rfl 29 (.tmp 5) rfl N1 rfl 29 PF.toArray (0, 0) _ (HOWN.out _ HK1.out).2.1 rfl rfl (by rw [List.size_toArray, HPF.out]; kernel_rfl) ?_)
          | (refine wpList_load_row rfl 29 (.tmp 6) rfl N2 rfl 29 PG.toArray (0, 0) _ (HOWN.out _ HK1.out).2.2 rfl rfl (by rw [List.size_toArray, HPG.out]; kernel_rfl) ?_)
          | (refine Ops.wpList_value_if (by rfl) (.bool true) (Ops.run_eql_op 29 (.tmp 30) (.tmp 31) 29 rfl PF.toArray PG.toArray rfl rfl true (by kernel_rfl) HEQP.out _) ?_))
        refine region_drew (fun V => WkW w r s f z u k0 k1 g n o N N1 N2 V) (by kernel_rfl) (HK1.out.below (Below.drew (Below.refl _ _))) (fun hS => ?_)
        refine take 0 (.agg L) rfl (by kernel_rfl) (by kernel_rfl) (by kernel_rfl) (fun _ _ _ h => h) (by rfl) hS (fun w hw => run_load_in 38 (.tmp 3) rfl N rfl L 19 HRT.out (HOWN.out w hw).1 rfl rfl (by kernel_rfl)) ?_
        try simp only [Act.put, List.setIfInBounds_toArray, List.set_cons_zero, List.set_cons_succ]
        refine take 1 _ rfl (by kernel_rfl) (by kernel_rfl) (by kernel_rfl) (fun _ _ _ h => h) (by rfl) hS (by intro w _; go_simp; with_reducible rfl) ?_
        try simp only [Act.put, List.setIfInBounds_toArray, List.set_cons_zero, List.set_cons_succ]
        refine take 2 _ rfl (by kernel_rfl) (by kernel_rfl) (by kernel_rfl) (fun _ _ _ h => h) (by rfl) hS (by intro w _; go_simp; with_reducible rfl) ?_
        try simp only [Act.put, List.setIfInBounds_toArray, List.set_cons_zero, List.set_cons_succ]
        refine take 3 _ rfl (by kernel_rfl) (by kernel_rfl) (by kernel_rfl) (fun _ _ _ h => h) (by rfl) hS (by intro w _; go_simp; with_reducible rfl) ?_
        try simp only [Act.put, List.setIfInBounds_toArray, List.set_cons_zero, List.set_cons_succ]
        refine take 4 (.agg #[ptrV k0, ptrV k1]) rfl (by kernel_rfl) (by kernel_rfl) (by kernel_rfl) (fun _ _ _ h => h) (by rfl) hS (fun w hw => run_mid_in 79 (.tmp 36) rfl r 19 rfl [ptrV k0, ptrV k1] _ hw.nd.kids rfl rfl (by kernel_rfl)) ?_
        try simp only [Act.put, List.setIfInBounds_toArray, List.set_cons_zero, List.set_cons_succ]
        refine take 5 (.agg M) rfl (by kernel_rfl) (by kernel_rfl) (by kernel_rfl) (fun _ _ _ h => h) (by rfl) hS (fun w hw => run_built2 87 0 1 (.tmp 33) (.tmp 37) rfl (.agg L) (.agg #[ptrV k0, ptrV k1]) rfl rfl M HNB.out) ?_
        try simp only [Act.put, List.setIfInBounds_toArray, List.set_cons_zero, List.set_cons_succ]
        refine alone 6 rfl (by kernel_rfl) (by rfl) ?_
        intro K hK
        go_simp
        have hS2 : WkW w r s f z u k0 k1 g n o N N1 N2 ((X1.alloc (.cells M 87)).drew) := hS.below (below_alloc (Below.refl _ _) _)
        have HM3 := Lib.hid (show Whole ((X1.alloc (.cells M 87)).drew) X1.heap.size 87 M from Whole.new X1.drew _ _)
        refine hK.out _ _ hS2 ?_
        clear hK K hS
        generalize (X1.alloc (.cells M 87)).drew = Y at hS2 HM3 ⊢
        have HRN := Lib.hid (show N ≤ X1.heap.size from Nat.le_of_lt HK1.out.rt.lt)
        generalize X1.heap.size = R at HM3 HRN ⊢
        have hS := hS2
        try simp only [Act.put, List.setIfInBounds_toArray, List.set_cons_zero, List.set_cons_succ]
        refine take 7 _ rfl (by kernel_rfl) (by kernel_rfl) (by kernel_rfl) (fun _ _ _ h => h) (by rfl) hS (by intro w _; go_simp; with_reducible rfl) ?_
        try simp only [Act.put, List.setIfInBounds_toArray, List.set_cons_zero, List.set_cons_succ]
        refine region_end (by kernel_rfl) ?_
        have HS := Lib.hid hS2
        clear hS hS2 HK1
        go_wp2_with fail
        go_ret
        exact ⟨_, rfl, by rw [HNN.out]; exact HEND.out _ _ HM3.out HRN.out HS.out, by rw [HNN.out]; exact HS.out.bel⟩
      · have hcl := cpl_left (bs f z) (bs g n)
        have hcr := cpl_right (bs f z) (bs g n)
        rw [bs_length] at hcl hcr
        rw [decide_eq_false heq] at HEQP
        have HNE := Lib.hid heq
        obtain ⟨c, hc⟩ : ∃ c, cpl (bs f z) (bs g n) = c := ⟨_, rfl⟩
        have HC := Lib.hid hc
        rw [hc] at hcl hcr ⊢
        clear heq hc HNB
        go_upto_region 7 with (first
          | (refine wpList_load_row rfl 29 (.tmp 5) rfl N1 rfl 29 PF.toArray (0, 0) _ (HOWN.out _ HK1.out).2.1 rfl rfl (by rw [List.size_toArray, HPF.out]; kernel_rfl) ?_)
          | (refine wpList_load_row rfl 29 (.tmp 6) rfl N2 rfl 29 PG.toArray (0, 0) _ (HOWN.out _ HK1.out).2.2 rfl rfl (by rw [List.size_toArray, HPG.out]; kernel_rfl) ?_)
          | (refine Ops.wpList_value_if (by rfl) (.bool false) (Ops.run_eql_op 29 (.tmp 30) (.tmp 31) 29 rfl PF.toArray PG.toArray rfl rfl false (by kernel_rfl) HEQP.out _) ?_))
        clear HEQP
        have HBZ := Lib.hid (show ∀ X, WkW w r s f z u k0 k1 g n o N N1 N2 X → X.cell? ⟨N1, 17, none⟩ = some (.int .i64 (z : Nat)) ∧ X.cell? ⟨N2, 17, none⟩ = some (.int .i64 (n : Nat)) from fun X h => ⟨by rw [h.own.cell, List.getElem?_toArray]; exact pref_bits _ _ _, by rw [h.p.cell, List.getElem?_toArray]; exact pref_bits _ _ _⟩)
        have HBT := Lib.hid (show ∀ (X : World) (i : Nat), i < z ∨ i < n → (i : Int) < digitsI s from fun X i hi => by omega)
        have cz := (HBZ.out _ HK1.out).1
        by_cases h1 : c = z
        · rw [h1] at HC hcl hcr ⊢
          clear h1 cz
          have cz := (HBZ.out _ HK1.out).1
          have hpre : bs f z <+: bs g n := cpl_pre.1 (by rw [HC.out, bs_length])
          have hzn : z < n := by
            rcases Nat.lt_or_ge z n with h | h
            · exact h
            · exact absurd (List.IsPrefix.eq_of_length hpre (by rw [bs_length, bs_length]; omega)) HNE.out
          have HINS := Lib.hid (show Tr.ins (bs g n) o (.node (bs f z) u a b) = if dig g z = true then .node (bs f z) u a (b.ins (bs g n) o) else .node (bs f z) u (a.ins (bs g n) o) b from by
            rw [Tr.ins, if_neg HNE.out, if_pos (by rw [HC.out, bs_length]), HC.out, bs_getD g hzn])
          have HBIT := Lib.hid (fun X => bit_any s g hg (z : Int) X)
          have hbv := bit_dig hnr.1 z (by omega)
          have HAL := Lib.hid (addrL_length s g)
          have HAR := Lib.hid (show ∀ X, WkW w r s f z u k0 k1 g n o N N1 N2 X → X.rangeAt N2 0 (addrL s g) from fun X h => pref_range h.p)
          obtain ⟨AL, hAL⟩ : ∃ AL, addrL s g = AL := ⟨_, rfl⟩
          rw [hAL] at HBIT HAL HAR
          have HNLS := Lib.hid (show (nodL s f z u k0 k1).toArray.size = 21 by rw [List.size_toArray, nodL_length])
          have HNLO := Lib.hid (show (nodL s f z u k0 k1).toArray.all (·.oneCell') = true by rw [List.all_toArray, List.all_eq_true]; exact nod_each _ _ _ _ _ _)
          obtain ⟨NL, hNL⟩ : ∃ NL, (nodL s f z u k0 k1).toArray = NL := ⟨_, rfl⟩
          have HNL := Lib.hid hNL
          rw [hNL] at HNLS HNLO
          clear hAL hNL hpre
          have hzn0 := zero_node
          obtain ⟨Z2, hZ2⟩ : ∃ Z2, (nodL false nought 0 0 none none).toArray = Z2 := ⟨_, rfl⟩
          have HZ2S := Lib.hid (show Z2.size = 21 by rw [← hZ2, List.size_toArray, nodL_length])
          rw [hZ2] at hzn0
          clear hZ2
          go_upto_region 9 with (first
            | (refine wpList_load_row rfl 87 (.tmp 46) rfl r rfl 87 NL (0, 0) _ (HNL.out ▸ HK1.out.nd.row) rfl rfl (by rw [HNLS.out]; kernel_rfl) ?_)
            | (refine wpList_store_row rfl 87 (.tmp 8) (.tmp 47) rfl X1.heap.size NL rfl rfl 87 _ (Whole.new _ _ _) (by rw [HNLS.out]; kernel_rfl) (by rw [HZ2S.out, HNLS.out]) HNLO.out ?_))
          try simp only [Act.put]
          refine cut_world (fun X => WkW w r s f z u k0 k1 g n o N N1 N2 X ∧ Whole X X1.heap.size 87 NL) ⟨HK1.out.below (below_setRow (below_alloc (Below.refl _ _) _) (Nat.le_refl _) _), setRow_heap _ _ _ _ _ _ (Whole.new _ _ _)⟩ ?_
          rintro X2 ⟨hk2, ho2⟩
          have HK2 := Lib.hid hk2
          have HO2 := Lib.hid ho2
          have HOG := Lib.hid (show N < X1.heap.size ∧ N1 < X1.heap.size ∧ N2 < X1.heap.size ∧ r < X1.heap.size from ⟨HK1.out.rt.lt, HK1.out.own.lt, HK1.out.p.lt, HK1.out.nd.row.lt⟩)
          generalize X1.heap.size = O at HO2 HOG ⊢
          clear hk2 ho2 HK1 hzn0 HZ2S cz
          clear X1
          cases hd : dig g z with
          | true =>
            have HIH := Lib.hid (fun X (hX : Below w.heap.size w X) => ihb hok.2.2.2 _ X k1 (HT0.out.1 X hX).2)
            rw [HEQ3.out.1] at HIH
            have hbv2 : bitI s g (z : Int) = 1 := by rw [hbv, hd]; rfl
            rw [hbv2] at HBIT
            clear hbv
            go_upto_region 10 with (first
              | (refine wpList_load_mid rfl 27 (.tmp 48) rfl N2 0 rfl AL _ (HAR.out _ HK2.out) rfl rfl (by rw [HAL.out]; kernel_rfl) ?_)
              | (go_at_call 51; refine (HBIT.out _).mono ?_; rintro e X3 ⟨rfl, hb3⟩; have HK3 := Lib.hid (HK2.out.below hb3); have HO3 := Lib.hid (HO2.out.below hb3 HO2.out.lt); clear hb3 HK2 HO2 HBIT))
            refine region_drew (fun V => WkW w r s f z u k0 k1 g n o N N1 N2 V ∧ ∃ cs, Whole V O 87 cs) (by kernel_rfl) ⟨HK3.out.below (Below.drew (Below.refl _ _)), _, HO3.out.below (Below.drew (Below.refl _ _)) HO3.out.lt⟩ (fun hS => ?_)
            refine take 0 _ rfl (by kernel_rfl) (by kernel_rfl) (by kernel_rfl) (fun _ _ _ h => h) (by rfl) hS (by intro w _; go_simp; with_reducible rfl) ?_
            try simp only [Act.put, List.setIfInBounds_toArray, List.set_cons_zero, List.set_cons_succ]
            refine take 1 _ rfl (by kernel_rfl) (by kernel_rfl) (by kernel_rfl) (fun _ _ _ h => h) (by rfl) hS (by intro w _; go_simp; with_reducible rfl) ?_
            try simp only [Act.put, List.setIfInBounds_toArray, List.set_cons_zero, List.set_cons_succ]
            refine take 2 _ rfl (by kernel_rfl) (by kernel_rfl) (by kernel_rfl) (fun _ _ _ h => h) (by rfl) hS (by intro w _; go_simp; with_reducible rfl) ?_
            try simp only [Act.put, List.setIfInBounds_toArray, List.set_cons_zero, List.set_cons_succ]
            refine take 3 _ rfl (by kernel_rfl) (by kernel_rfl) (by kernel_rfl) (fun _ _ _ h => h) (by rfl) hS (by intro w _; go_simp; with_reducible rfl) ?_
            try simp only [Act.put, List.setIfInBounds_toArray, List.set_cons_zero, List.set_cons_succ]
            refine take 4 _ rfl (by kernel_rfl) (by kernel_rfl) (by kernel_rfl) (fun _ _ _ h => h) (by rfl) hS (by intro w _; go_simp; with_reducible rfl) ?_
            try simp only [Act.put, List.setIfInBounds_toArray, List.set_cons_zero, List.set_cons_succ]
            refine take 5 _ rfl (by kernel_rfl) (by kernel_rfl) (by kernel_rfl) (fun _ _ _ h => h) (by rfl) hS (by intro w _; go_simp; with_reducible rfl) ?_
            try simp only [Act.put, List.setIfInBounds_toArray, List.set_cons_zero, List.set_cons_succ]
            refine take 6 _ rfl (by kernel_rfl) (by kernel_rfl) (by kernel_rfl) (fun _ _ _ h => h) (by rfl) hS (by intro w hw; have hcl := hw.1.nd.kid1; go_simp; with_reducible rfl) ?_
            try simp only [Act.put, List.setIfInBounds_toArray, List.set_cons_zero, List.set_cons_succ]
            refine take 7 (.agg L) rfl (by kernel_rfl) (by kernel_rfl) (by kernel_rfl) (fun _ _ _ h => h) (by rfl) hS (fun w hw => run_load_in 38 (.tmp 3) rfl N rfl L 19 HRT.out (HOWN.out w hw.1).1 rfl rfl (by kernel_rfl)) ?_
            try simp only [Act.put, List.setIfInBounds_toArray, List.set_cons_zero, List.set_cons_succ]
            refine take 9 _ rfl (by kernel_rfl) (by kernel_rfl) (by kernel_rfl) (fun _ _ _ h => h) (by rfl) hS (by intro w _; go_simp; with_reducible rfl) ?_
            try simp only [Act.put, List.setIfInBounds_toArray, List.set_cons_zero, List.set_cons_succ]
            refine alone 8 rfl (by kernel_rfl) (by rfl) ?_
            intro K hK
            go_simp
            refine (HIH.out _ (HNN.out ▸ hS.1.bel)).mono ?_
            rintro e X4 ⟨r4, rfl, ht4, hb4⟩
            have hO4 : Whole X4 O 87 NL := (HO3.out.below (Below.drew (Below.refl _ _)) HO3.out.lt).below hb4 HO3.out.lt
            have hS4 : WkW w r s f z u k0 k1 g n o N N1 N2 X4 ∧ ∃ cs, Whole X4 O 87 cs := ⟨hS.1.below hb4, _, hO4⟩
            have HOL := Lib.hid (show O < X3.drew.heap.size from HO3.out.lt)
            have HXN := Lib.hid (show N ≤ X3.drew.heap.size from Nat.le_of_lt HK3.out.rt.lt)
            have HT4 := Lib.hid ht4
            generalize X3.drew.heap.size = XS at HOL HXN HT4
            go_simp
            refine hK.out _ _ hS4 ?_
            clear hK K hS ht4 hb4 HK3 HO3 HIH
            clear X3
            try simp only [Act.put, List.setIfInBounds_toArray, List.set_cons_zero, List.set_cons_succ]
            have hS := hS4
            refine take 10 _ rfl (by kernel_rfl) (by kernel_rfl) (by kernel_rfl) (fun _ _ _ h => h) (by rfl) hS (by intro w _; go_simp; with_reducible rfl) ?_
            try simp only [Act.put, List.setIfInBounds_toArray, List.set_cons_zero, List.set_cons_succ]
            clear hS
            refine alone 11 rfl (by kernel_rfl) (by rfl) ?_
            intro K hK
            have HO4 := Lib.hid hO4
            have HS4 := Lib.hid hS4
            have cO : X4.cell? ⟨O, 20, none⟩ = some (ptrV k1) := by rw [HO4.out.cell, ← HNL.out, List.getElem?_toArray]; exact (nod_kids _ _ _ _ _ _).2
            have fO := HO4.out.free 20
            clear hO4 hS4
            go_simp
            have HS5 := Lib.hid (show WkW w r s f z u k0 k1 g n o N N1 N2 (X4.setCell ⟨O, 20, none⟩ (ptrV (some r4))) ∧ ∃ cs, Whole (X4.setCell ⟨O, 20, none⟩ (ptrV (some r4))) O 87 cs from ⟨HS4.out.1.set HOG.out _ _, _, HO4.out.put _ _⟩)
            refine hK.out _ _ HS5.out ?_
            clear hK K cO fO
            try simp only [Act.put]
            refine region_end (by kernel_rfl) ?_
            have HEND := Lib.hid (show IsT (fun i => A i ∨ N ≤ i) (X4.setCell ⟨O, 20, none⟩ (ptrV (some r4))) s (Tr.ins (bs g n) o (.node (bs f z) u a b)) (some O) from by
              rw [HINS.out, hd]
              have hput := HO4.out.put 20 (ptrV (some r4))
              rw [← HNL.out, nod_set1] at hput
              have h0 := HT0.out.1 X4 (HNN.out ▸ HS4.out.1.bel)
              have hOA : ¬ (A O ∧ O < w.heap.size) := fun c => by have := HNN.out; have := HOG.out.1; omega
              have hOB : ¬ ((A O ∧ O < w.heap.size) ∨ XS ≤ O) := fun c => c.elim hOA (fun c => by have := HOL.out; omega)
              exact isT_node hput (.inr (by have := HOG.out.1; omega)) ((h0.1.set hOA _ _).mono fun i _ hi => .inl hi.1) ((HT4.out.set hOB _ _).mono fun i _ hi => hi.elim (fun c => .inl c.1) (fun c => .inr (by have := HXN.out; omega))) hf hrf hu)
            have HBE := Lib.hid HS5.out.1.bel
            clear HS5 HS4 HO4 HT4 HOL
            go_wp2_with fail
            go_ret
            exact ⟨_, rfl, by rw [HNN.out]; exact HEND.out, by rw [HNN.out]; exact HBE.out⟩
          | false =>
            have HIH := Lib.hid (fun X (hX : Below w.heap.size w X) => iha hok.2.2.1 _ X k0 (HT0.out.1 X hX).1)
            rw [HEQ3.out.1] at HIH
            have hbv2 : bitI s g (z : Int) = 0 := by rw [hbv, hd]; rfl
            rw [hbv2] at HBIT
            clear hbv
            go_upto_region 10 with (first
              | (refine wpList_load_mid rfl 27 (.tmp 48) rfl N2 0 rfl AL _ (HAR.out _ HK2.out) rfl rfl (by rw [HAL.out]; kernel_rfl) ?_)
              | (go_at_call 51; refine (HBIT.out _).mono ?_; rintro e X3 ⟨rfl, hb3⟩; have HK3 := Lib.hid (HK2.out.below hb3); have HO3 := Lib.hid (HO2.out.below hb3 HO2.out.lt); clear hb3 HK2 HO2 HBIT))
            refine region_drew (fun V => WkW w r s f z u k0 k1 g n o N N1 N2 V ∧ ∃ cs, Whole V O 87 cs) (by kernel_rfl) ⟨HK3.out.below (Below.drew (Below.refl _ _)), _, HO3.out.below (Below.drew (Below.refl _ _)) HO3.out.lt⟩ (fun hS => ?_)
            refine take 0 _ rfl (by kernel_rfl) (by kernel_rfl) (by kernel_rfl) (fun _ _ _ h => h) (by rfl) hS (by intro w _; go_simp; with_reducible rfl) ?_
            try simp only [Act.put, List.setIfInBounds_toArray, List.set_cons_zero, List.set_cons_succ]
            refine take 1 _ rfl (by kernel_rfl) (by kernel_rfl) (by kernel_rfl) (fun _ _ _ h => h) (by rfl) hS (by intro w _; go_simp; with_reducible rfl) ?_
            try simp only [Act.put, List.setIfInBounds_toArray, List.set_cons_zero, List.set_cons_succ]
            refine take 2 _ rfl (by kernel_rfl) (by kernel_rfl) (by kernel_rfl) (fun _ _ _ h => h) (by rfl) hS (by intro w _; go_simp; with_reducible rfl) ?_
            try simp only [Act.put, List.setIfInBounds_toArray, List.set_cons_zero, List.set_cons_succ]
            refine take 3 _ rfl (by kernel_rfl) (by kernel_rfl) (by kernel_rfl) (fun _ _ _ h => h) (by rfl) hS (by intro w _; go_simp; with_reducible rfl) ?_
            try simp only [Act.put, List.setIfInBounds_toArray, List.set_cons_zero, List.set_cons_succ]
            refine take 4 _ rfl (by kernel_rfl) (by kernel_rfl) (by kernel_rfl) (fun _ _ _ h => h) (by rfl) hS (by intro w _; go_simp; with_reducible rfl) ?_
            try simp only [Act.put, List.setIfInBounds_toArray, List.set_cons_zero, List.set_cons_succ]
            refine take 5 _ rfl (by kernel_rfl) (by kernel_rfl) (by kernel_rfl) (fun _ _ _ h => h) (by rfl) hS (by intro w _; go_simp; with_reducible rfl) ?_
            try simp only [Act.put, List.setIfInBounds_toArray, List.set_cons_zero, List.set_cons_succ]
            refine take 6 _ rfl (by kernel_rfl) (by kernel_rfl) (by kernel_rfl) (fun _ _ _ h => h) (by rfl) hS (by intro w hw; have hcl := hw.1.nd.kid0; go_simp; with_reducible rfl) ?_
            try simp only [Act.put, List.setIfInBounds_toArray, List.set_cons_zero, List.set_cons_succ]
            refine take 7 (.agg L) rfl (by kernel_rfl) (by kernel_rfl) (by kernel_rfl) (fun _ _ _ h => h) (by rfl) hS (fun w hw => run_load_in 38 (.tmp 3) rfl N rfl L 19 HRT.out (HOWN.out w hw.1).1 rfl rfl (by kernel_rfl)) ?_
            try simp only [Act.put, List.setIfInBounds_toArray, List.set_cons_zero, List.set_cons_succ]
            refine take 9 _ rfl (by kernel_rfl) (by kernel_rfl) (by kernel_rfl) (fun _ _ _ h => h) (by rfl) hS (by intro w _; go_simp; with_reducible rfl) ?_
            try simp only [Act.put, List.setIfInBounds_toArray, List.set_cons_zero, List.set_cons_succ]
            refine alone 8 rfl (by kernel_rfl) (by rfl) ?_
            intro K hK
            go_simp
            refine (HIH.out _ (HNN.out ▸ hS.1.bel)).mono ?_
            rintro e X4 ⟨r4, rfl, ht4, hb4⟩
            have hO4 : Whole X4 O 87 NL := (HO3.out.below (Below.drew (Below.refl _ _)) HO3.out.lt).below hb4 HO3.out.lt
            have hS4 : WkW w r s f z u k0 k1 g n o N N1 N2 X4 ∧ ∃ cs, Whole X4 O 87 cs := ⟨hS.1.below hb4, _, hO4⟩
            have HOL := Lib.hid (show O < X3.drew.heap.size from HO3.out.lt)
            have HXN := Lib.hid (show N ≤ X3.drew.heap.size from Nat.le_of_lt HK3.out.rt.lt)
            have HT4 := Lib.hid ht4
            generalize X3.drew.heap.size = XS at HOL HXN HT4
            go_simp
            refine hK.out _ _ hS4 ?_
            clear hK K hS ht4 hb4 HK3 HO3 HIH
            clear X3
            try simp only [Act.put, List.setIfInBounds_toArray, List.set_cons_zero, List.set_cons_succ]
            have hS := hS4
            refine take 10 _ rfl (by kernel_rfl) (by kernel_rfl) (by kernel_rfl) (fun _ _ _ h => h) (by rfl) hS (by intro w _; go_simp; with_reducible rfl) ?_
            try simp only [Act.put, List.setIfInBounds_toArray, List.set_cons_zero, List.set_cons_succ]
            clear hS
            refine alone 11 rfl (by kernel_rfl) (by rfl) ?_
            intro K hK
            have HO4 := Lib.hid hO4
            have HS4 := Lib.hid hS4
            have cO : X4.cell? ⟨O, 19, none⟩ = some (ptrV k0) := by rw [HO4.out.cell, ← HNL.out, List.getElem?_toArray]; exact (nod_kids _ _ _ _ _ _).1
            have fO := HO4.out.free 19
            clear hO4 hS4
            go_simp
            have HS5 := Lib.hid (show WkW w r s f z u k0 k1 g n o N N1 N2 (X4.setCell ⟨O, 19, none⟩ (ptrV (some r4))) ∧ ∃ cs, Whole (X4.setCell ⟨O, 19, none⟩ (ptrV (some r4))) O 87 cs from ⟨HS4.out.1.set HOG.out _ _, _, HO4.out.put _ _⟩)
            refine hK.out _ _ HS5.out ?_
            clear hK K cO fO
            try simp only [Act.put]
            refine region_end (by kernel_rfl) ?_
            have HEND := Lib.hid (show IsT (fun i => A i ∨ N ≤ i) (X4.setCell ⟨O, 19, none⟩ (ptrV (some r4))) s (Tr.ins (bs g n) o (.node (bs f z) u a b)) (some O) from by
              rw [HINS.out, hd]
              have hput := HO4.out.put 19 (ptrV (some r4))
              rw [← HNL.out, nod_set0] at hput
              have h0 := HT0.out.1 X4 (HNN.out ▸ HS4.out.1.bel)
              have hOA : ¬ (A O ∧ O < w.heap.size) := fun c => by have := HNN.out; have := HOG.out.1; omega
              have hOB : ¬ ((A O ∧ O < w.heap.size) ∨ XS ≤ O) := fun c => c.elim hOA (fun c => by have := HOL.out; omega)
              exact isT_node hput (.inr (by have := HOG.out.1; omega)) ((HT4.out.set hOB _ _).mono fun i _ hi => hi.elim (fun c => .inl c.1) (fun c => .inr (by have := HXN.out; omega))) ((h0.2.set hOA _ _).mono fun i _ hi => .inl hi.1) hf hrf hu)
            have HBE := Lib.hid HS5.out.1.bel
            clear HS5 HS4 HO4 HT4 HOL
            go_wp2_with fail
            go_ret
            exact ⟨_, rfl, by rw [HNN.out]; exact HEND.out, by rw [HNN.out]; exact HBE.out⟩
        · have h1' : ((c : Int) == (z : Int)) = false := by simp; omega
          have cn := (HBZ.out _ HK1.out).2
          by_cases h2 : c = n
          · rw [h2] at HC hcl hcr h1' ⊢
            have hnz : n < z := by omega
            clear cz cn
            have cz := (HBZ.out _ HK1.out).1
            have cn := (HBZ.out _ HK1.out).2
            have HINS := Lib.hid (show Tr.ins (bs g n) o (.node (bs f z) u a b) = if dig f n = true then .node (bs g n) o .nil (.node (bs f z) u a b) else .node (bs g n) o (.node (bs f z) u a b) .nil from by
              rw [Tr.ins, if_neg HNE.out, if_neg (by rw [HC.out, bs_length]; omega), if_pos (by rw [HC.out, bs_length]), HC.out, bs_getD f hnz])
            clear h1 h2
            have HBIT := Lib.hid (fun X => bit_any s f hf (n : Int) X)
            have hbv := bit_dig hzr.1 n (by omega)
            have HAL := Lib.hid (addrL_length s f)
            have HAR := Lib.hid (show ∀ X, WkW w r s f z u k0 k1 g n o N N1 N2 X → X.rangeAt N1 0 (addrL s f) from fun X h => pref_range h.own)
            obtain ⟨AL, hAL⟩ : ∃ AL, addrL s f = AL := ⟨_, rfl⟩
            rw [hAL] at HBIT HAL HAR
            have HNB := Lib.hid (nod_built0 s g n o)
            rw [HEQ3.out.1] at HNB
            obtain ⟨NL, hNL⟩ : ∃ NL, (nodL s g n o none none).toArray = NL := ⟨_, rfl⟩
            have HNL := Lib.hid hNL
            rw [hNL] at HNB
            clear hAL hNL
            go_upto_region 14 with (first
              | (refine wpList_load_row rfl 38 (.tmp 3) rfl N rfl 38 L (0, 0) _ (HOWN.out _ HK1.out).1 rfl rfl (by rw [HRT.out]; kernel_rfl) ?_)
              | (refine wpList_built1 rfl 87 0 (.tmp 68) rfl (.agg L) rfl NL HNB.out ?_))
            refine cut_world (fun X => WkW w r s f z u k0 k1 g n o N N1 N2 X ∧ Whole X X1.heap.size 87 NL) ⟨HK1.out.below (below_alloc (Below.refl _ _) _), Whole.new _ _ _⟩ ?_
            rintro X2 ⟨hk2, ho2⟩
            have HK2 := Lib.hid hk2
            have HO2 := Lib.hid ho2
            have HOG := Lib.hid (show N < X1.heap.size ∧ N1 < X1.heap.size ∧ N2 < X1.heap.size ∧ r < X1.heap.size from ⟨HK1.out.rt.lt, HK1.out.own.lt, HK1.out.p.lt, HK1.out.nd.row.lt⟩)
            generalize X1.heap.size = O at HO2 HOG ⊢
            clear hk2 ho2 HK1 cz cn
            clear X1
            cases hd : dig f n with
            | true =>
              have hbv2 : bitI s f (n : Int) = 1 := by rw [hbv, hd]; rfl
              rw [hbv2] at HBIT
              clear hbv
              refine region_drew (fun V => WkW w r s f z u k0 k1 g n o N N1 N2 V ∧ ∃ cs, Whole V O 87 cs) (by kernel_rfl) ⟨HK2.out.below (Below.drew (Below.refl _ _)), _, HO2.out.below (Below.drew (Below.refl _ _)) HO2.out.lt⟩ (fun hS => ?_)
              refine take 0 _ rfl (by kernel_rfl) (by kernel_rfl) (by kernel_rfl) (fun _ _ _ h => h) (by rfl) hS (by intro w _; go_simp; with_reducible rfl) ?_
              try simp only [Act.put, List.setIfInBounds_toArray, List.set_cons_zero, List.set_cons_succ]
              refine take 1 _ rfl (by kernel_rfl) (by kernel_rfl) (by kernel_rfl) (fun _ _ _ h => h) (by rfl) hS (by intro w _; go_simp; with_reducible rfl) ?_
              try simp only [Act.put, List.setIfInBounds_toArray, List.set_cons_zero, List.set_cons_succ]
              refine take 2 (.agg AL.toArray) rfl (by kernel_rfl) (by kernel_rfl) (by kernel_rfl) (fun _ _ _ h => h) (by rfl) hS (fun w hw => run_mid_in 27 (.tmp 72) rfl N1 0 rfl AL _ (HAR.out _ hw.1) rfl rfl (by rw [HAL.out]; kernel_rfl)) ?_
              try simp only [Act.put, List.setIfInBounds_toArray, List.set_cons_zero, List.set_cons_succ]
              refine take 3 _ rfl (by kernel_rfl) (by kernel_rfl) (by kernel_rfl) (fun _ _ _ h => h) (by rfl) hS (by intro w _; go_simp; with_reducible rfl) ?_
              try simp only [Act.put, List.setIfInBounds_toArray, List.set_cons_zero, List.set_cons_succ]
              refine take 5 _ rfl (by kernel_rfl) (by kernel_rfl) (by kernel_rfl) (fun _ _ _ h => h) (by rfl) hS (by intro w _; go_simp; with_reducible rfl) ?_
              try simp only [Act.put, List.setIfInBounds_toArray, List.set_cons_zero, List.set_cons_succ]
              refine take 6 _ rfl (by kernel_rfl) (by kernel_rfl) (by kernel_rfl) (fun _ _ _ h => h) (by rfl) hS (by intro w _; go_simp; with_reducible rfl) ?_
              try simp only [Act.put, List.setIfInBounds_toArray, List.set_cons_zero, List.set_cons_succ]
              refine take 7 _ rfl (by kernel_rfl) (by kernel_rfl) (by kernel_rfl) (fun _ _ _ h => h) (by rfl) hS (by intro w _; go_simp; with_reducible rfl) ?_
              try simp only [Act.put, List.setIfInBounds_toArray, List.set_cons_zero, List.set_cons_succ]
              refine alone 4 rfl (by kernel_rfl) (by rfl) ?_
              intro K hK
              go_simp
              refine (HBIT.out _).mono ?_
              rintro e X4 ⟨rfl, hb4⟩
              have hO4 : Whole X4 O 87 NL := (HO2.out.below (Below.drew (Below.refl _ _)) HO2.out.lt).below hb4 HO2.out.lt
              have hS4 : WkW w r s f z u k0 k1 g n o N N1 N2 X4 ∧ ∃ cs, Whole X4 O 87 cs := ⟨hS.1.below hb4, _, hO4⟩
              go_simp
              refine hK.out _ _ hS4 ?_
              clear hK K hS hb4 HK2 HO2 HBIT
              clear X2
              try simp only [Act.put, List.setIfInBounds_toArray, List.set_cons_zero, List.set_cons_succ]
              have hS := hS4
              refine take 8 _ rfl (by kernel_rfl) (by kernel_rfl) (by kernel_rfl) (fun _ _ _ h => h) (by rfl) hS (by intro w _; go_simp; with_reducible rfl) ?_
              try simp only [Act.put, List.setIfInBounds_toArray, List.set_cons_zero, List.set_cons_succ]
              clear hS
              refine alone 9 rfl (by kernel_rfl) (by rfl) ?_
              intro K hK
              have HO4 := Lib.hid hO4
              have HS4 := Lib.hid hS4
              have cO : X4.cell? ⟨O, 20, none⟩ = some (.pointer none) := by rw [HO4.out.cell, ← HNL.out, List.getElem?_toArray]; exact (nod_kids _ _ _ _ _ _).2
              have fO := HO4.out.free 20
              clear hO4 hS4
              go_simp
              have HS5 := Lib.hid (show WkW w r s f z u k0 k1 g n o N N1 N2 (X4.setCell ⟨O, 20, none⟩ (ptrV (some r))) ∧ ∃ cs, Whole (X4.setCell ⟨O, 20, none⟩ (ptrV (some r))) O 87 cs from ⟨HS4.out.1.set HOG.out _ _, _, HO4.out.put _ _⟩)
              refine hK.out _ _ HS5.out ?_
              clear hK K cO fO
              try simp only [Act.put]
              refine region_end (by kernel_rfl) ?_
              have HEND := Lib.hid (show IsT (fun i => A i ∨ N ≤ i) (X4.setCell ⟨O, 20, none⟩ (ptrV (some r))) s (Tr.ins (bs g n) o (.node (bs f z) u a b)) (some O) from by
                rw [HINS.out, hd]
                have hput := HO4.out.put 20 (ptrV (some r))
                rw [← HNL.out, nod_set1] at hput
                have h0 := HT0.out.1 X4 (HNN.out ▸ HS4.out.1.bel)
                have hOA : ¬ (A O ∧ O < w.heap.size) := fun c => by have := HNN.out; have := HOG.out.1; omega
                have hold := isT_node (A := fun i => A i ∨ N ≤ i) HS5.out.1.nd.row (.inl HT0.out.2.1) ((h0.1.set hOA _ _).mono fun i _ hi => .inl hi.1) ((h0.2.set hOA _ _).mono fun i _ hi => .inl hi.1) hf hrf hu
                exact isT_node hput (.inr (by have := HOG.out.1; omega)) rfl hold hg hr ho)
              have HBE := Lib.hid HS5.out.1.bel
              clear HS5 HS4 HO4
              go_wp2_with fail
              go_ret
              exact ⟨_, rfl, by rw [HNN.out]; exact HEND.out, by rw [HNN.out]; exact HBE.out⟩
            | false =>
              have hbv2 : bitI s f (n : Int) = 0 := by rw [hbv, hd]; rfl
              rw [hbv2] at HBIT
              clear hbv
              refine region_drew (fun V => WkW w r s f z u k0 k1 g n o N N1 N2 V ∧ ∃ cs, Whole V O 87 cs) (by kernel_rfl) ⟨HK2.out.below (Below.drew (Below.refl _ _)), _, HO2.out.below (Below.drew (Below.refl _ _)) HO2.out.lt⟩ (fun hS => ?_)
              refine take 0 _ rfl (by kernel_rfl) (by kernel_rfl) (by kernel_rfl) (fun _ _ _ h => h) (by rfl) hS (by intro w _; go_simp; with_reducible rfl) ?_
              try simp only [Act.put, List.setIfInBounds_toArray, List.set_cons_zero, List.set_cons_succ]
              refine take 1 _ rfl (by kernel_rfl) (by kernel_rfl) (by kernel_rfl) (fun _ _ _ h => h) (by rfl) hS (by intro w _; go_simp; with_reducible rfl) ?_
              try simp only [Act.put, List.setIfInBounds_toArray, List.set_cons_zero, List.set_cons_succ]
              refine take 2 (.agg AL.toArray) rfl (by kernel_rfl) (by kernel_rfl) (by kernel_rfl) (fun _ _ _ h => h) (by rfl) hS (fun w hw => run_mid_in 27 (.tmp 72) rfl N1 0 rfl AL _ (HAR.out _ hw.1) rfl rfl (by rw [HAL.out]; kernel_rfl)) ?_
              try simp only [Act.put, List.setIfInBounds_toArray, List.set_cons_zero, List.set_cons_succ]
              refine take 3 _ rfl (by kernel_rfl) (by kernel_rfl) (by kernel_rfl) (fun _ _ _ h => h) (by rfl) hS (by intro w _; go_simp; with_reducible rfl) ?_
              try simp only [Act.put, List.setIfInBounds_toArray, List.set_cons_zero, List.set_cons_succ]
              refine take 5 _ rfl (by kernel_rfl) (by kernel_rfl) (by kernel_rfl) (fun _ _ _ h => h) (by rfl) hS (by intro w _; go_simp; with_reducible rfl) ?_
              try simp only [Act.put, List.setIfInBounds_toArray, List.set_cons_zero, List.set_cons_succ]
              refine take 6 _ rfl (by kernel_rfl) (by kernel_rfl) (by kernel_rfl) (fun _ _ _ h => h) (by rfl) hS (by intro w _; go_simp; with_reducible rfl) ?_
              try simp only [Act.put, List.setIfInBounds_toArray, List.set_cons_zero, List.set_cons_succ]
              refine take 7 _ rfl (by kernel_rfl) (by kernel_rfl) (by kernel_rfl) (fun _ _ _ h => h) (by rfl) hS (by intro w _; go_simp; with_reducible rfl) ?_
              try simp only [Act.put, List.setIfInBounds_toArray, List.set_cons_zero, List.set_cons_succ]
              refine alone 4 rfl (by kernel_rfl) (by rfl) ?_
              intro K hK
              go_simp
              refine (HBIT.out _).mono ?_
              rintro e X4 ⟨rfl, hb4⟩
              have hO4 : Whole X4 O 87 NL := (HO2.out.below (Below.drew (Below.refl _ _)) HO2.out.lt).below hb4 HO2.out.lt
              have hS4 : WkW w r s f z u k0 k1 g n o N N1 N2 X4 ∧ ∃ cs, Whole X4 O 87 cs := ⟨hS.1.below hb4, _, hO4⟩
              go_simp
              refine hK.out _ _ hS4 ?_
              clear hK K hS hb4 HK2 HO2 HBIT
              clear X2
              try simp only [Act.put, List.setIfInBounds_toArray, List.set_cons_zero, List.set_cons_succ]
              have hS := hS4
              refine take 8 _ rfl (by kernel_rfl) (by kernel_rfl) (by kernel_rfl) (fun _ _ _ h => h) (by rfl) hS (by intro w _; go_simp; with_reducible rfl) ?_
              try simp only [Act.put, List.setIfInBounds_toArray, List.set_cons_zero, List.set_cons_succ]
              clear hS
              refine alone 9 rfl (by kernel_rfl) (by rfl) ?_
              intro K hK
              have HO4 := Lib.hid hO4
              have HS4 := Lib.hid hS4
              have cO : X4.cell? ⟨O, 19, none⟩ = some (.pointer none) := by rw [HO4.out.cell, ← HNL.out, List.getElem?_toArray]; exact (nod_kids _ _ _ _ _ _).1
              have fO := HO4.out.free 19
              clear hO4 hS4
              go_simp
              have HS5 := Lib.hid (show WkW w r s f z u k0 k1 g n o N N1 N2 (X4.setCell ⟨O, 19, none⟩ (ptrV (some r))) ∧ ∃ cs, Whole (X4.setCell ⟨O, 19, none⟩ (ptrV (some r))) O 87 cs from ⟨HS4.out.1.set HOG.out _ _, _, HO4.out.put _ _⟩)
              refine hK.out _ _ HS5.out ?_
              clear hK K cO fO
              try simp only [Act.put]
              refine region_end (by kernel_rfl) ?_
              have HEND := Lib.hid (show IsT (fun i => A i ∨ N ≤ i) (X4.setCell ⟨O, 19, none⟩ (ptrV (some r))) s (Tr.ins (bs g n) o (.node (bs f z) u a b)) (some O) from by
                rw [HINS.out, hd]
                have hput := HO4.out.put 19 (ptrV (some r))
                rw [← HNL.out, nod_set0] at hput
                have h0 := HT0.out.1 X4 (HNN.out ▸ HS4.out.1.bel)
                have hOA : ¬ (A O ∧ O < w.heap.size) := fun c => by have := HNN.out; have := HOG.out.1; omega
                have hold := isT_node (A := fun i => A i ∨ N ≤ i) HS5.out.1.nd.row (.inl HT0.out.2.1) ((h0.1.set hOA _ _).mono fun i _ hi => .inl hi.1) ((h0.2.set hOA _ _).mono fun i _ hi => .inl hi.1) hf hrf hu
                exact isT_node hput (.inr (by have := HOG.out.1; omega)) hold rfl hg hr ho)
              have HBE := Lib.hid HS5.out.1.bel
              clear HS5 HS4 HO4
              go_wp2_with fail
              go_ret
              exact ⟨_, rfl, by rw [HNN.out]; exact HEND.out, by rw [HNN.out]; exact HBE.out⟩
          · have h2' : ((c : Int) == (n : Int)) = false := by simp; omega
            have hcz : c < z := by omega
            have hcn : c < n := by omega
            have hup := cpl_unlike (u := bs f z) (v := bs g n) (by rw [HC.out, bs_length]; exact hcz) (by rw [HC.out, bs_length]; exact hcn)
            rw [HC.out, bs_getD f hcz, bs_getD g hcn] at hup
            have HUP := Lib.hid hup
            have HINS := Lib.hid (show Tr.ins (bs g n) o (.node (bs f z) u a b) = if dig g c = true then .node (bs g c) 0 (.node (bs f z) u a b) (.node (bs g n) o .nil .nil) else .node (bs g c) 0 (.node (bs g n) o .nil .nil) (.node (bs f z) u a b) from by
              rw [Tr.ins, if_neg HNE.out, if_neg (by rw [HC.out, bs_length]; exact h1), if_neg (by rw [HC.out, bs_length]; exact h2), HC.out, bs_getD g hcn, bs_take g (Nat.le_of_lt hcn)])
            have HMK := Lib.hid (fun X => mask_any s g hg (c : Int) (by omega) (by omega) X)
            rw [maskE_ok hnr.1 (by omega) (by omega), maskV_ok (maskE_ok hnr.1 (by omega) (by omega))] at HMK
            have HH := Lib.hid (show rightPB s (maskF (c : Int) g) (c : Int) = true ∧ bs (maskF (c : Int) g) c = bs g c ∧ ∀ i, maskF (c : Int) g i < 256 from ⟨rightP_mask hg hnr.1 (by omega) (by omega), by rw [mask_bs hg (Nat.le_of_lt hcn), bs_take g (Nat.le_of_lt hcn)], maskF_lt hg _⟩)
            generalize maskF (c : Int) g = h at HMK HH
            have HB1 := Lib.hid (pref_built2 s g (c : Int))
            have HB2 := Lib.hid (route_built1 s h (c : Int))
            have HB3 := Lib.hid (nod_built0 s h (c : Int) 0)
            have HAL := Lib.hid (addrL_length s g)
            have HAR := Lib.hid (show ∀ X, WkW w r s f z u k0 k1 g n o N N1 N2 X → X.rangeAt N2 0 (addrL s g) from fun X h => pref_range h.p)
            obtain ⟨AL, hAL⟩ : ∃ AL, addrL s g = AL := ⟨_, rfl⟩
            rw [hAL] at HAL HAR HB1
            obtain ⟨PC, hPC⟩ : ∃ PC, (prefL s g (c : Int)).toArray = PC := ⟨_, rfl⟩
            rw [hPC] at HB1 HMK
            have HPHS := Lib.hid (pref_size s h (c : Int))
            have HPHO := Lib.hid (pref_one s h (c : Int))
            obtain ⟨PH, hPH⟩ : ∃ PH, (prefL s h (c : Int)).toArray = PH := ⟨_, rfl⟩
            rw [hPH] at HB2 HMK HPHS HPHO
            obtain ⟨RH, hRH⟩ : ∃ RH, (routeL s h (c : Int) 0).toArray = RH := ⟨_, rfl⟩
            rw [hRH] at HB2 HB3
            obtain ⟨NL, hNL⟩ : ∃ NL, (nodL s h (c : Int) 0 none none).toArray = NL := ⟨_, rfl⟩
            have HNL := Lib.hid hNL
            rw [hNL] at HB3
            have hzp := zero_pref
            obtain ⟨Z, hZ⟩ : ∃ Z, (prefL false nought 0).toArray = Z := ⟨_, rfl⟩
            have HZS := Lib.hid (show Z.size = 18 by rw [← hZ]; exact pref_size _ _ _)
            rw [hZ] at hzp
            have HBITF := Lib.hid (fun X => bit_any s f hf (c : Int) X)
            have HBITG := Lib.hid (fun X => bit_any s g hg (c : Int) X)
            have hbf := bit_dig hzr.1 c (by omega)
            have hbg := bit_dig hnr.1 c (by omega)
            rw [hAL] at HBITG
            have HALF := Lib.hid (addrL_length s f)
            have HARF := Lib.hid (show ∀ X, WkW w r s f z u k0 k1 g n o N N1 N2 X → X.rangeAt N1 0 (addrL s f) from fun X h => pref_range h.own)
            obtain ⟨ALF, hALF⟩ : ∃ ALF, addrL s f = ALF := ⟨_, rfl⟩
            rw [hALF] at HBITF HALF HARF
            clear hALF
            clear hZ hNL hRH hPH hPC hAL hup h1 h2 hcl hcr
            go_upto_region 16 with fail
            clear cz cn
            go_cut [11] (fun t11 X => ∃ O1, t11 = .pointer (some ⟨O1, 0, none⟩) ∧ WkW w r s f z u k0 k1 g n o N N1 N2 X ∧ Whole X O1 29 PH)
            case first =>
              go_wp2_with (first
                | (refine wpList_load_mid rfl 27 (.tmp 82) rfl N2 0 rfl AL _ (HAR.out _ HK1.out) rfl rfl (by rw [HAL.out]; kernel_rfl) ?_)
                | (refine wpList_built2' rfl 29 0 1 (.tmp 83) (.tmp 84) rfl (.agg AL.toArray) (.int .i64 (c : Nat)) rfl rfl PC HB1.out ?_)
                | (go_at_call 34; refine (HMK.out _).mono ?_; rintro e X2 ⟨rfl, hb2⟩; have HK2 := Lib.hid (HK1.out.below hb2); clear hb2 HK1 HMK)
                | (refine wpList_store_row rfl 29 (.tmp 11) (.tmp 87) rfl X2.heap.size PH rfl rfl 29 _ (Whole.new _ _ _) (by rw [HPHS.out]; kernel_rfl) (by rw [HZS.out, HPHS.out]) HPHO.out ?_))
              go_meet
              exact ⟨X2.heap.size, rfl, HK2.out.below (below_setRow (below_alloc (Below.refl _ _) _) (Nat.le_refl _) _), setRow_heap _ _ _ _ _ _ (Whole.new _ _ _)⟩
            case rest =>
              obtain ⟨O1, rfl, hk2, ho1⟩ := hcut
              have HK2 := Lib.hid hk2
              have HO1' := Lib.hid ho1
              clear hk2 ho1 HK1 HMK hzp HZS
              have HLF := Lib.hid (nod_built0 s g n o)
              rw [HEQ3.out.1] at HLF
              obtain ⟨LF, hLF⟩ : ∃ LF, (nodL s g n o none none).toArray = LF := ⟨_, rfl⟩
              have HLFE := Lib.hid hLF
              rw [hLF] at HLF
              clear hLF
              go_upto_region 17 with fail
              apply wp_region_lit
              refine wpList_load_row rfl 29 (.tmp 11) rfl O1 rfl 29 PH (0, 0) _ HO1'.out rfl rfl (by rw [HPHS.out]; kernel_rfl) ?_
              try simp only [Act.put, List.setIfInBounds_toArray, List.set_cons_zero, List.set_cons_succ]
              refine wpList_built1 rfl 38 0 (.tmp 89) rfl (.agg PH) rfl RH HB2.out ?_
              try simp only [Act.put, List.setIfInBounds_toArray, List.set_cons_zero, List.set_cons_succ]
              refine wpList_built1 rfl 87 0 (.tmp 90) rfl (.agg RH) rfl NL HB3.out ?_
              try simp only [Act.put, List.setIfInBounds_toArray, List.set_cons_zero, List.set_cons_succ]
              go_upto_region 18 with fail
              refine cut_world (fun X => WkW w r s f z u k0 k1 g n o N N1 N2 X ∧ Whole X wc.heap.size 87 NL) ⟨HK2.out.below (below_alloc (Below.refl _ _) _), Whole.new _ _ _⟩ ?_
              rintro X3 ⟨hk3, ho3⟩
              have HK3 := Lib.hid hk3
              have HO3 := Lib.hid ho3
              have HOG := Lib.hid (show N < wc.heap.size ∧ N1 < wc.heap.size ∧ N2 < wc.heap.size ∧ r < wc.heap.size from ⟨HK2.out.rt.lt, HK2.out.own.lt, HK2.out.p.lt, HK2.out.nd.row.lt⟩)
              generalize wc.heap.size = O at HO3 HOG ⊢
              clear hk3 ho3 HK2 HO1'
              cases hd : dig g c with
              | true =>
                have hbg2 : bitI s g (c : Int) = 1 := by rw [hbg, hd]; rfl
                have hbf2 : bitI s f (c : Int) = 0 := by rw [hbf, HUP.out, hd]; rfl
                rw [hbg2] at HBITG
                rw [hbf2] at HBITF
                clear hbg hbf
                go_cut [] (fun X => ∃ M, WkW w r s f z u k0 k1 g n o N N1 N2 X ∧ Whole X O 87 (nodL s h (c : Int) 0 none (some M)).toArray ∧ Whole X M 87 LF ∧ O < M)
                case first =>
                  refine region_drew (fun V => WkW w r s f z u k0 k1 g n o N N1 N2 V ∧ ∃ cs, Whole V O 87 cs) (by kernel_rfl) ⟨HK3.out.below (Below.drew (Below.refl _ _)), _, HO3.out.below (Below.drew (Below.refl _ _)) HO3.out.lt⟩ (fun hS => ?_)
                  refine take 0 _ rfl (by kernel_rfl) (by kernel_rfl) (by kernel_rfl) (fun _ _ _ h => h) (by rfl) hS (by intro w _; go_simp; with_reducible rfl) ?_
                  try simp only [Act.put, List.setIfInBounds_toArray, List.set_cons_zero, List.set_cons_succ]
                  refine take 1 _ rfl (by kernel_rfl) (by kernel_rfl) (by kernel_rfl) (fun _ _ _ h => h) (by rfl) hS (by intro w _; go_simp; with_reducible rfl) ?_
                  try simp only [Act.put, List.setIfInBounds_toArray, List.set_cons_zero, List.set_cons_succ]
                  refine take 2 (.agg AL.toArray) rfl (by kernel_rfl) (by kernel_rfl) (by kernel_rfl) (fun _ _ _ h => h) (by rfl) hS (fun w hw => run_mid_in 27 (.tmp 94) rfl N2 0 rfl AL _ (HAR.out _ hw.1) rfl rfl (by rw [HAL.out]; kernel_rfl)) ?_
                  try simp only [Act.put, List.setIfInBounds_toArray, List.set_cons_zero, List.set_cons_succ]
                  refine take 3 _ rfl (by kernel_rfl) (by kernel_rfl) (by kernel_rfl) (fun _ _ _ h => h) (by rfl) hS (by intro w _; go_simp; with_reducible rfl) ?_
                  try simp only [Act.put, List.setIfInBounds_toArray, List.set_cons_zero, List.set_cons_succ]
                  refine take 5 (.agg L) rfl (by kernel_rfl) (by kernel_rfl) (by kernel_rfl) (fun _ _ _ h => h) (by rfl) hS (fun w hw => run_load_in 38 (.tmp 3) rfl N rfl L 19 HRT.out (HOWN.out w hw.1).1 rfl rfl (by kernel_rfl)) ?_
                  try simp only [Act.put, List.setIfInBounds_toArray, List.set_cons_zero, List.set_cons_succ]
                  refine take 6 (.agg LF) rfl (by kernel_rfl) (by kernel_rfl) (by kernel_rfl) (fun _ _ _ h => h) (by rfl) hS (fun w hw => run_built1 87 0 (.tmp 98) rfl (.agg L) rfl LF HLF.out) ?_
                  try simp only [Act.put, List.setIfInBounds_toArray, List.set_cons_zero, List.set_cons_succ]
                  refine take 8 _ rfl (by kernel_rfl) (by kernel_rfl) (by kernel_rfl) (fun _ _ _ h => h) (by rfl) hS (by intro w _; go_simp; with_reducible rfl) ?_
                  try simp only [Act.put, List.setIfInBounds_toArray, List.set_cons_zero, List.set_cons_succ]
                  refine take 9 _ rfl (by kernel_rfl) (by kernel_rfl) (by kernel_rfl) (fun _ _ _ h => h) (by rfl) hS (by intro w _; go_simp; with_reducible rfl) ?_
                  try simp only [Act.put, List.setIfInBounds_toArray, List.set_cons_zero, List.set_cons_succ]
                  refine ready_two 4 7 rfl rfl (by kernel_rfl) (by rfl) (by rfl) ?_ ?_
                  · intro K hK
                    go_simp
                    refine (HBITG.out _).mono ?_
                    rintro e X4 ⟨rfl, hb4⟩
                    have hO4 : Whole X4 O 87 NL := (HO3.out.below (Below.drew (Below.refl _ _)) HO3.out.lt).below hb4 HO3.out.lt
                    have hS4 : WkW w r s f z u k0 k1 g n o N N1 N2 X4 ∧ ∃ cs, Whole X4 O 87 cs := ⟨hS.1.below hb4, _, hO4⟩
                    go_simp
                    refine hK.out _ _ hS4 ?_
                    clear hK K hS hb4
                    try simp only [Act.put, List.setIfInBounds_toArray, List.set_cons_zero, List.set_cons_succ]
                    have hS := hS4
                    refine alone 7 rfl (by kernel_rfl) (by rfl) ?_
                    intro K hK
                    go_simp
                    have hS5 : WkW w r s f z u k0 k1 g n o N N1 N2 (X4.alloc (.cells LF 87)) ∧ ∃ cs, Whole (X4.alloc (.cells LF 87)) O 87 cs := ⟨hS4.1.below (below_alloc (Below.refl _ _) _), _, hO4.alloc _⟩
                    refine hK.out _ _ hS5 ?_
                    clear hK K hS
                    have HX5 := Lib.hid (show WkW w r s f z u k0 k1 g n o N N1 N2 (X4.alloc (.cells LF 87)) ∧ Whole (X4.alloc (.cells LF 87)) O 87 NL ∧ Whole (X4.alloc (.cells LF 87)) X4.heap.size 87 LF ∧ O < X4.heap.size from ⟨hS5.1, hO4.alloc _, Whole.new _ _ _, hO4.lt⟩)
                    generalize X4.alloc (.cells LF 87) = X5 at hS5 HX5 ⊢
                    generalize X4.heap.size = M at HX5 ⊢
                    clear hS4 hO4
                    clear X4
                    try simp only [Act.put, List.setIfInBounds_toArray, List.set_cons_zero, List.set_cons_succ]
                    have hS := hS5
                    refine take 10 _ rfl (by kernel_rfl) (by kernel_rfl) (by kernel_rfl) (fun _ _ _ h => h) (by rfl) hS (by intro w _; go_simp; with_reducible rfl) ?_
                    try simp only [Act.put, List.setIfInBounds_toArray, List.set_cons_zero, List.set_cons_succ]
                    clear hS
                    refine alone 11 rfl (by kernel_rfl) (by rfl) ?_
                    intro K hK
                    have cO : X5.cell? ⟨O, 20, none⟩ = some (.pointer none) := by rw [HX5.out.2.1.cell, ← HNL.out, List.getElem?_toArray]; exact (nod_kids _ _ _ _ _ _).2
                    have fO := HX5.out.2.1.free 20
                    go_simp
                    have HS6 := Lib.hid (show WkW w r s f z u k0 k1 g n o N N1 N2 (X5.setCell ⟨O, 20, none⟩ (ptrV (some M))) ∧ ∃ cs, Whole (X5.setCell ⟨O, 20, none⟩ (ptrV (some M))) O 87 cs from ⟨HX5.out.1.set HOG.out _ _, _, HX5.out.2.1.put _ _⟩)
                    refine hK.out _ _ HS6.out ?_
                    clear hK K cO fO
                    try simp only [Act.put]
                    refine region_end (by kernel_rfl) ?_
                    have hput := HX5.out.2.1.put 20 (ptrV (some M))
                    rw [← HNL.out, nod_set1] at hput
                    have HP6 := Lib.hid (show WkW w r s f z u k0 k1 g n o N N1 N2 (X5.setCell ⟨O, 20, none⟩ (ptrV (some M))) ∧ Whole (X5.setCell ⟨O, 20, none⟩ (ptrV (some M))) O 87 (nodL s h (c : Int) 0 none (some M)).toArray ∧ Whole (X5.setCell ⟨O, 20, none⟩ (ptrV (some M))) M 87 LF ∧ O < M from ⟨HS6.out.1, hput, whole_far HX5.out.2.2.1 (by have := HX5.out.2.2.2; omega) _ _, HX5.out.2.2.2⟩)
                    clear hput HS6 HX5 hS5
                    go_wp2_with fail
                    go_meet
                    exact ⟨M, HP6.out⟩
                  · intro K hK
                    go_simp
                    have hO4 : Whole ((X3.alloc (.cells LF 87)).drew) O 87 NL := (HO3.out.below (Below.drew (Below.refl _ _)) HO3.out.lt).alloc _
                    have hS4 : WkW w r s f z u k0 k1 g n o N N1 N2 ((X3.alloc (.cells LF 87)).drew) ∧ ∃ cs, Whole ((X3.alloc (.cells LF 87)).drew) O 87 cs := ⟨HK3.out.below (below_alloc (Below.drew (Below.refl _ _)) _), _, hO4⟩
                    have hM4 : Whole ((X3.alloc (.cells LF 87)).drew) X3.heap.size 87 LF := Whole.new X3.drew _ _
                    have hOM := HO3.out.lt
                    refine hK.out _ _ hS4 ?_
                    clear hK K hS
                    generalize (X3.alloc (.cells LF 87)).drew = X4 at hO4 hS4 hM4 ⊢
                    generalize X3.heap.size = M at hM4 hOM ⊢
                    try simp only [Act.put, List.setIfInBounds_toArray, List.set_cons_zero, List.set_cons_succ]
                    have hS := hS4
                    refine alone 4 rfl (by kernel_rfl) (by rfl) ?_
                    intro K hK
                    go_simp
                    refine (HBITG.out _).mono ?_
                    rintro e X5 ⟨rfl, hb5⟩
                    have hS5 : WkW w r s f z u k0 k1 g n o N N1 N2 X5 ∧ ∃ cs, Whole X5 O 87 cs := ⟨hS4.1.below hb5, _, hO4.below hb5 hO4.lt⟩
                    go_simp
                    refine hK.out _ _ hS5 ?_
                    clear hK K hS
                    have HX5 := Lib.hid (show WkW w r s f z u k0 k1 g n o N N1 N2 X5 ∧ Whole X5 O 87 NL ∧ Whole X5 M 87 LF ∧ O < M from ⟨hS5.1, hO4.below hb5 hO4.lt, hM4.below hb5 hM4.lt, hOM⟩)
                    clear hS4 hO4 hM4 hOM hb5
                    clear X4
                    try simp only [Act.put, List.setIfInBounds_toArray, List.set_cons_zero, List.set_cons_succ]
                    have hS := hS5
                    refine take 10 _ rfl (by kernel_rfl) (by kernel_rfl) (by kernel_rfl) (fun _ _ _ h => h) (by rfl) hS (by intro w _; go_simp; with_reducible rfl) ?_
                    try simp only [Act.put, List.setIfInBounds_toArray, List.set_cons_zero, List.set_cons_succ]
                    clear hS
                    refine alone 11 rfl (by kernel_rfl) (by rfl) ?_
                    intro K hK
                    have cO : X5.cell? ⟨O, 20, none⟩ = some (.pointer none) := by rw [HX5.out.2.1.cell, ← HNL.out, List.getElem?_toArray]; exact (nod_kids _ _ _ _ _ _).2
                    have fO := HX5.out.2.1.free 20
                    go_simp
                    have HS6 := Lib.hid (show WkW w r s f z u k0 k1 g n o N N1 N2 (X5.setCell ⟨O, 20, none⟩ (ptrV (some M))) ∧ ∃ cs, Whole (X5.setCell ⟨O, 20, none⟩ (ptrV (some M))) O 87 cs from ⟨HX5.out.1.set HOG.out _ _, _, HX5.out.2.1.put _ _⟩)
                    refine hK.out _ _ HS6.out ?_
                    clear hK K cO fO
                    try simp only [Act.put]
                    refine region_end (by kernel_rfl) ?_
                    have hput := HX5.out.2.1.put 20 (ptrV (some M))
                    rw [← HNL.out, nod_set1] at hput
                    have HP6 := Lib.hid (show WkW w r s f z u k0 k1 g n o N N1 N2 (X5.setCell ⟨O, 20, none⟩ (ptrV (some M))) ∧ Whole (X5.setCell ⟨O, 20, none⟩ (ptrV (some M))) O 87 (nodL s h (c : Int) 0 none (some M)).toArray ∧ Whole (X5.setCell ⟨O, 20, none⟩ (ptrV (some M))) M 87 LF ∧ O < M from ⟨HS6.out.1, hput, whole_far HX5.out.2.2.1 (by have := HX5.out.2.2.2; omega) _ _, HX5.out.2.2.2⟩)
                    clear hput HS6 HX5 hS5
                    go_wp2_with fail
                    go_meet
                    exact ⟨M, HP6.out⟩
                case rest =>
                  obtain ⟨M, hk4, hrow, hleaf, hOM⟩ := hcut
                  have HK4 := Lib.hid hk4
                  have HROW := Lib.hid hrow
                  have HLEAF := Lib.hid hleaf
                  have HOM := Lib.hid hOM
                  clear hk4 hrow hleaf hOM HK3 HO3 HBITG
                  go_upto_region 19 with fail
                  refine region_drew (fun V => WkW w r s f z u k0 k1 g n o N N1 N2 V ∧ ∃ cs, Whole V O 87 cs) (by kernel_rfl) ⟨HK4.out.below (Below.drew (Below.refl _ _)), _, HROW.out.below (Below.drew (Below.refl _ _)) HROW.out.lt⟩ (fun hS => ?_)
                  refine take 0 _ rfl (by kernel_rfl) (by kernel_rfl) (by kernel_rfl) (fun _ _ _ h => h) (by rfl) hS (by intro w _; go_simp; with_reducible rfl) ?_
                  try simp only [Act.put, List.setIfInBounds_toArray, List.set_cons_zero, List.set_cons_succ]
                  refine take 1 _ rfl (by kernel_rfl) (by kernel_rfl) (by kernel_rfl) (fun _ _ _ h => h) (by rfl) hS (by intro w _; go_simp; with_reducible rfl) ?_
                  try simp only [Act.put, List.setIfInBounds_toArray, List.set_cons_zero, List.set_cons_succ]
                  refine take 2 (.agg ALF.toArray) rfl (by kernel_rfl) (by kernel_rfl) (by kernel_rfl) (fun _ _ _ h => h) (by rfl) hS (fun w hw => run_mid_in 27 (.tmp 105) rfl N1 0 rfl ALF _ (HARF.out _ hw.1) rfl rfl (by rw [HALF.out]; kernel_rfl)) ?_
                  try simp only [Act.put, List.setIfInBounds_toArray, List.set_cons_zero, List.set_cons_succ]
                  refine take 3 _ rfl (by kernel_rfl) (by kernel_rfl) (by kernel_rfl) (fun _ _ _ h => h) (by rfl) hS (by intro w _; go_simp; with_reducible rfl) ?_
                  try simp only [Act.put, List.setIfInBounds_toArray, List.set_cons_zero, List.set_cons_succ]
                  refine take 5 _ rfl (by kernel_rfl) (by kernel_rfl) (by kernel_rfl) (fun _ _ _ h => h) (by rfl) hS (by intro w _; go_simp; with_reducible rfl) ?_
                  try simp only [Act.put, List.setIfInBounds_toArray, List.set_cons_zero, List.set_cons_succ]
                  refine take 6 _ rfl (by kernel_rfl) (by kernel_rfl) (by kernel_rfl) (fun _ _ _ h => h) (by rfl) hS (by intro w _; go_simp; with_reducible rfl) ?_
                  try simp only [Act.put, List.setIfInBounds_toArray, List.set_cons_zero, List.set_cons_succ]
                  refine take 7 _ rfl (by kernel_rfl) (by kernel_rfl) (by kernel_rfl) (fun _ _ _ h => h) (by rfl) hS (by intro w _; go_simp; with_reducible rfl) ?_
                  try simp only [Act.put, List.setIfInBounds_toArray, List.set_cons_zero, List.set_cons_succ]
                  refine alone 4 rfl (by kernel_rfl) (by rfl) ?_
                  intro K hK
                  go_simp
                  refine (HBITF.out _).mono ?_
                  rintro e X6 ⟨rfl, hb6⟩
                  have HR6 := Lib.hid (show Whole X6 O 87 (nodL s h (c : Int) 0 none (some M)).toArray from (HROW.out.below (Below.drew (Below.refl _ _)) HROW.out.lt).below hb6 HROW.out.lt)
                  have HL6 := Lib.hid (show Whole X6 M 87 LF from (HLEAF.out.below (Below.drew (Below.refl _ _)) HLEAF.out.lt).below hb6 HLEAF.out.lt)
                  have hS6 : WkW w r s f z u k0 k1 g n o N N1 N2 X6 ∧ ∃ cs, Whole X6 O 87 cs := ⟨hS.1.below hb6, _, HR6.out⟩
                  go_simp
                  refine hK.out _ _ hS6 ?_
                  clear hK K hS hb6 HK4 HROW HLEAF HBITF
                  try simp only [Act.put, List.setIfInBounds_toArray, List.set_cons_zero, List.set_cons_succ]
                  have hS := hS6
                  refine take 8 _ rfl (by kernel_rfl) (by kernel_rfl) (by kernel_rfl) (fun _ _ _ h => h) (by rfl) hS (by intro w _; go_simp; with_reducible rfl) ?_
                  try simp only [Act.put, List.setIfInBounds_toArray, List.set_cons_zero, List.set_cons_succ]
                  clear hS
                  refine alone 9 rfl (by kernel_rfl) (by rfl) ?_
                  intro K hK
                  have HS6 := Lib.hid hS6
                  have cO : X6.cell? ⟨O, 19, none⟩ = some (.pointer none) := by rw [HR6.out.cell, List.getElem?_toArray]; exact (nod_kids _ _ _ _ _ _).1
                  have fO := HR6.out.free 19
                  clear hS6
                  go_simp
                  have HS7 := Lib.hid (show WkW w r s f z u k0 k1 g n o N N1 N2 (X6.setCell ⟨O, 19, none⟩ (ptrV (some r))) ∧ ∃ cs, Whole (X6.setCell ⟨O, 19, none⟩ (ptrV (some r))) O 87 cs from ⟨HS6.out.1.set HOG.out _ _, _, HR6.out.put _ _⟩)
                  refine hK.out _ _ HS7.out ?_
                  clear hK K cO fO
                  try simp only [Act.put]
                  refine region_end (by kernel_rfl) ?_
                  have HEND := Lib.hid (show IsT (fun i => A i ∨ N ≤ i) (X6.setCell ⟨O, 19, none⟩ (ptrV (some r))) s (Tr.ins (bs g n) o (.node (bs f z) u a b)) (some O) from by
                    rw [HINS.out, hd]
                    have hput := HR6.out.put 19 (ptrV (some r))
                    rw [nod_set0] at hput
                    have h0 := HT0.out.1 X6 (HNN.out ▸ HS6.out.1.bel)
                    have hOA : ¬ (A O ∧ O < w.heap.size) := fun c => by have := HNN.out; have := HOG.out.1; omega
                    have hold := isT_node (A := fun i => A i ∨ N ≤ i) HS7.out.1.nd.row (.inl HT0.out.2.1) ((h0.1.set hOA _ _).mono fun i _ hi => .inl hi.1) ((h0.2.set hOA _ _).mono fun i _ hi => .inl hi.1) hf hrf hu
                    have hlf : Whole (X6.setCell ⟨O, 19, none⟩ (ptrV (some r))) M 87 (nodL s g n o none none).toArray := by rw [HLFE.out]; exact whole_far HL6.out (by have := HOM.out; omega) _ _
                    have hleaf := isT_node (A := fun i => A i ∨ N ≤ i) (a := .nil) (b := .nil) hlf (.inr (by have := HOG.out.1; have := HOM.out; omega)) rfl rfl hg hr ho
                    have hres := isT_node (A := fun i => A i ∨ N ≤ i) hput (.inr (by have := HOG.out.1; omega)) hold hleaf HH.out.2.2 HH.out.1 okI_zero
                    rw [HH.out.2.1] at hres
                    exact hres)
                  have HBE := Lib.hid HS7.out.1.bel
                  clear HS7 HS6 HR6 HL6
                  go_wp2_with fail
                  go_ret
                  exact ⟨_, rfl, by rw [HNN.out]; exact HEND.out, by rw [HNN.out]; exact HBE.out⟩

              | false =>
                have hbg2 : bitI s g (c : Int) = 0 := by rw [hbg, hd]; rfl
                have hbf2 : bitI s f (c : Int) = 1 := by rw [hbf, HUP.out, hd]; rfl
                rw [hbg2] at HBITG
                rw [hbf2] at HBITF
                clear hbg hbf
                go_cut [] (fun X => ∃ M, WkW w r s f z u k0 k1 g n o N N1 N2 X ∧ Whole X O 87 (nodL s h (c : Int) 0 (some M) none).toArray ∧ Whole X M 87 LF ∧ O < M)
                case first =>
                  refine region_drew (fun V => WkW w r s f z u k0 k1 g n o N N1 N2 V ∧ ∃ cs, Whole V O 87 cs) (by kernel_rfl) ⟨HK3.out.below (Below.drew (Below.refl _ _)), _, HO3.out.below (Below.drew (Below.refl _ _)) HO3.out.lt⟩ (fun hS => ?_)
                  refine take 0 _ rfl (by kernel_rfl) (by kernel_rfl) (by kernel_rfl) (fun _ _ _ h => h) (by rfl) hS (by intro w _; go_simp; with_reducible rfl) ?_
                  try simp only [Act.put, List.setIfInBounds_toArray, List.set_cons_zero, List.set_cons_succ]
                  refine take 1 _ rfl (by kernel_rfl) (by kernel_rfl) (by kernel_rfl) (fun _ _ _ h => h) (by rfl) hS (by intro w _; go_simp; with_reducible rfl) ?_
                  try simp only [Act.put, List.setIfInBounds_toArray, List.set_cons_zero, List.set_cons_succ]
                  refine take 2 (.agg AL.toArray) rfl (by kernel_rfl) (by kernel_rfl) (by kernel_rfl) (fun _ _ _ h => h) (by rfl) hS (fun w hw => run_mid_in 27 (.tmp 94) rfl N2 0 rfl AL _ (HAR.out _ hw.1) rfl rfl (by rw [HAL.out]; kernel_rfl)) ?_
                  try simp only [Act.put, List.setIfInBounds_toArray, List.set_cons_zero, List.set_cons_succ]
                  refine take 3 _ rfl (by kernel_rfl) (by kernel_rfl) (by kernel_rfl) (fun _ _ _ h => h) (by rfl) hS (by intro w _; go_simp; with_reducible rfl) ?_
                  try simp only [Act.put, List.setIfInBounds_toArray, List.set_cons_zero, List.set_cons_succ]
                  refine take 5 (.agg L) rfl (by kernel_rfl) (by kernel_rfl) (by kernel_rfl) (fun _ _ _ h => h) (by rfl) hS (fun w hw => run_load_in 38 (.tmp 3) rfl N rfl L 19 HRT.out (HOWN.out w hw.1).1 rfl rfl (by kernel_rfl)) ?_
                  try simp only [Act.put, List.setIfInBounds_toArray, List.set_cons_zero, List.set_cons_succ]
                  refine take 6 (.agg LF) rfl (by kernel_rfl) (by kernel_rfl) (by kernel_rfl) (fun _ _ _ h => h) (by rfl) hS (fun w hw => run_built1 87 0 (.tmp 98) rfl (.agg L) rfl LF HLF.out) ?_
                  try simp only [Act.put, List.setIfInBounds_toArray, List.set_cons_zero, List.set_cons_succ]
                  refine take 8 _ rfl (by kernel_rfl) (by kernel_rfl) (by kernel_rfl) (fun _ _ _ h => h) (by rfl) hS (by intro w _; go_simp; with_reducible rfl) ?_
                  try simp only [Act.put, List.setIfInBounds_toArray, List.set_cons_zero, List.set_cons_succ]
                  refine take 9 _ rfl (by kernel_rfl) (by kernel_rfl) (by kernel_rfl) (fun _ _ _ h => h) (by rfl) hS (by intro w _; go_simp; with_reducible rfl) ?_
                  try simp only [Act.put, List.setIfInBounds_toArray, List.set_cons_zero, List.set_cons_succ]
                  refine ready_two 4 7 rfl rfl (by kernel_rfl) (by rfl) (by rfl) ?_ ?_
                  · intro K hK
                    go_simp
                    refine (HBITG.out _).mono ?_
                    rintro e X4 ⟨rfl, hb4⟩
                    have hO4 : Whole X4 O 87 NL := (HO3.out.below (Below.drew (Below.refl _ _)) HO3.out.lt).below hb4 HO3.out.lt
                    have hS4 : WkW w r s f z u k0 k1 g n o N N1 N2 X4 ∧ ∃ cs, Whole X4 O 87 cs := ⟨hS.1.below hb4, _, hO4⟩
                    go_simp
                    refine hK.out _ _ hS4 ?_
                    clear hK K hS hb4
                    try simp only [Act.put, List.setIfInBounds_toArray, List.set_cons_zero, List.set_cons_succ]
                    have hS := hS4
                    refine alone 7 rfl (by kernel_rfl) (by rfl) ?_
                    intro K hK
                    go_simp
                    have hS5 : WkW w r s f z u k0 k1 g n o N N1 N2 (X4.alloc (.cells LF 87)) ∧ ∃ cs, Whole (X4.alloc (.cells LF 87)) O 87 cs := ⟨hS4.1.below (below_alloc (Below.refl _ _) _), _, hO4.alloc _⟩
                    refine hK.out _ _ hS5 ?_
                    clear hK K hS
                    have HX5 := Lib.hid (show WkW w r s f z u k0 k1 g n o N N1 N2 (X4.alloc (.cells LF 87)) ∧ Whole (X4.alloc (.cells LF 87)) O 87 NL ∧ Whole (X4.alloc (.cells LF 87)) X4.heap.size 87 LF ∧ O < X4.heap.size from ⟨hS5.1, hO4.alloc _, Whole.new _ _ _, hO4.lt⟩)
                    generalize X4.alloc (.cells LF 87) = X5 at hS5 HX5 ⊢
                    generalize X4.heap.size = M at HX5 ⊢
                    clear hS4 hO4
                    clear X4
                    try simp only [Act.put, List.setIfInBounds_toArray, List.set_cons_zero, List.set_cons_succ]
                    have hS := hS5
                    refine take 10 _ rfl (by kernel_rfl) (by kernel_rfl) (by kernel_rfl) (fun _ _ _ h => h) (by rfl) hS (by intro w _; go_simp; with_reducible rfl) ?_
                    try simp only [Act.put, List.setIfInBounds_toArray, List.set_cons_zero, List.set_cons_succ]
                    clear hS
                    refine alone 11 rfl (by kernel_rfl) (by rfl) ?_
                    intro K hK
                    have cO : X5.cell? ⟨O, 19, none⟩ = some (.pointer none) := by rw [HX5.out.2.1.cell, ← HNL.out, List.getElem?_toArray]; exact (nod_kids _ _ _ _ _ _).1
                    have fO := HX5.out.2.1.free 19
                    go_simp
                    have HS6 := Lib.hid (show WkW w r s f z u k0 k1 g n o N N1 N2 (X5.setCell ⟨O, 19, none⟩ (ptrV (some M))) ∧ ∃ cs, Whole (X5.setCell ⟨O, 19, none⟩ (ptrV (some M))) O 87 cs from ⟨HX5.out.1.set HOG.out _ _, _, HX5.out.2.1.put _ _⟩)
                    refine hK.out _ _ HS6.out ?_
                    clear hK K cO fO
                    try simp only [Act.put]
                    refine region_end (by kernel_rfl) ?_
                    have hput := HX5.out.2.1.put 19 (ptrV (some M))
                    rw [← HNL.out, nod_set0] at hput
                    have HP6 := Lib.hid (show WkW w r s f z u k0 k1 g n o N N1 N2 (X5.setCell ⟨O, 19, none⟩ (ptrV (some M))) ∧ Whole (X5.setCell ⟨O, 19, none⟩ (ptrV (some M))) O 87 (nodL s h (c : Int) 0 (some M) none).toArray ∧ Whole (X5.setCell ⟨O, 19, none⟩ (ptrV (some M))) M 87 LF ∧ O < M from ⟨HS6.out.1, hput, whole_far HX5.out.2.2.1 (by have := HX5.out.2.2.2; omega) _ _, HX5.out.2.2.2⟩)
                    clear hput HS6 HX5 hS5
                    go_wp2_with fail
                    go_meet
                    exact ⟨M, HP6.out⟩
                  · intro K hK
                    go_simp
                    have hO4 : Whole ((X3.alloc (.cells LF 87)).drew) O 87 NL := (HO3.out.below (Below.drew (Below.refl _ _)) HO3.out.lt).alloc _
                    have hS4 : WkW w r s f z u k0 k1 g n o N N1 N2 ((X3.alloc (.cells LF 87)).drew) ∧ ∃ cs, Whole ((X3.alloc (.cells LF 87)).drew) O 87 cs := ⟨HK3.out.below (below_alloc (Below.drew (Below.refl _ _)) _), _, hO4⟩
                    have hM4 : Whole ((X3.alloc (.cells LF 87)).drew) X3.heap.size 87 LF := Whole.new X3.drew _ _
                    have hOM := HO3.out.lt
                    refine hK.out _ _ hS4 ?_
                    clear hK K hS
                    generalize (X3.alloc (.cells LF 87)).drew = X4 at hO4 hS4 hM4 ⊢
                    generalize X3.heap.size = M at hM4 hOM ⊢
                    try simp only [Act.put, List.setIfInBounds_toArray, List.set_cons_zero, List.set_cons_succ]
                    have hS := hS4
                    refine alone 4 rfl (by kernel_rfl) (by rfl) ?_
                    intro K hK
                    go_simp
                    refine (HBITG.out _).mono ?_
                    rintro e X5 ⟨rfl, hb5⟩
                    have hS5 : WkW w r s f z u k0 k1 g n o N N1 N2 X5 ∧ ∃ cs, Whole X5 O 87 cs := ⟨hS4.1.below hb5, _, hO4.below hb5 hO4.lt⟩
                    go_simp
                    refine hK.out _ _ hS5 ?_
                    clear hK K hS
                    have HX5 := Lib.hid (show WkW w r s f z u k0 k1 g n o N N1 N2 X5 ∧ Whole X5 O 87 NL ∧ Whole X5 M 87 LF ∧ O < M from ⟨hS5.1, hO4.below hb5 hO4.lt, hM4.below hb5 hM4.lt, hOM⟩)
                    clear hS4 hO4 hM4 hOM hb5
                    clear X4
                    try simp only [Act.put, List.setIfInBounds_toArray, List.set_cons_zero, List.set_cons_succ]
                    have hS := hS5
                    refine take 10 _ rfl (by kernel_rfl) (by kernel_rfl) (by kernel_rfl) (fun _ _ _ h => h) (by rfl) hS (by intro w _; go_simp; with_reducible rfl) ?_
                    try simp only [Act.put, List.setIfInBounds_toArray, List.set_cons_zero, List.set_cons_succ]
                    clear hS
                    refine alone 11 rfl (by kernel_rfl) (by rfl) ?_
                    intro K hK
                    have cO : X5.cell? ⟨O, 19, none⟩ = some (.pointer none) := by rw [HX5.out.2.1.cell, ← HNL.out, List.getElem?_toArray]; exact (nod_kids _ _ _ _ _ _).1
                    have fO := HX5.out.2.1.free 19
                    go_simp
                    have HS6 := Lib.hid (show WkW w r s f z u k0 k1 g n o N N1 N2 (X5.setCell ⟨O, 19, none⟩ (ptrV (some M))) ∧ ∃ cs, Whole (X5.setCell ⟨O, 19, none⟩ (ptrV (some M))) O 87 cs from ⟨HX5.out.1.set HOG.out _ _, _, HX5.out.2.1.put _ _⟩)
                    refine hK.out _ _ HS6.out ?_
                    clear hK K cO fO
                    try simp only [Act.put]
                    refine region_end (by kernel_rfl) ?_
                    have hput := HX5.out.2.1.put 19 (ptrV (some M))
                    rw [← HNL.out, nod_set0] at hput
                    have HP6 := Lib.hid (show WkW w r s f z u k0 k1 g n o N N1 N2 (X5.setCell ⟨O, 19, none⟩ (ptrV (some M))) ∧ Whole (X5.setCell ⟨O, 19, none⟩ (ptrV (some M))) O 87 (nodL s h (c : Int) 0 (some M) none).toArray ∧ Whole (X5.setCell ⟨O, 19, none⟩ (ptrV (some M))) M 87 LF ∧ O < M from ⟨HS6.out.1, hput, whole_far HX5.out.2.2.1 (by have := HX5.out.2.2.2; omega) _ _, HX5.out.2.2.2⟩)
                    clear hput HS6 HX5 hS5
                    go_wp2_with fail
                    go_meet
                    exact ⟨M, HP6.out⟩
                case rest =>
                  obtain ⟨M, hk4, hrow, hleaf, hOM⟩ := hcut
                  have HK4 := Lib.hid hk4
                  have HROW := Lib.hid hrow
                  have HLEAF := Lib.hid hleaf
                  have HOM := Lib.hid hOM
                  clear hk4 hrow hleaf hOM HK3 HO3 HBITG
                  go_upto_region 19 with fail
                  refine region_drew (fun V => WkW w r s f z u k0 k1 g n o N N1 N2 V ∧ ∃ cs, Whole V O 87 cs) (by kernel_rfl) ⟨HK4.out.below (Below.drew (Below.refl _ _)), _, HROW.out.below (Below.drew (Below.refl _ _)) HROW.out.lt⟩ (fun hS => ?_)
                  refine take 0 _ rfl (by kernel_rfl) (by kernel_rfl) (by kernel_rfl) (fun _ _ _ h => h) (by rfl) hS (by intro w _; go_simp; with_reducible rfl) ?_
                  try simp only [Act.put, List.setIfInBounds_toArray, List.set_cons_zero, List.set_cons_succ]
                  refine take 1 _ rfl (by kernel_rfl) (by kernel_rfl) (by kernel_rfl) (fun _ _ _ h => h) (by rfl) hS (by intro w _; go_simp; with_reducible rfl) ?_
                  try simp only [Act.put, List.setIfInBounds_toArray, List.set_cons_zero, List.set_cons_succ]
                  refine take 2 (.agg ALF.toArray) rfl (by kernel_rfl) (by kernel_rfl) (by kernel_rfl) (fun _ _ _ h => h) (by rfl) hS (fun w hw => run_mid_in 27 (.tmp 105) rfl N1 0 rfl ALF _ (HARF.out _ hw.1) rfl rfl (by rw [HALF.out]; kernel_rfl)) ?_
                  try simp only [Act.put, List.setIfInBounds_toArray, List.set_cons_zero, List.set_cons_succ]
                  refine take 3 _ rfl (by kernel_rfl) (by kernel_rfl) (by kernel_rfl) (fun _ _ _ h => h) (by rfl) hS (by intro w _; go_simp; with_reducible rfl) ?_
                  try simp only [Act.put, List.setIfInBounds_toArray, List.set_cons_zero, List.set_cons_succ]
                  refine take 5 _ rfl (by kernel_rfl) (by kernel_rfl) (by kernel_rfl) (fun _ _ _ h => h) (by rfl) hS (by intro w _; go_simp; with_reducible rfl) ?_
                  try simp only [Act.put, List.setIfInBounds_toArray, List.set_cons_zero, List.set_cons_succ]
                  refine take 6 _ rfl (by kernel_rfl) (by kernel_rfl) (by kernel_rfl) (fun _ _ _ h => h) (by rfl) hS (by intro w _; go_simp; with_reducible rfl) ?_
                  try simp only [Act.put, List.setIfInBounds_toArray, List.set_cons_zero, List.set_cons_succ]
                  refine take 7 _ rfl (by kernel_rfl) (by kernel_rfl) (by kernel_rfl) (fun _ _ _ h => h) (by rfl) hS (by intro w _; go_simp; with_reducible rfl) ?_
                  try simp only [Act.put, List.setIfInBounds_toArray, List.set_cons_zero, List.set_cons_succ]
                  refine alone 4 rfl (by kernel_rfl) (by rfl) ?_
                  intro K hK
                  go_simp
                  refine (HBITF.out _).mono ?_
                  rintro e X6 ⟨rfl, hb6⟩
                  have HR6 := Lib.hid (show Whole X6 O 87 (nodL s h (c : Int) 0 (some M) none).toArray from (HROW.out.below (Below.drew (Below.refl _ _)) HROW.out.lt).below hb6 HROW.out.lt)
                  have HL6 := Lib.hid (show Whole X6 M 87 LF from (HLEAF.out.below (Below.drew (Below.refl _ _)) HLEAF.out.lt).below hb6 HLEAF.out.lt)
                  have hS6 : WkW w r s f z u k0 k1 g n o N N1 N2 X6 ∧ ∃ cs, Whole X6 O 87 cs := ⟨hS.1.below hb6, _, HR6.out⟩
                  go_simp
                  refine hK.out _ _ hS6 ?_
                  clear hK K hS hb6 HK4 HROW HLEAF HBITF
                  try simp only [Act.put, List.setIfInBounds_toArray, List.set_cons_zero, List.set_cons_succ]
                  have hS := hS6
                  refine take 8 _ rfl (by kernel_rfl) (by kernel_rfl) (by kernel_rfl) (fun _ _ _ h => h) (by rfl) hS (by intro w _; go_simp; with_reducible rfl) ?_
                  try simp only [Act.put, List.setIfInBounds_toArray, List.set_cons_zero, List.set_cons_succ]
                  clear hS
                  refine alone 9 rfl (by kernel_rfl) (by rfl) ?_
                  intro K hK
                  have HS6 := Lib.hid hS6
                  have cO : X6.cell? ⟨O, 20, none⟩ = some (.pointer none) := by rw [HR6.out.cell, List.getElem?_toArray]; exact (nod_kids _ _ _ _ _ _).2
                  have fO := HR6.out.free 20
                  clear hS6
                  go_simp
                  have HS7 := Lib.hid (show WkW w r s f z u k0 k1 g n o N N1 N2 (X6.setCell ⟨O, 20, none⟩ (ptrV (some r))) ∧ ∃ cs, Whole (X6.setCell ⟨O, 20, none⟩ (ptrV (some r))) O 87 cs from ⟨HS6.out.1.set HOG.out _ _, _, HR6.out.put _ _⟩)
                  refine hK.out _ _ HS7.out ?_
                  clear hK K cO fO
                  try simp only [Act.put]
                  refine region_end (by kernel_rfl) ?_
                  have HEND := Lib.hid (show IsT (fun i => A i ∨ N ≤ i) (X6.setCell ⟨O, 20, none⟩ (ptrV (some r))) s (Tr.ins (bs g n) o (.node (bs f z) u a b)) (some O) from by
                    rw [HINS.out, hd]
                    have hput := HR6.out.put 20 (ptrV (some r))
                    rw [nod_set1] at hput
                    have h0 := HT0.out.1 X6 (HNN.out ▸ HS6.out.1.bel)
                    have hOA : ¬ (A O ∧ O < w.heap.size) := fun c => by have := HNN.out; have := HOG.out.1; omega
                    have hold := isT_node (A := fun i => A i ∨ N ≤ i) HS7.out.1.nd.row (.inl HT0.out.2.1) ((h0.1.set hOA _ _).mono fun i _ hi => .inl hi.1) ((h0.2.set hOA _ _).mono fun i _ hi => .inl hi.1) hf hrf hu
                    have hlf : Whole (X6.setCell ⟨O, 20, none⟩ (ptrV (some r))) M 87 (nodL s g n o none none).toArray := by rw [HLFE.out]; exact whole_far HL6.out (by have := HOM.out; omega) _ _
                    have hleaf := isT_node (A := fun i => A i ∨ N ≤ i) (a := .nil) (b := .nil) hlf (.inr (by have := HOG.out.1; have := HOM.out; omega)) rfl rfl hg hr ho
                    have hres := isT_node (A := fun i => A i ∨ N ≤ i) hput (.inr (by have := HOG.out.1; omega)) hleaf hold HH.out.2.2 HH.out.1 okI_zero
                    rw [HH.out.2.1] at hres
                    exact hres)
                  have HBE := Lib.hid HS7.out.1.bel
                  clear HS7 HS6 HR6 HL6
                  go_wp2_with fail
                  go_ret
                  exact ⟨_, rfl, by rw [HNN.out]; exact HEND.out, by rw [HNN.out]; exact HBE.out⟩

end Tri
end Go.Proofs.Ytcpfchfhcfdcpaa
