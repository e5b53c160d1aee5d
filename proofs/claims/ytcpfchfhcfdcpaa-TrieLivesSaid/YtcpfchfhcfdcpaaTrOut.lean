/- Package trie: without. -/
import Derived.Test.YtcpfchfhcfdcpaaTrWith
namespace Go.Proofs.Ytcpfchfhcfdcpaa
namespace Tri
open Go.ChangeShapes Go.WideShapes Go.ChangeAt Go.RowKit
open Num Mem Words Chacha Aead Poly Quiet Ops Adr

theorem isT_nil {A : Nat → Prop} {w : World} {s : Bool} {t : Tr} {q : Option Nat} (h : IsT A w s t q) : t.isNil = true ↔ q = none := by
  cases t with
  | nil =>
    have hq : q = none := h
    exact ⟨fun _ => hq, fun _ => rfl⟩
  | node p o a b =>
    obtain ⟨r, f, k0, k1, rfl, _⟩ := h
    exact ⟨(fun e => by cases e), (fun e => by cases e)⟩
def bothK (u : Int) (k0 k1 : Option Nat) (O : Nat) : Option Nat := if u = 0 ∧ (k0 = none ∨ k1 = none) then (if k0 = none then k1 else k0) else some O
theorem isT_both {A : Nat → Prop} {X : World} {O : Nat} {s : Bool} {f : Nat → Nat} {z : Nat} {u : Int} {a b : Tr} {k0 k1 : Option Nat} (h : Whole X O 87 (nodL s f z u k0 k1).toArray) (hA : A O) (ta : IsT A X s a k0) (tb : IsT A X s b k1) (hf : ∀ i, f i < 256) (hr : rightPB s f (z : Int) = true) (hu : okI u) : IsT A X s (Tr.both (bs f z) u a b) (bothK u k0 k1 O) := by
  have na := isT_nil ta
  have nb := isT_nil tb
  unfold Tr.both bothK
  by_cases h1 : u = 0 ∧ (k0 = none ∨ k1 = none)
  · rw [if_pos h1, if_pos (show u = 0 ∧ (a.isNil = true ∨ b.isNil = true) from ⟨h1.1, h1.2.elim (fun c => .inl (na.2 c)) (fun c => .inr (nb.2 c))⟩)]
    by_cases h2 : k0 = none
    · rw [if_pos h2, if_pos (na.2 h2)]; exact tb
    · rw [if_neg h2, if_neg (fun c => h2 (na.1 c))]; exact ta
  · rw [if_neg h1, if_neg (fun c => h1 ⟨c.1, c.2.elim (fun c => .inl (na.1 c)) (fun c => .inr (nb.1 c))⟩)]
    exact isT_node h hA ta tb hf hr hu
theorem wp_store_ptr {P : Program} {op : Oper} {a : Act} {w : World} {K : Act → World → Prop} {Q : Exit → Act → World → Prop} (ty : TypeId) (x y : Operand) (ho : op.op = .store ty x y) (b o : Nat) (k : Option Nat) (c : Value)
    (hx : a.eval x = .pointer (some ⟨b, o, none⟩)) (hy : a.eval y = ptrV k) (hi : (P.info? ty).map (·.size) = some 1) (hc : w.cell? ⟨b, o, none⟩ = some c) (hf : w.frozen? ⟨b, o, none⟩ = false) (h : K (a.put op.dst undef) (w.setCell ⟨b, o, none⟩ (ptrV k))) : op.wp P a w K Q := by
  cases hq : P.info? ty with
  | none => simp [hq] at hi
  | some i =>
    have hs : i.size = 1 := by simpa [hq] using hi
    have hst := run_store P w ⟨b, o, none⟩ (ptrV k) .plain (ptr_one k)
    rw [hc, hf] at hst
    have hcs : (ptrV k).cells = #[ptrV k] := by cases k <;> rfl
    unfold Oper.wp execOp
    simp only [ho, hx, hy, Instr.storeAt, Instr.sureAddr, Sem.run_bind, Sem.run_pure, Result.andThen_ok]
    simp [storeVar, sizeOf, typeInfo, hq, hcs, hs, storeCells]
    rw [show (Addr.mk b o none).add 0 = ⟨b, o, none⟩ from rfl, hst]
    exact h
/-- where the prefix is that is there -/
theorem way {f g : Nat → Nat} {z n : Nat} {u : Int} {a b : Tr} (hok : (Tr.node (bs f z) u a b).Ok) (hne : bs f z ≠ bs g n) (hm : ∃ o, (bs g n, o) ∈ (Tr.node (bs f z) u a b).toL) : z < n ∧ ((dig g z = true ∧ ∃ o, (bs g n, o) ∈ b.toL) ∨ (dig g z = false ∧ ∃ o, (bs g n, o) ∈ a.toL)) := by
  obtain ⟨o, hm⟩ := hm
  have k : ∀ c : Bool, (bs f z ++ [c]) <+: bs g n → z < n ∧ dig g z = c := by
    intro c hc
    have h1 := hc.length_le
    rw [List.length_append, List.length_singleton, bs_length, bs_length] at h1
    refine ⟨by omega, ?_⟩
    have h2 := getD_pre hc (i := z) (by rw [List.length_append, List.length_singleton, bs_length]; omega)
    rw [bs_getD g (by omega)] at h2
    rw [← h2]
    simp [List.getD, bs_length]
  rcases mem_node.1 hm with ⟨_, h⟩ | h | h
  · exact absurd (congrArg Prod.fst h).symm hne
  · have h3 := k _ (toL_under hok.2.2.1 hok.1 _ h)
    exact ⟨h3.1, .inr ⟨h3.2, o, h⟩⟩
  · have h3 := k _ (toL_under hok.2.2.2 hok.2.1 _ h)
    exact ⟨h3.1, .inl ⟨h3.2, o, h⟩⟩
theorem nod_setO (s : Bool) (f : Nat → Nat) (z o : Int) (k0 k1 : Option Nat) (o' : Int) : (nodL s f z o k0 k1).toArray.setIfInBounds 18 (.int .i64 o') = (nodL s f z o' k0 k1).toArray := by
  rw [List.setIfInBounds_toArray]
  unfold nodL
  rw [List.set_append_left _ _ (by rw [routeL_length]; omega)]
  unfold routeL
  rw [List.set_append_right _ _ (by rw [prefL_length]; omega), prefL_length]
  rfl
/-- the world of without -/
structure WoW (w : World) (r : Nat) (s : Bool) (f : Nat → Nat) (z : Nat) (u : Int) (k0 k1 : Option Nat) (g : Nat → Nat) (n : Nat) (N : Nat) (X : World) : Prop where
  nd : Nod X r s f z u k0 k1
  p : Whole X N 29 (prefL s g n).toArray
  bel : Below N w X
theorem WoW.below {w : World} {r : Nat} {s : Bool} {f : Nat → Nat} {z : Nat} {u : Int} {k0 k1 : Option Nat} {g : Nat → Nat} {n : Nat} {N : Nat} {X Y : World} (h : WoW w r s f z u k0 k1 g n N X) (hb : Below X.heap.size X Y) : WoW w r s f z u k0 k1 g n N Y :=
  ⟨⟨h.nd.row.below hb h.nd.row.lt⟩, h.p.below hb h.p.lt, h.bel.trans (hb.mono (Nat.le_of_lt h.p.lt))⟩
theorem WoW.set {w : World} {r : Nat} {s : Bool} {f : Nat → Nat} {z : Nat} {u : Int} {k0 k1 : Option Nat} {g : Nat → Nat} {n : Nat} {N : Nat} {X : World} (h : WoW w r s f z u k0 k1 g n N X) {O : Nat} (hO : N < O ∧ r < O) (i : Nat) (v : Value) : WoW w r s f z u k0 k1 g n N (X.setCell ⟨O, i, none⟩ v) :=
  ⟨⟨whole_far h.nd.row (by omega) _ _⟩, whole_far h.p (by omega) _ _, h.bel.setCell (p := ⟨O, i, none⟩) (by show N ≤ O; omega) v⟩
set_option maxRecDepth 100000 in
set_option maxHeartbeats 40000000 in
theorem without_any (s : Bool) (g : Nat → Nat) (n : Nat) (hg : ∀ i, g i < 256) (hr : rightPB s g (n : Int) = true) : ∀ (t : Tr), t.Ok → (∃ o, (bs g n, o) ∈ t.toL) → ∀ (A : Nat → Prop) (w : World) (q : Option Nat), IsT A w s t q →
    Calls Try.prog 52 #[ptrV q, .agg (prefL s g n).toArray] w fun e w' => ∃ k, e = .returned (ptrV k) ∧ IsT (fun i => A i ∨ w.heap.size ≤ i) w' s (t.del (bs g n)) k ∧ Below w.heap.size w w' := by
  intro t
  induction t with
  | nil =>
    intro _ hm
    obtain ⟨o, hm⟩ := hm
    cases hm
  | node p u a b iha ihb =>
    intro hok hm A w q hT
    obtain ⟨r, f, k0, k1, rfl, hAr, hf, hrf, hbs, hu, hw, hta, htb⟩ := hT
    obtain ⟨z, hz⟩ : ∃ z, p.length = z := ⟨_, rfl⟩
    rw [hz] at hrf hbs hw
    subst hbs
    have HPF := Lib.hid (prefL_length s f (z : Int))
    have HPG := Lib.hid (prefL_length s g (n : Int))
    have H0 := Lib.hid (show Nod w r s f z u k0 k1 from ⟨hw⟩)
    have HT0 := Lib.hid (show (∀ X, Below w.heap.size w X → IsT (fun i => A i ∧ i < w.heap.size) X s a k0 ∧ IsT (fun i => A i ∧ i < w.heap.size) X s b k1) ∧ A r ∧ r < w.heap.size from ⟨fun X hX => ⟨(hta.keep (fun i _ ha hi => ⟨⟨ha, hi.lt⟩, hi⟩) : IsT (fun i => A i ∧ i < w.heap.size) w s a k0).below hX, (htb.keep (fun i _ ha hi => ⟨⟨ha, hi.lt⟩, hi⟩) : IsT (fun i => A i ∧ i < w.heap.size) w s b k1).below hX⟩, hAr, hw.lt⟩)
    have HWK := Lib.hid (show ∀ (X : World), Nod X r s f z u k0 k1 → Whole X w.heap.size 29 (prefL s g n).toArray → Below w.heap.size w X → WoW w r s f z u k0 k1 g n w.heap.size X from fun X h1 h2 h3 => ⟨h1, h2, h3⟩)
    have HND := Lib.hid (show ∀ (X : World), Nod X r s f z u k0 k1 → X.rangeAt r 0 (prefL s f z) from fun X h => h.pref)
    obtain ⟨PF, hPF⟩ : ∃ PF, prefL s f (z : Int) = PF := ⟨_, rfl⟩
    obtain ⟨PG, hPG⟩ : ∃ PG, prefL s g (n : Int) = PG := ⟨_, rfl⟩
    have HPGE := Lib.hid hPG
    have HPFE := Lib.hid hPF
    rw [hPF] at HPF HND
    rw [hPG] at HPG HWK ⊢
    clear hPF hPG hw hta htb hAr
    have HNLS := Lib.hid (show (nodL s f z u k0 k1).toArray.size = 21 by rw [List.size_toArray, nodL_length])
    have HNLO := Lib.hid (show (nodL s f z u k0 k1).toArray.all (·.oneCell') = true by rw [List.all_toArray, List.all_eq_true]; exact nod_each _ _ _ _ _ _)
    obtain ⟨NL, hNL⟩ : ∃ NL, (nodL s f z u k0 k1).toArray = NL := ⟨_, rfl⟩
    have HNL := Lib.hid hNL
    rw [hNL] at HNLS HNLO
    clear hNL
    have hzn0 := zero_node
    obtain ⟨Z2, hZ2⟩ : ∃ Z2, (nodL false nought 0 0 none none).toArray = Z2 := ⟨_, rfl⟩
    have HZ2S := Lib.hid (show Z2.size = 21 by rw [← hZ2, List.size_toArray, nodL_length])
    rw [hZ2] at hzn0
    clear hZ2
    show Calls Try.prog _ #[.pointer (some ⟨r, 0, none⟩), _] _ _
    go_enter Try.func52, Try.ntmps52
    go_upto_region 1 with fail
    refine cut_world (fun X => WoW w r s f z u k0 k1 g n w.heap.size X) (HWK.out _ ⟨H0.out.row.alloc _⟩ (Whole.new _ _ _) (below_alloc (Below.refl _ _) _)) ?_
    rintro W hW
    have HW := Lib.hid hW
    clear hW H0 HWK
    obtain ⟨N, hNN⟩ : ∃ N, w.heap.size = N := ⟨_, rfl⟩
    have HNN := Lib.hid hNN
    rw [hNN] at HW ⊢
    clear hNN
    go_upto_region 2 with (first
      | (refine wpList_load_row rfl 87 (.tmp 8) rfl r rfl 87 NL (0, 0) _ (HNL.out ▸ HW.out.nd.row) rfl rfl (by rw [HNLS.out]; kernel_rfl) ?_)
      | (refine wpList_store_row rfl 87 (.tmp 5) (.tmp 9) rfl W.heap.size NL rfl rfl 87 _ (Whole.new _ _ _) (by rw [HNLS.out]; kernel_rfl) (by rw [HZ2S.out, HNLS.out]) HNLO.out ?_))
    try simp only [Act.put]
    refine cut_world (fun X => WoW w r s f z u k0 k1 g n N X ∧ Whole X W.heap.size 87 NL) ⟨HW.out.below (below_setRow (below_alloc (Below.refl _ _) _) (Nat.le_refl _) _), setRow_heap _ _ _ _ _ _ (Whole.new _ _ _)⟩ ?_
    rintro X2 ⟨hk2, ho2⟩
    have HK2 := Lib.hid hk2
    have HO2 := Lib.hid ho2
    have HOG := Lib.hid (show N < W.heap.size ∧ r < W.heap.size from ⟨HW.out.p.lt, HW.out.nd.row.lt⟩)
    generalize W.heap.size = O at HO2 HOG ⊢
    clear hk2 ho2 HW hzn0 HZ2S
    clear W
    have hzr := right_parts hrf
    have hnr := right_parts hr
    have hdd := digits_le s
    have HEQP := Lib.hid (fun X => eqin_pref 9996 s s f g (z : Int) (n : Int) hf hg (decide (bs f z = bs g n)) (by
      rw [decide_eq_true_eq, ← right_eq hf hg hrf hr]
      constructor
      · rintro ⟨h1, h2⟩; exact ⟨⟨rfl, h1⟩, by omega⟩
      · rintro ⟨⟨_, h1⟩, h2⟩; exact ⟨h1, by omega⟩) X)
    rw [HPFE.out, HPGE.out] at HEQP
    have HDEL := Lib.hid (show Tr.del (bs g n) (.node (bs f z) u a b) = if bs f z = bs g n then .both (bs f z) 0 a b else if (bs g n).getD (bs f z).length false = true then .both (bs f z) u a (b.del (bs g n)) else .both (bs f z) u (a.del (bs g n)) b from rfl)
    obtain ⟨EQ, hEQ⟩ : ∃ EQ, decide (bs f z = bs g n) = EQ := ⟨_, rfl⟩
    rw [hEQ] at HEQP
    have HEQD := Lib.hid hEQ
    clear hEQ
    refine region_drew (fun V => WoW w r s f z u k0 k1 g n N V) (by kernel_rfl) (HK2.out.below (Below.drew (Below.refl _ _))) (fun hS => ?_)
    refine take 0 _ rfl (by kernel_rfl) (by kernel_rfl) (by kernel_rfl) (fun _ _ _ h => h) (by rfl) hS (by intro w _; go_simp; with_reducible rfl) ?_
    try simp only [Act.put, List.setIfInBounds_toArray, List.set_cons_zero, List.set_cons_succ]
    refine take 1 _ rfl (by kernel_rfl) (by kernel_rfl) (by kernel_rfl) (fun _ _ _ h => h) (by rfl) hS (by intro w _; go_simp; with_reducible rfl) ?_
    try simp only [Act.put, List.setIfInBounds_toArray, List.set_cons_zero, List.set_cons_succ]
    refine take 2 _ rfl (by kernel_rfl) (by kernel_rfl) (by kernel_rfl) (fun _ _ _ h => h) (by rfl) hS (by intro w _; go_simp; with_reducible rfl) ?_
    try simp only [Act.put, List.setIfInBounds_toArray, List.set_cons_zero, List.set_cons_succ]
    refine take 3 _ rfl (by kernel_rfl) (by kernel_rfl) (by kernel_rfl) (fun _ _ _ h => h) (by rfl) hS (by intro w _; go_simp; with_reducible rfl) ?_
    try simp only [Act.put, List.setIfInBounds_toArray, List.set_cons_zero, List.set_cons_succ]
    refine take 4 (.agg PF.toArray) rfl (by kernel_rfl) (by kernel_rfl) (by kernel_rfl) (fun _ _ _ h => h) (by rfl) hS (fun w hw => run_mid_in 29 (.tmp 13) rfl r 0 rfl PF _ (HND.out w hw.nd) rfl rfl (by rw [HPF.out]; kernel_rfl)) ?_
    try simp only [Act.put, List.setIfInBounds_toArray, List.set_cons_zero, List.set_cons_succ]
    refine take 5 (.agg PG.toArray) rfl (by kernel_rfl) (by kernel_rfl) (by kernel_rfl) (fun _ _ _ h => h) (by rfl) hS (fun w hw => run_load_in 29 (.tmp 3) rfl N rfl PG.toArray 18 (by rw [List.size_toArray, HPG.out]) (HPGE.out ▸ hw.p) rfl rfl (by kernel_rfl)) ?_
    try simp only [Act.put, List.setIfInBounds_toArray, List.set_cons_zero, List.set_cons_succ]
    refine take 6 (.bool EQ) rfl (by kernel_rfl) (by kernel_rfl) (by kernel_rfl) (fun _ _ _ h => h) (by rfl) hS (fun w hw => Ops.run_eql_op 29 (.tmp 14) (.tmp 15) 29 rfl PF.toArray PG.toArray rfl rfl EQ (by kernel_rfl) HEQP.out _) ?_
    try simp only [Act.put, List.setIfInBounds_toArray, List.set_cons_zero, List.set_cons_succ]
    refine region_end (by kernel_rfl) ?_
    clear hS HEQP
    have HK2 := Lib.hid (HK2.out.below (Below.drew (Below.refl _ _)))
    have HO2 := Lib.hid (HO2.out.below (Below.drew (Below.refl _ _)) HO2.out.lt)
    generalize X2.drew = X2 at HK2 HO2 ⊢
    by_cases heq : bs f z = bs g n
    · have hE : EQ = true := by rw [← HEQD.out]; exact decide_eq_true heq
      subst hE
      rw [if_pos heq] at HDEL
      clear heq
      have cO : X2.cell? ⟨O, 18, none⟩ = some (.int .i64 u) := by rw [HO2.out.cell, ← HNL.out]; exact (Nod.mk (w := X2) (r := O) (HNL.out ▸ HO2.out)).own ▸ (by rw [(HNL.out ▸ HO2.out : Whole X2 O 87 (nodL s f z u k0 k1).toArray).cell])
      have fO := HO2.out.free 18
      go_upto_region 6 with fail
      have hput := HO2.out.put 18 (.int .i64 0)
      rw [← HNL.out, nod_setO] at hput
      have HS3 := Lib.hid (HK2.out.set HOG.out 18 (.int .i64 0))
      have HROW := Lib.hid hput
      have HEND := Lib.hid (show IsT (fun i => A i ∨ w.heap.size ≤ i) (X2.setCell ⟨O, 18, none⟩ (.int .i64 0)) s (Tr.del (bs g n) (.node (bs f z) u a b)) (bothK 0 k0 k1 O) from by
        rw [HDEL.out]
        have h0 := HT0.out.1 _ (HNN.out ▸ HS3.out.bel)
        rw [HNN.out] at h0 ⊢
        exact isT_both hput (.inr (by have := HOG.out.1; omega)) (h0.1.mono fun i _ hi => .inl hi.1) (h0.2.mono fun i _ hi => .inl hi.1) hf hrf okI_zero)
      have HBE := Lib.hid (show Below w.heap.size w (X2.setCell ⟨O, 18, none⟩ (.int .i64 0)) from HNN.out ▸ HS3.out.bel)
      clear HS3 hput cO fO HK2 HO2
      generalize X2.setCell ⟨O, 18, none⟩ (.int .i64 0) = X5 at HROW HEND HBE ⊢
      -- HROW: Whole X O (nodL s f z (0 : Int) k0 k1); HEND: the trie that comes; HBE
      have HIS := Lib.hid (isRoute_any (w := X5) (r := O) (s := s) (f := f) (z := z) (o := (0 : Int)) (k0 := k0) (k1 := k1) ⟨HROW.out⟩)
      have c0 := (Nod.mk HROW.out).kid0
      have c1 := (Nod.mk HROW.out).kid1
      clear HROW
      by_cases hu0 : (0 : Int) = 0
      · rw [decide_eq_false (fun c => c hu0)] at HIS
        cases hk0 : k0 with
        | none =>
          have HQ := Lib.hid (show bothK (0 : Int) k0 k1 O = k1 from by unfold bothK; rw [if_pos ⟨hu0, .inl hk0⟩, if_pos hk0])
          rw [hk0] at c0
          replace c0 : (X5).cell? ⟨O, 19, none⟩ = some (.pointer none) := c0
          clear hu0 hk0
          go_wp2_with (go_at_call 42; refine HIS.out.mono ?_; clear HIS; rintro e X9 ⟨rfl, rfl⟩)
          go_ret
          exact ⟨k1, rfl, HQ.out ▸ HEND.out, HBE.out⟩
        | some j0 =>
          cases hk1 : k1 with
          | none =>
            have HQ := Lib.hid (show bothK (0 : Int) k0 k1 O = k0 from by unfold bothK; rw [if_pos ⟨hu0, .inr hk1⟩, if_neg (by rw [hk0]; exact fun c => by cases c)])
            rw [hk0] at c0
            rw [hk1] at c1
            replace c0 : (X5).cell? ⟨O, 19, none⟩ = some (.pointer (some ⟨j0, 0, none⟩)) := c0
            replace c1 : (X5).cell? ⟨O, 20, none⟩ = some (.pointer none) := c1
            clear hu0 hk1
            go_wp2_with (go_at_call 42; refine HIS.out.mono ?_; clear HIS; rintro e X9 ⟨rfl, rfl⟩)
            go_ret
            exact ⟨k0, by rw [hk0]; rfl, HQ.out ▸ HEND.out, HBE.out⟩
          | some j1 =>
            have HQ := Lib.hid (show bothK (0 : Int) k0 k1 O = some O from by unfold bothK; rw [if_neg]; rw [hk0, hk1]; exact fun c => c.2.elim (fun c => by cases c) (fun c => by cases c))
            rw [hk0] at c0
            rw [hk1] at c1
            replace c0 : (X5).cell? ⟨O, 19, none⟩ = some (.pointer (some ⟨j0, 0, none⟩)) := c0
            replace c1 : (X5).cell? ⟨O, 20, none⟩ = some (.pointer (some ⟨j1, 0, none⟩)) := c1
            clear hu0 hk0 hk1
            go_wp2_with (go_at_call 42; refine HIS.out.mono ?_; clear HIS; rintro e X9 ⟨rfl, rfl⟩)
            go_ret
            exact ⟨some O, rfl, HQ.out ▸ HEND.out, HBE.out⟩
      · rw [decide_eq_true hu0] at HIS
        have HQ := Lib.hid (show bothK (0 : Int) k0 k1 O = some O from by unfold bothK; rw [if_neg (fun c => hu0 c.1)])
        clear hu0 c0 c1
        go_wp2_with (go_at_call 42; refine HIS.out.mono ?_; clear HIS; rintro e X9 ⟨rfl, rfl⟩)
        go_ret
        exact ⟨some O, rfl, HQ.out ▸ HEND.out, HBE.out⟩
    · have hE : EQ = false := by rw [← HEQD.out]; exact decide_eq_false heq
      subst hE
      obtain ⟨hzn, hway⟩ := way hok heq hm
      rw [if_neg heq, bs_length, bs_getD g hzn] at HDEL
      clear heq hm
      have HBIT := Lib.hid (fun X => bit_any s g hg (z : Int) X)
      have hbv := bit_dig hnr.1 z (by omega)
      have HAL := Lib.hid (addrL_length s g)
      have HAR := Lib.hid (show ∀ X, WoW w r s f z u k0 k1 g n N X → X.rangeAt N 0 (addrL s g) from fun X h => pref_range h.p)
      obtain ⟨AL, hAL⟩ : ∃ AL, addrL s g = AL := ⟨_, rfl⟩
      rw [hAL] at HBIT HAL HAR
      clear hAL
      go_upto_region 4 with fail
      rcases hway with ⟨hd, hm⟩ | ⟨hd, hm⟩
      · skip
        have HIH := Lib.hid (fun X (hX : Below w.heap.size w X) => ihb hok.2.2.2 hm _ X k1 (HT0.out.1 X hX).2)
        rw [HPGE.out] at HIH
        have hbv2 : bitI s g (z : Int) = 1 := by rw [hbv, hd]; rfl
        rw [hbv2] at HBIT
        clear hbv
        refine region_drew (fun V => WoW w r s f z u k0 k1 g n N V ∧ ∃ cs, Whole V O 87 cs) (by kernel_rfl) ⟨HK2.out.below (Below.drew (Below.refl _ _)), _, HO2.out.below (Below.drew (Below.refl _ _)) HO2.out.lt⟩ (fun hS => ?_)
        refine take 0 _ rfl (by kernel_rfl) (by kernel_rfl) (by kernel_rfl) (fun _ _ _ h => h) (by rfl) hS (by intro w _; go_simp; with_reducible rfl) ?_
        try simp only [Act.put, List.setIfInBounds_toArray, List.set_cons_zero, List.set_cons_succ]
        refine take 1 (.agg AL.toArray) rfl (by kernel_rfl) (by kernel_rfl) (by kernel_rfl) (fun _ _ _ h => h) (by rfl) hS (fun w hw => run_mid_in 27 (.tmp 19) rfl N 0 rfl AL _ (HAR.out _ hw.1) rfl rfl (by rw [HAL.out]; kernel_rfl)) ?_
        try simp only [Act.put, List.setIfInBounds_toArray, List.set_cons_zero, List.set_cons_succ]
        refine take 2 _ rfl (by kernel_rfl) (by kernel_rfl) (by kernel_rfl) (fun _ _ _ h => h) (by rfl) hS (by intro w _; go_simp; with_reducible rfl) ?_
        try simp only [Act.put, List.setIfInBounds_toArray, List.set_cons_zero, List.set_cons_succ]
        refine take 3 _ rfl (by kernel_rfl) (by kernel_rfl) (by kernel_rfl) (fun _ _ _ h => h) (by rfl) hS (by intro w _; go_simp; with_reducible rfl) ?_
        try simp only [Act.put, List.setIfInBounds_toArray, List.set_cons_zero, List.set_cons_succ]
        refine take 4 _ rfl (by kernel_rfl) (by kernel_rfl) (by kernel_rfl) (fun _ _ _ h => h) (by rfl) hS (by intro w _; go_simp; with_reducible rfl) ?_
        try simp only [Act.put, List.setIfInBounds_toArray, List.set_cons_zero, List.set_cons_succ]
        refine take 5 _ rfl (by kernel_rfl) (by kernel_rfl) (by kernel_rfl) (fun _ _ _ h => h) (by rfl) hS (by intro w _; go_simp; with_reducible rfl) ?_
        try simp only [Act.put, List.setIfInBounds_toArray, List.set_cons_zero, List.set_cons_succ]
        refine take 6 _ rfl (by kernel_rfl) (by kernel_rfl) (by kernel_rfl) (fun _ _ _ h => h) (by rfl) hS (by intro w _; go_simp; with_reducible rfl) ?_
        try simp only [Act.put, List.setIfInBounds_toArray, List.set_cons_zero, List.set_cons_succ]
        refine take 7 _ rfl (by kernel_rfl) (by kernel_rfl) (by kernel_rfl) (fun _ _ _ h => h) (by rfl) hS (by intro w hw; have hcl := hw.1.nd.bits; go_simp; with_reducible rfl) ?_
        try simp only [Act.put, List.setIfInBounds_toArray, List.set_cons_zero, List.set_cons_succ]
        refine alone 8 rfl (by kernel_rfl) (by rfl) ?_
        intro K hK
        go_simp
        refine (HBIT.out _).mono ?_
        rintro e X3 ⟨rfl, hb3⟩
        have hO3 : Whole X3 O 87 NL := (HO2.out.below (Below.drew (Below.refl _ _)) HO2.out.lt).below hb3 HO2.out.lt
        have hS3 : WoW w r s f z u k0 k1 g n N X3 ∧ ∃ cs, Whole X3 O 87 cs := ⟨hS.1.below hb3, _, hO3⟩
        have HO3 := Lib.hid hO3
        have HK3 := Lib.hid hS3.1
        go_simp
        refine hK.out _ _ hS3 ?_
        clear hK K hS hb3 HK2 HO2 hO3 HBIT
        clear X2
        try simp only [Act.put, List.setIfInBounds_toArray, List.set_cons_zero, List.set_cons_succ]
        have hS := hS3
        refine take 9 _ rfl (by kernel_rfl) (by kernel_rfl) (by kernel_rfl) (fun _ _ _ h => h) (by rfl) hS (by intro w _; go_simp; with_reducible rfl) ?_
        try simp only [Act.put, List.setIfInBounds_toArray, List.set_cons_zero, List.set_cons_succ]
        clear hS hS3
        refine region_end (by kernel_rfl) ?_
        go_upto_region 5 with fail
        refine region_drew (fun V => WoW w r s f z u k0 k1 g n N V ∧ ∃ cs, Whole V O 87 cs) (by kernel_rfl) ⟨HK3.out.below (Below.drew (Below.refl _ _)), _, HO3.out.below (Below.drew (Below.refl _ _)) HO3.out.lt⟩ (fun hS => ?_)
        refine take 0 _ rfl (by kernel_rfl) (by kernel_rfl) (by kernel_rfl) (fun _ _ _ h => h) (by rfl) hS (by intro w _; go_simp; with_reducible rfl) ?_
        try simp only [Act.put, List.setIfInBounds_toArray, List.set_cons_zero, List.set_cons_succ]
        refine take 1 _ rfl (by kernel_rfl) (by kernel_rfl) (by kernel_rfl) (fun _ _ _ h => h) (by rfl) hS (by intro w _; go_simp; with_reducible rfl) ?_
        try simp only [Act.put, List.setIfInBounds_toArray, List.set_cons_zero, List.set_cons_succ]
        refine take 2 _ rfl (by kernel_rfl) (by kernel_rfl) (by kernel_rfl) (fun _ _ _ h => h) (by rfl) hS (by intro w _; go_simp; with_reducible rfl) ?_
        try simp only [Act.put, List.setIfInBounds_toArray, List.set_cons_zero, List.set_cons_succ]
        refine take 3 _ rfl (by kernel_rfl) (by kernel_rfl) (by kernel_rfl) (fun _ _ _ h => h) (by rfl) hS (by intro w _; go_simp; with_reducible rfl) ?_
        try simp only [Act.put, List.setIfInBounds_toArray, List.set_cons_zero, List.set_cons_succ]
        refine take 4 _ rfl (by kernel_rfl) (by kernel_rfl) (by kernel_rfl) (fun _ _ _ h => h) (by rfl) hS (by intro w _; go_simp; with_reducible rfl) ?_
        try simp only [Act.put, List.setIfInBounds_toArray, List.set_cons_zero, List.set_cons_succ]
        refine take 5 _ rfl (by kernel_rfl) (by kernel_rfl) (by kernel_rfl) (fun _ _ _ h => h) (by rfl) hS (by intro w _; go_simp; with_reducible rfl) ?_
        try simp only [Act.put, List.setIfInBounds_toArray, List.set_cons_zero, List.set_cons_succ]
        refine take 6 _ rfl (by kernel_rfl) (by kernel_rfl) (by kernel_rfl) (fun _ _ _ h => h) (by rfl) hS (by intro w hw; have hcl := hw.1.nd.kid1; go_simp; with_reducible rfl) ?_
        try simp only [Act.put, List.setIfInBounds_toArray, List.set_cons_zero, List.set_cons_succ]
        refine take 7 (.agg PG.toArray) rfl (by kernel_rfl) (by kernel_rfl) (by kernel_rfl) (fun _ _ _ h => h) (by rfl) hS (fun w hw => run_load_in 29 (.tmp 3) rfl N rfl PG.toArray 18 (by rw [List.size_toArray, HPG.out]) (HPGE.out ▸ hw.1.p) rfl rfl (by kernel_rfl)) ?_
        try simp only [Act.put, List.setIfInBounds_toArray, List.set_cons_zero, List.set_cons_succ]
        refine take 9 _ rfl (by kernel_rfl) (by kernel_rfl) (by kernel_rfl) (fun _ _ _ h => h) (by rfl) hS (by intro w _; go_simp; with_reducible rfl) ?_
        try simp only [Act.put, List.setIfInBounds_toArray, List.set_cons_zero, List.set_cons_succ]
        refine alone 8 rfl (by kernel_rfl) (by rfl) ?_
        intro K hK
        go_simp
        refine (HIH.out _ (HNN.out ▸ hS.1.bel)).mono ?_
        rintro e X4 ⟨r4, rfl, ht4, hb4⟩
        have hO4 : Whole X4 O 87 NL := (HO3.out.below (Below.drew (Below.refl _ _)) HO3.out.lt).below hb4 HO3.out.lt
        have hS4 : WoW w r s f z u k0 k1 g n N X4 ∧ ∃ cs, Whole X4 O 87 cs := ⟨hS.1.below hb4, _, hO4⟩
        have HOL := Lib.hid (show O < X3.drew.heap.size from HO3.out.lt)
        have HXN := Lib.hid (show N ≤ X3.drew.heap.size from Nat.le_of_lt HK3.out.p.lt)
        have HT4 := Lib.hid ht4
        generalize X3.drew.heap.size = XS at HOL HXN HT4
        go_simp
        refine hK.out _ _ hS4 ?_
        clear hK K hS ht4 hb4 HK3 HO3 HIH
        clear X3
        try simp only [Act.put, List.setIfInBounds_toArray, List.set_cons_zero, List.set_cons_succ]
        have hS := hS4
        refine take 10 _ rfl (by kernel_rfl) (by kernel_rfl) (by kernel_rfl) (fun _ _ _ h => h) (by rfl) hS (by intro w _; go_simp; with_reducible rfl) ?_
        try simp only [Act.put, List.setIfInBounds_toArray, List.set_cons_zero, List.set_cons_succ]
        clear hS
        refine alone 11 rfl (by kernel_rfl) (by rfl) ?_
        intro K hK
        have HO4 := Lib.hid hO4
        have HS4 := Lib.hid hS4
        have cO : X4.cell? ⟨O, 20, none⟩ = some (ptrV k1) := by rw [HO4.out.cell, ← HNL.out, List.getElem?_toArray]; exact (nod_kids _ _ _ _ _ _).2
        have fO := HO4.out.free 20
        clear hO4 hS4
        refine wp_store_ptr 78 (.tmp 38) (.tmp 36) rfl O 20 r4 _ rfl rfl rfl cO fO ?_
        have HS5 := Lib.hid (show WoW w r s f z u k0 k1 g n N (X4.setCell ⟨O, 20, none⟩ (ptrV r4)) ∧ ∃ cs, Whole (X4.setCell ⟨O, 20, none⟩ (ptrV r4)) O 87 cs from ⟨HS4.out.1.set HOG.out _ _, _, HO4.out.put _ _⟩)
        refine hK.out _ _ HS5.out ?_
        clear hK K cO fO
        try simp only [Act.put]
        refine region_end (by kernel_rfl) ?_
        have hput := HO4.out.put 20 (ptrV r4)
        rw [← HNL.out, nod_set1] at hput
        have HROW := Lib.hid hput
        have HEND := Lib.hid (show IsT (fun i => A i ∨ w.heap.size ≤ i) (X4.setCell ⟨O, 20, none⟩ (ptrV r4)) s (Tr.del (bs g n) (.node (bs f z) u a b)) (bothK u k0 r4 O) from by
          rw [HDEL.out, hd]
          have h0 := HT0.out.1 X4 (HNN.out ▸ HS4.out.1.bel)
          rw [HNN.out] at HT0 h0 ⊢
          have hOA : ¬ (A O ∧ O < N) := fun c => by have := HOG.out.1; omega
          have hOB : ¬ ((A O ∧ O < N) ∨ XS ≤ O) := fun c => c.elim hOA (fun c => by have := HOL.out; omega)
          rw [HNN.out] at HT4
          exact isT_both hput (.inr (by have := HOG.out.1; omega)) ((h0.1.set hOA _ _).mono fun i _ hi => .inl hi.1) ((HT4.out.set hOB _ _).mono fun i _ hi => hi.elim (fun c => .inl c.1) (fun c => .inr (by have := HXN.out; omega))) hf hrf hu)
        have HBE := Lib.hid (show Below w.heap.size w (X4.setCell ⟨O, 20, none⟩ (ptrV r4)) from HNN.out ▸ HS5.out.1.bel)
        clear HS5 HS4 HO4 HT4 HOL hput
        generalize X4.setCell ⟨O, 20, none⟩ (ptrV r4) = X5 at HROW HEND HBE ⊢
        -- HROW: Whole X O (nodL s f z u k0 r4); HEND: the trie that comes; HBE
        have HIS := Lib.hid (isRoute_any (w := X5) (r := O) (s := s) (f := f) (z := z) (o := u) (k0 := k0) (k1 := r4) ⟨HROW.out⟩)
        have c0 := (Nod.mk HROW.out).kid0
        have c1 := (Nod.mk HROW.out).kid1
        clear HROW
        by_cases hu0 : u = 0
        · rw [decide_eq_false (fun c => c hu0)] at HIS
          cases hk0 : k0 with
          | none =>
            have HQ := Lib.hid (show bothK u k0 r4 O = r4 from by unfold bothK; rw [if_pos ⟨hu0, .inl hk0⟩, if_pos hk0])
            rw [hk0] at c0
            replace c0 : (X5).cell? ⟨O, 19, none⟩ = some (.pointer none) := c0
            clear hu0 hk0
            go_wp2_with (go_at_call 42; refine HIS.out.mono ?_; clear HIS; rintro e X9 ⟨rfl, rfl⟩)
            go_ret
            exact ⟨r4, rfl, HQ.out ▸ HEND.out, HBE.out⟩
          | some j0 =>
            cases hk1 : r4 with
            | none =>
              have HQ := Lib.hid (show bothK u k0 r4 O = k0 from by unfold bothK; rw [if_pos ⟨hu0, .inr hk1⟩, if_neg (by rw [hk0]; exact fun c => by cases c)])
              rw [hk0] at c0
              rw [hk1] at c1
              replace c0 : (X5).cell? ⟨O, 19, none⟩ = some (.pointer (some ⟨j0, 0, none⟩)) := c0
              replace c1 : (X5).cell? ⟨O, 20, none⟩ = some (.pointer none) := c1
              clear hu0 hk1
              go_wp2_with (go_at_call 42; refine HIS.out.mono ?_; clear HIS; rintro e X9 ⟨rfl, rfl⟩)
              go_ret
              exact ⟨k0, by rw [hk0]; rfl, HQ.out ▸ HEND.out, HBE.out⟩
            | some j1 =>
              have HQ := Lib.hid (show bothK u k0 r4 O = some O from by unfold bothK; rw [if_neg]; rw [hk0, hk1]; exact fun c => c.2.elim (fun c => by cases c) (fun c => by cases c))
              rw [hk0] at c0
              rw [hk1] at c1
              replace c0 : (X5).cell? ⟨O, 19, none⟩ = some (.pointer (some ⟨j0, 0, none⟩)) := c0
              replace c1 : (X5).cell? ⟨O, 20, none⟩ = some (.pointer (some ⟨j1, 0, none⟩)) := c1
              clear hu0 hk0 hk1
              go_wp2_with (go_at_call 42; refine HIS.out.mono ?_; clear HIS; rintro e X9 ⟨rfl, rfl⟩)
              go_ret
              exact ⟨some O, rfl, HQ.out ▸ HEND.out, HBE.out⟩
        · rw [decide_eq_true hu0] at HIS
          have HQ := Lib.hid (show bothK u k0 r4 O = some O from by unfold bothK; rw [if_neg (fun c => hu0 c.1)])
          clear hu0 c0 c1
          go_wp2_with (go_at_call 42; refine HIS.out.mono ?_; clear HIS; rintro e X9 ⟨rfl, rfl⟩)
          go_ret
          exact ⟨some O, rfl, HQ.out ▸ HEND.out, HBE.out⟩
      · skip
        have HIH := Lib.hid (fun X (hX : Below w.heap.size w X) => iha hok.2.2.1 hm _ X k0 (HT0.out.1 X hX).1)
        rw [HPGE.out] at HIH
        have hbv2 : bitI s g (z : Int) = 0 := by rw [hbv, hd]; rfl
        rw [hbv2] at HBIT
        clear hbv
        refine region_drew (fun V => WoW w r s f z u k0 k1 g n N V ∧ ∃ cs, Whole V O 87 cs) (by kernel_rfl) ⟨HK2.out.below (Below.drew (Below.refl _ _)), _, HO2.out.below (Below.drew (Below.refl _ _)) HO2.out.lt⟩ (fun hS => ?_)
        refine take 0 _ rfl (by kernel_rfl) (by kernel_rfl) (by kernel_rfl) (fun _ _ _ h => h) (by rfl) hS (by intro w _; go_simp; with_reducible rfl) ?_
        try simp only [Act.put, List.setIfInBounds_toArray, List.set_cons_zero, List.set_cons_succ]
        refine take 1 (.agg AL.toArray) rfl (by kernel_rfl) (by kernel_rfl) (by kernel_rfl) (fun _ _ _ h => h) (by rfl) hS (fun w hw => run_mid_in 27 (.tmp 19) rfl N 0 rfl AL _ (HAR.out _ hw.1) rfl rfl (by rw [HAL.out]; kernel_rfl)) ?_
        try simp only [Act.put, List.setIfInBounds_toArray, List.set_cons_zero, List.set_cons_succ]
        refine take 2 _ rfl (by kernel_rfl) (by kernel_rfl) (by kernel_rfl) (fun _ _ _ h => h) (by rfl) hS (by intro w _; go_simp; with_reducible rfl) ?_
        try simp only [Act.put, List.setIfInBounds_toArray, List.set_cons_zero, List.set_cons_succ]
        refine take 3 _ rfl (by kernel_rfl) (by kernel_rfl) (by kernel_rfl) (fun _ _ _ h => h) (by rfl) hS (by intro w _; go_simp; with_reducible rfl) ?_
        try simp only [Act.put, List.setIfInBounds_toArray, List.set_cons_zero, List.set_cons_succ]
        refine take 4 _ rfl (by kernel_rfl) (by kernel_rfl) (by kernel_rfl) (fun _ _ _ h => h) (by rfl) hS (by intro w _; go_simp; with_reducible rfl) ?_
        try simp only [Act.put, List.setIfInBounds_toArray, List.set_cons_zero, List.set_cons_succ]
        refine take 5 _ rfl (by kernel_rfl) (by kernel_rfl) (by kernel_rfl) (fun _ _ _ h => h) (by rfl) hS (by intro w _; go_simp; with_reducible rfl) ?_
        try simp only [Act.put, List.setIfInBounds_toArray, List.set_cons_zero, List.set_cons_succ]
        refine take 6 _ rfl (by kernel_rfl) (by kernel_rfl) (by kernel_rfl) (fun _ _ _ h => h) (by rfl) hS (by intro w _; go_simp; with_reducible rfl) ?_
        try simp only [Act.put, List.setIfInBounds_toArray, List.set_cons_zero, List.set_cons_succ]
        refine take 7 _ rfl (by kernel_rfl) (by kernel_rfl) (by kernel_rfl) (fun _ _ _ h => h) (by rfl) hS (by intro w hw; have hcl := hw.1.nd.bits; go_simp; with_reducible rfl) ?_
        try simp only [Act.put, List.setIfInBounds_toArray, List.set_cons_zero, List.set_cons_succ]
        refine alone 8 rfl (by kernel_rfl) (by rfl) ?_
        intro K hK
        go_simp
        refine (HBIT.out _).mono ?_
        rintro e X3 ⟨rfl, hb3⟩
        have hO3 : Whole X3 O 87 NL := (HO2.out.below (Below.drew (Below.refl _ _)) HO2.out.lt).below hb3 HO2.out.lt
        have hS3 : WoW w r s f z u k0 k1 g n N X3 ∧ ∃ cs, Whole X3 O 87 cs := ⟨hS.1.below hb3, _, hO3⟩
        have HO3 := Lib.hid hO3
        have HK3 := Lib.hid hS3.1
        go_simp
        refine hK.out _ _ hS3 ?_
        clear hK K hS hb3 HK2 HO2 hO3 HBIT
        clear X2
        try simp only [Act.put, List.setIfInBounds_toArray, List.set_cons_zero, List.set_cons_succ]
        have hS := hS3
        refine take 9 _ rfl (by kernel_rfl) (by kernel_rfl) (by kernel_rfl) (fun _ _ _ h => h) (by rfl) hS (by intro w _; go_simp; with_reducible rfl) ?_
        try simp only [Act.put, List.setIfInBounds_toArray, List.set_cons_zero, List.set_cons_succ]
        clear hS hS3
        refine region_end (by kernel_rfl) ?_
        go_upto_region 5 with fail
        refine region_drew (fun V => WoW w r s f z u k0 k1 g n N V ∧ ∃ cs, Whole V O 87 cs) (by kernel_rfl) ⟨HK3.out.below (Below.drew (Below.refl _ _)), _, HO3.out.below (Below.drew (Below.refl _ _)) HO3.out.lt⟩ (fun hS => ?_)
        refine take 0 _ rfl (by kernel_rfl) (by kernel_rfl) (by kernel_rfl) (fun _ _ _ h => h) (by rfl) hS (by intro w _; go_simp; with_reducible rfl) ?_
        try simp only [Act.put, List.setIfInBounds_toArray, List.set_cons_zero, List.set_cons_succ]
        refine take 1 _ rfl (by kernel_rfl) (by kernel_rfl) (by kernel_rfl) (fun _ _ _ h => h) (by rfl) hS (by intro w _; go_simp; with_reducible rfl) ?_
        try simp only [Act.put, List.setIfInBounds_toArray, List.set_cons_zero, List.set_cons_succ]
        refine take 2 _ rfl (by kernel_rfl) (by kernel_rfl) (by kernel_rfl) (fun _ _ _ h => h) (by rfl) hS (by intro w _; go_simp; with_reducible rfl) ?_
        try simp only [Act.put, List.setIfInBounds_toArray, List.set_cons_zero, List.set_cons_succ]
        refine take 3 _ rfl (by kernel_rfl) (by kernel_rfl) (by kernel_rfl) (fun _ _ _ h => h) (by rfl) hS (by intro w _; go_simp; with_reducible rfl) ?_
        try simp only [Act.put, List.setIfInBounds_toArray, List.set_cons_zero, List.set_cons_succ]
        refine take 4 _ rfl (by kernel_rfl) (by kernel_rfl) (by kernel_rfl) (fun _ _ _ h => h) (by rfl) hS (by intro w _; go_simp; with_reducible rfl) ?_
        try simp only [Act.put, List.setIfInBounds_toArray, List.set_cons_zero, List.set_cons_succ]
        refine take 5 _ rfl (by kernel_rfl) (by kernel_rfl) (by kernel_rfl) (fun _ _ _ h => h) (by rfl) hS (by intro w _; go_simp; with_reducible rfl) ?_
        try simp only [Act.put, List.setIfInBounds_toArray, List.set_cons_zero, List.set_cons_succ]
        refine take 6 _ rfl (by kernel_rfl) (by kernel_rfl) (by kernel_rfl) (fun _ _ _ h => h) (by rfl) hS (by intro w hw; have hcl := hw.1.nd.kid0; go_simp; with_reducible rfl) ?_
        try simp only [Act.put, List.setIfInBounds_toArray, List.set_cons_zero, List.set_cons_succ]
        refine take 7 (.agg PG.toArray) rfl (by kernel_rfl) (by kernel_rfl) (by kernel_rfl) (fun _ _ _ h => h) (by rfl) hS (fun w hw => run_load_in 29 (.tmp 3) rfl N rfl PG.toArray 18 (by rw [List.size_toArray, HPG.out]) (HPGE.out ▸ hw.1.p) rfl rfl (by kernel_rfl)) ?_
        try simp only [Act.put, List.setIfInBounds_toArray, List.set_cons_zero, List.set_cons_succ]
        refine take 9 _ rfl (by kernel_rfl) (by kernel_rfl) (by kernel_rfl) (fun _ _ _ h => h) (by rfl) hS (by intro w _; go_simp; with_reducible rfl) ?_
        try simp only [Act.put, List.setIfInBounds_toArray, List.set_cons_zero, List.set_cons_succ]
        refine alone 8 rfl (by kernel_rfl) (by rfl) ?_
        intro K hK
        go_simp
        refine (HIH.out _ (HNN.out ▸ hS.1.bel)).mono ?_
        rintro e X4 ⟨r4, rfl, ht4, hb4⟩
        have hO4 : Whole X4 O 87 NL := (HO3.out.below (Below.drew (Below.refl _ _)) HO3.out.lt).below hb4 HO3.out.lt
        have hS4 : WoW w r s f z u k0 k1 g n N X4 ∧ ∃ cs, Whole X4 O 87 cs := ⟨hS.1.below hb4, _, hO4⟩
        have HOL := Lib.hid (show O < X3.drew.heap.size from HO3.out.lt)
        have HXN := Lib.hid (show N ≤ X3.drew.heap.size from Nat.le_of_lt HK3.out.p.lt)
        have HT4 := Lib.hid ht4
        generalize X3.drew.heap.size = XS at HOL HXN HT4
        go_simp
        refine hK.out _ _ hS4 ?_
        clear hK K hS ht4 hb4 HK3 HO3 HIH
        clear X3
        try simp only [Act.put, List.setIfInBounds_toArray, List.set_cons_zero, List.set_cons_succ]
        have hS := hS4
        refine take 10 _ rfl (by kernel_rfl) (by kernel_rfl) (by kernel_rfl) (fun _ _ _ h => h) (by rfl) hS (by intro w _; go_simp; with_reducible rfl) ?_
        try simp only [Act.put, List.setIfInBounds_toArray, List.set_cons_zero, List.set_cons_succ]
        clear hS
        refine alone 11 rfl (by kernel_rfl) (by rfl) ?_
        intro K hK
        have HO4 := Lib.hid hO4
        have HS4 := Lib.hid hS4
        have cO : X4.cell? ⟨O, 19, none⟩ = some (ptrV k0) := by rw [HO4.out.cell, ← HNL.out, List.getElem?_toArray]; exact (nod_kids _ _ _ _ _ _).1
        have fO := HO4.out.free 19
        clear hO4 hS4
        refine wp_store_ptr 78 (.tmp 38) (.tmp 36) rfl O 19 r4 _ rfl rfl rfl cO fO ?_
        have HS5 := Lib.hid (show WoW w r s f z u k0 k1 g n N (X4.setCell ⟨O, 19, none⟩ (ptrV r4)) ∧ ∃ cs, Whole (X4.setCell ⟨O, 19, none⟩ (ptrV r4)) O 87 cs from ⟨HS4.out.1.set HOG.out _ _, _, HO4.out.put _ _⟩)
        refine hK.out _ _ HS5.out ?_
        clear hK K cO fO
        try simp only [Act.put]
        refine region_end (by kernel_rfl) ?_
        have hput := HO4.out.put 19 (ptrV r4)
        rw [← HNL.out, nod_set0] at hput
        have HROW := Lib.hid hput
        have HEND := Lib.hid (show IsT (fun i => A i ∨ w.heap.size ≤ i) (X4.setCell ⟨O, 19, none⟩ (ptrV r4)) s (Tr.del (bs g n) (.node (bs f z) u a b)) (bothK u r4 k1 O) from by
          rw [HDEL.out, hd]
          have h0 := HT0.out.1 X4 (HNN.out ▸ HS4.out.1.bel)
          rw [HNN.out] at HT0 h0 ⊢
          have hOA : ¬ (A O ∧ O < N) := fun c => by have := HOG.out.1; omega
          have hOB : ¬ ((A O ∧ O < N) ∨ XS ≤ O) := fun c => c.elim hOA (fun c => by have := HOL.out; omega)
          rw [HNN.out] at HT4
          exact isT_both hput (.inr (by have := HOG.out.1; omega)) ((HT4.out.set hOB _ _).mono fun i _ hi => hi.elim (fun c => .inl c.1) (fun c => .inr (by have := HXN.out; omega))) ((h0.2.set hOA _ _).mono fun i _ hi => .inl hi.1) hf hrf hu)
        have HBE := Lib.hid (show Below w.heap.size w (X4.setCell ⟨O, 19, none⟩ (ptrV r4)) from HNN.out ▸ HS5.out.1.bel)
        clear HS5 HS4 HO4 HT4 HOL hput
        generalize X4.setCell ⟨O, 19, none⟩ (ptrV r4) = X5 at HROW HEND HBE ⊢
        -- HROW: Whole X O (nodL s f z u r4 k1); HEND: the trie that comes; HBE
        have HIS := Lib.hid (isRoute_any (w := X5) (r := O) (s := s) (f := f) (z := z) (o := u) (k0 := r4) (k1 := k1) ⟨HROW.out⟩)
        have c0 := (Nod.mk HROW.out).kid0
        have c1 := (Nod.mk HROW.out).kid1
        clear HROW
        by_cases hu0 : u = 0
        · rw [decide_eq_false (fun c => c hu0)] at HIS
          cases hk0 : r4 with
          | none =>
            have HQ := Lib.hid (show bothK u r4 k1 O = k1 from by unfold bothK; rw [if_pos ⟨hu0, .inl hk0⟩, if_pos hk0])
            rw [hk0] at c0
            replace c0 : (X5).cell? ⟨O, 19, none⟩ = some (.pointer none) := c0
            clear hu0 hk0
            go_wp2_with (go_at_call 42; refine HIS.out.mono ?_; clear HIS; rintro e X9 ⟨rfl, rfl⟩)
            go_ret
            exact ⟨k1, rfl, HQ.out ▸ HEND.out, HBE.out⟩
          | some j0 =>
            cases hk1 : k1 with
            | none =>
              have HQ := Lib.hid (show bothK u r4 k1 O = r4 from by unfold bothK; rw [if_pos ⟨hu0, .inr hk1⟩, if_neg (by rw [hk0]; exact fun c => by cases c)])
              rw [hk0] at c0
              rw [hk1] at c1
              replace c0 : (X5).cell? ⟨O, 19, none⟩ = some (.pointer (some ⟨j0, 0, none⟩)) := c0
              replace c1 : (X5).cell? ⟨O, 20, none⟩ = some (.pointer none) := c1
              clear hu0 hk1
              go_wp2_with (go_at_call 42; refine HIS.out.mono ?_; clear HIS; rintro e X9 ⟨rfl, rfl⟩)
              go_ret
              exact ⟨r4, by rw [hk0]; rfl, HQ.out ▸ HEND.out, HBE.out⟩
            | some j1 =>
              have HQ := Lib.hid (show bothK u r4 k1 O = some O from by unfold bothK; rw [if_neg]; rw [hk0, hk1]; exact fun c => c.2.elim (fun c => by cases c) (fun c => by cases c))
              rw [hk0] at c0
              rw [hk1] at c1
              replace c0 : (X5).cell? ⟨O, 19, none⟩ = some (.pointer (some ⟨j0, 0, none⟩)) := c0
              replace c1 : (X5).cell? ⟨O, 20, none⟩ = some (.pointer (some ⟨j1, 0, none⟩)) := c1
              clear hu0 hk0 hk1
              go_wp2_with (go_at_call 42; refine HIS.out.mono ?_; clear HIS; rintro e X9 ⟨rfl, rfl⟩)
              go_ret
              exact ⟨some O, rfl, HQ.out ▸ HEND.out, HBE.out⟩
        · rw [decide_eq_true hu0] at HIS
          have HQ := Lib.hid (show bothK u r4 k1 O = some O from by unfold bothK; rw [if_neg (fun c => hu0 c.1)])
          clear hu0 c0 c1
          go_wp2_with (go_at_call 42; refine HIS.out.mono ?_; clear HIS; rintro e X9 ⟨rfl, rfl⟩)
          go_ret
          exact ⟨some O, rfl, HQ.out ▸ HEND.out, HBE.out⟩
end Tri
end Go.Proofs.Ytcpfchfhcfdcpaa
