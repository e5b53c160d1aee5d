/- Package wheel: Clear. -/
import Derived.Test.YtgbahkkccpcadaaWhOne
namespace Go.Proofs.Ytgbahkkccpcadaa
namespace Wh
open Go.ChangeShapes Go.WideShapes Go.ChangeAt Go.RowKit Go.Maps
open Num Mem Words Chacha Aead Poly Quiet RowV RowS Ops EqLits Stamp

theorem whole_type {X : World} {g : Nat} {t u : TypeId} {cs ds : Array Value} (h : Whole X g t cs) (k : Whole X g u ds) : t = u := by
  have e := h.symm.trans k
  injection e with e
  injection e with _ e
theorem wpList_delete_phi {b : Nat} {Φ : World → DataW Unit → Prop} (hk : MapK b Φ) {w : World} {D : DataW Unit} (h2 : Φ w D) {ops : Array Oper} {rest : List Oper} {o : Oper} {a : Act} {Q : Exit → Act → World → Prop}
    (hg : o.guard = none) (m x : Operand) (hop : o.op = Op.call { callee := Callee.builtin Builtin.delete, args := #[m, x], argTypes := #[47, 67] })
    (hm : a.eval m = .map (some b)) (key : Value) (kl : Lit) (hx : a.eval x = key) (hkey : keyOf Try.prog 67 key = some kl)
    (hK : ∀ w', Φ w' (D.del kl) → w.mapTurned w' b → wpList Try.prog ops Q rest (a.put o.dst (.tuple #[])) w') :
    wpList Try.prog ops Q (o :: rest) a w := by
  refine wpList_plain hg fun K' hK' => ?_
  obtain ⟨w', hrun, r1, r3⟩ := hk.del w D key kl o.type h2 hkey
  unfold Oper.wp
  simp [execOp, hop, resolve, invoke, builtin, hm, hx, hrun, Result.andThen]
  exact hK' _ _ (hK w' r1 r3)
theorem blk_set {cs : List Value} {q : Nat} (hq : q < cs.length) (v : Value) (q' : Nat) : blk (cs.set q v) q' = if q' = q then v.ownBlock else blk cs q' := by
  unfold blk
  by_cases e : q' = q
  · subst e
    rw [if_pos rfl, List.getElem?_set_self hq]
    rfl
  · rw [if_neg e, List.getElem?_set_ne (fun c => e c.symm)]
/-- one slot turned -/
theorem WM.turn {w w' : World} {F F' : Nat → Prop} {g b s : Nat} {now : Int} {T T' : List Tm} {D D' : DataW Unit} {cs : List Value} (h : WM w F g b s now T D cs) (q : Nat) (hq : q < 64) {A' : Option Addr} {c' : Nat}
    (hrow : RowT w' 0 A' c' (slotL q T')) (hsl : Whole w' s 63 (cs.set q (.slice A' (slotL q T').length c')).toArray) (hoth : ∀ q' : Nat, q' ≠ q → slotL q' T' = slotL q' T)
    (hkeep : ∀ j t c, j ≠ s → blk cs q ≠ some j → Whole w j t c → Whole w' j t c) (hblk : ∀ j, A' = some ⟨j, 0, none⟩ → (blk cs q = some j ∨ w.heap.size ≤ j) ∧ F' j) (hF : ∀ i, F i → F' i) (hag : MAg D' T') (hgood : Good now T') :
    WM w' F' g b s now T' D' (cs.set q (.slice A' (slotL q T').length c')) := by
  have hgs : g ≠ s := by rintro rfl; exact absurd (whole_type h.obj h.slots) (by decide)
  have hbs : ∀ q' j, blk cs q' = some j → j ≠ s := fun q' j e => by
    obtain ⟨_, c, hw⟩ := h.blk_lt e
    rintro rfl
    exact absurd (whole_type hw h.slots) (by decide)
  have hbg : blk cs q ≠ some g := fun e => by
    obtain ⟨_, c, hw⟩ := h.blk_lt e
    exact absurd (whole_type hw h.obj) (by decide)
  have hnew : ∀ j, (Value.slice A' (slotL q T').length c').ownBlock = some j → A' = some ⟨j, 0, none⟩ := fun j e => by
    rcases hrow.2 with ⟨e1, _⟩ | ⟨g', cap, cur, e1, _⟩
    · rw [e1] at e; cases e
    · injection e1 with e1
      subst e1
      injection e with e
      have e : g' = j := e
      rw [e]
  refine ⟨hkeep g _ _ hgs hbg h.obj, hag, hsl, by rw [List.length_set]; exact h.len, fun q' hq' => ?_, fun q1 q2 j e1 e2 => ?_, hF _ h.fg, hF _ h.fb, hF _ h.fs, fun q' j e => ?_, hgood⟩
  · by_cases e : q' = q
    · subst e
      exact ⟨A', c', List.getElem?_set_self (by rw [h.len]; exact hq), hrow⟩
    · obtain ⟨A, c, h1, h2⟩ := h.row q' hq'
      refine ⟨A, c, by rw [List.getElem?_set_ne (fun c => e c.symm), hoth q' e]; exact h1, ?_⟩
      rw [hoth q' e]
      refine row_keep h2 fun j c hA hw => ?_
      have hb : blk cs q' = some j := by unfold blk; rw [h1, Option.bind_some, hA]; rfl
      exact hkeep j _ _ (hbs q' j hb) (fun c2 => e (h.apart q' q j hb c2)) hw
  · have hlt : ∀ q' j, blk cs q' = some j → j < w.heap.size := fun q' j e => by obtain ⟨_, c, hw⟩ := h.blk_lt e; exact hw.lt
    rw [blk_set (by rw [h.len]; exact hq)] at e1 e2
    by_cases c1 : q1 = q
    · by_cases c2 : q2 = q
      · rw [c1, c2]
      · rw [if_pos c1] at e1
        rw [if_neg c2] at e2
        rcases (hblk j (hnew j e1)).1 with h3 | h3
        · exact absurd (h.apart q2 q j e2 h3) c2
        · have := hlt q2 j e2; omega
    · rw [if_neg c1] at e1
      by_cases c2 : q2 = q
      · rw [if_pos c2] at e2
        rcases (hblk j (hnew j e2)).1 with h3 | h3
        · exact absurd (h.apart q1 q j e1 h3) c1
        · have := hlt q1 j e1; omega
      · rw [if_neg c2] at e2
        exact h.apart q1 q2 j e1 e2
  · rw [blk_set (by rw [h.len]; exact hq)] at e
    by_cases c1 : q' = q
    · rw [if_pos c1] at e
      exact (hblk j (hnew j e)).2
    · rw [if_neg c1] at e
      exact hF _ (h.fr q' j e)
/-- while a map turns -/
theorem WM.map {w w' : World} {F : Nat → Prop} {g b s : Nat} {now : Int} {T : List Tm} {D : DataW Unit} {cs : List Value} (h : WM w F g b s now T D cs) (hg : w.grownBy w' (some b)) {n : Nat} {k : TypeId} {R : Value → Option (DataW Unit × List MemPlace)} {D0 : DataW Unit} (hb : w.ownsMap Try.prog k R b n D0) : WM w' F g b s now T D cs :=
  h.keep fun j _ _ _ hw => (hg.block j hw.lt (fun e => owns_row hb hw (by injection e))).trans hw
theorem slot_rem_other {T : List Tm} {x : Tm} {q : Nat} (h : q ≠ sl x.t) (hT : Unq T) (hx : x ∈ T) : slotL q (rem x.o x.k T) = slotL q T := by
  unfold slotL
  rw [rem_eq hT hx, List.filter_filter]
  refine List.filter_congr fun y _ => ?_
  by_cases e : y = x
  · subst e
    have : slotB (q : Int) y = false := Bool.eq_false_iff.2 fun c => h (sl_slot.1 c)
    rw [this]
    rfl
  · simp [e]
theorem slot_rem {T : List Tm} {x : Tm} (hS : Srt T) (hT : Unq T) (hx : x ∈ T) : (slotL (sl x.t) T).take (pos x (slotL (sl x.t) T)) ++ (slotL (sl x.t) T).drop (pos x (slotL (sl x.t) T) + 1) = slotL (sl x.t) (rem x.o x.k T) ∧ pos x (slotL (sl x.t) T) < (slotL (sl x.t) T).length := by
  have hxs : x ∈ slotL (sl x.t) T := List.mem_filter.2 ⟨hx, sl_slot.2 rfl⟩
  obtain ⟨R, h1, h2⟩ := at_pos (hS.filter (slotB (sl x.t))) hxs
  have e : (slotL (sl x.t) T).drop (pos x (slotL (sl x.t) T) + 1) = R := by
    rw [← List.drop_drop, show slotL (sl x.t) T = T.filter (slotB (sl x.t)) from rfl, h1]
    rfl
  refine ⟨?_, ?_⟩
  · rw [e]
    refine Eq.trans h2 ?_
    unfold slotL
    rw [rem_eq hT hx, filter_comm]
  · rcases Nat.lt_or_ge (pos x (slotL (sl x.t) T)) (slotL (sl x.t) T).length with k | k
    · exact k
    · have := List.drop_of_length_le k
      rw [show slotL (sl x.t) T = T.filter (slotB (sl x.t)) from rfl, h1] at this
      cases this

set_option maxRecDepth 100000 in
set_option maxHeartbeats 4000000 in
theorem clear_gen {b : Nat} {Φ : World → DataW Unit → Prop} (hk : MapK b Φ) {w : World} {F : Nat → Prop} {g s : Nat} {now : Int} {T : List Tm} {D : DataW Unit} {cs : List Value} (h1 : WM w F g b s now T D cs) (h2 : Φ w D) (o k : Int) (ho : okI o) (hk2 : okI k) :
    Calls Try.prog 18 #[.pointer (some ⟨g, 0, none⟩), .int .i64 o, .int .i64 k] w fun e w' =>
      (findT o k T = none ∧ e = .returned (.bool false) ∧ w = w') ∨
      (∃ x, findT o k T = some x ∧ e = .returned (.bool true) ∧ Fk F w w' ∧ ∃ cs', WM w' F g b s now (rem o k T) (D.del (klN Try.prog 67 o k)) cs' ∧ Φ w' (D.del (klN Try.prog 67 o k))) := by
  have HG := Lib.hid (get_gen hk h1 h2 o k ho hk2)
  cases hf : findT o k T with
  | none =>
    rw [hf] at HG
    simp only [getV, Option.isSome_none] at HG
    clear h1 h2
    go_enter Try.func18, Try.ntmps18
    go_wp2_with fail
    refine HG.out.mono ?_
    rintro e w1 ⟨rfl, rfl⟩
    go_wp2_with fail
    go_ret
    exact .inl ⟨trivial, rfl, rfl⟩
  | some x =>
    rw [hf] at HG
    simp only [getV, Option.isSome_some] at HG
    obtain ⟨hx, rfl, rfl⟩ := find_some hf
    have H1 := Lib.hid h1
    have H2 := Lib.hid h2
    have HKY := Lib.hid (key_name ho hk2)
    unfold nmV at HKY
    have HX := Lib.hid hx
    have HF := Lib.hid hf
    have hok := h1.good.ok x hx
    have hxt : 0 ≤ x.t ∧ x.t ≤ 1099511627776 := by have := h1.good.nn; omega
    have HXT := Lib.hid hxt
    have c1 : w.cell? ⟨g, 1, none⟩ = some (.map (some b)) := h1.obj.cell 1
    have HMK := Lib.hid hk
    clear h1 h2 hf hx hok hxt hk
    go_enter Try.func18, Try.ntmps18
    go_wp2_with fail
    refine HG.out.mono ?_
    rintro e w0 ⟨rfl, rfl⟩
    go_upto_region 5 with (refine wpList_delete_phi HMK.out H2.out rfl (.tmp 24) (.tmp 27) rfl rfl _ _ rfl HKY.out ?_; intro w1 hp1 hturn)
    simp only [Act.put]
    have hg01 : w.grownBy w1 (some b) := by
      have h := hturn.grown
      exact ⟨h.os, h.tape, h.output, h.size, h.block⟩
    obtain ⟨n0, _, hown0⟩ := HMK.out.own _ _ H2.out
    have hW1 := H1.out.map hg01 hown0
    have HFK1 := Lib.hid (show Fk F w w1 from Fk.grown hg01 (fun j hj => by injection hj with hj; rw [← hj]; exact H1.out.fb))
    have HD := Lib.hid (H1.out.ag.del H1.out.good (hown0.tidy keyedN) HX.out)
    have HGD := Lib.hid (H1.out.good.rem x.o x.k)
    have HP1 := Lib.hid hp1
    have HSO := Lib.hid (slot_any g s _ _ x.t HXT.out.1 HXT.out.2 w1 hW1.obj)
    have hsrt : Srt (slotL (sl x.t) T) := hW1.good.srt.filter _
    have hrm := slot_rem hW1.good.srt hW1.good.unq HX.out
    have hoth : ∀ q' : Nat, q' ≠ sl x.t → slotL q' (rem x.o x.k T) = slotL q' T := fun q' e => slot_rem_other e hW1.good.unq HX.out
    have hSl : (slotL (sl x.t) T).length ≤ 64 := Nat.le_trans (List.length_filter_le _ _) hW1.good.room
    have hql := sl_lt x.t
    obtain ⟨q, hq⟩ : ∃ q, sl x.t = q := ⟨_, rfl⟩
    rw [hq] at HSO hsrt hrm hoth hSl hql
    obtain ⟨A, c, hcq, hrow⟩ := hW1.row q hql
    obtain ⟨S, hS⟩ : ∃ S, slotL q T = S := ⟨_, rfl⟩
    rw [hS] at hsrt hrm hSl hcq hrow
    obtain ⟨i, hi⟩ : ∃ i, pos x S = i := ⟨_, rfl⟩
    rw [hi] at hrm
    have HB := Lib.hid (bsearch_any S x hsrt hrow (by omega))
    obtain ⟨fb, hfb⟩ : ∃ fb, fnd x S = fb := ⟨_, rfl⟩
    rw [hi, hfb] at HB
    have hnS : 0 < S.length := by omega
    obtain ⟨gq, cur, rfl, _, hcur, hc1, hc2, hc3, hc4⟩ := hrow.some_ hnS
    have hblk : blk cs q = some gq := by unfold blk; rw [hcq]; rfl
    obtain ⟨n, hn⟩ : ∃ n, S.length = n := ⟨_, rfl⟩
    have cq : w1.cell? ⟨s, q, none⟩ = some (.slice (some ⟨gq, 0, none⟩) n c) := by rw [hW1.slots.cell, List.getElem?_toArray, hcq, hn]
    have HW1 := Lib.hid hW1
    have HCUR := Lib.hid hcur
    have HC := Lib.hid (show n ≤ c ∧ c ≤ maxLen ∧ cur.size = c * 3 ∧ cur.toList.take (n * 3) = flatT S from hn ▸ ⟨hc1, hc2, hc3, hc4⟩)
    have HRM := Lib.hid hrm
    have HOTH := Lib.hid hoth
    have HS := Lib.hid hS
    have HN := Lib.hid hn
    have HQ := Lib.hid hql
    have HBK := Lib.hid hblk
    rw [hn] at HB hSl
    unfold tmV tmL at HB
    have hin : i < n := by rw [← hn]; exact hrm.2
    clear hfb hW1 hg01 hown0 hturn hp1 hrow hcq hcur hc1 hc2 hc3 hc4 hS hn hrm hoth hsrt hnS hblk c1 HG hi hq hql
    go_wp2_with fail
    refine HSO.out.mono ?_
    rintro e w2 ⟨rfl, rfl⟩
    clear HSO
    go_wp2_with fail
    refine HB.out.mono ?_
    rintro e w2 ⟨rfl, hb2⟩
    have HB2 := Lib.hid hb2
    have hW2 := HW1.out.below hb2
    have c2 : w2.cell? ⟨s, q, none⟩ = some (.slice (some ⟨gq, 0, none⟩) n c) := by rw [hb2.cell (p := ⟨s, q, none⟩) HW1.out.slots.lt]; exact cq
    have HP2 := Lib.hid (HMK.out.keep _ _ _ none HP1.out ⟨hb2.os, hb2.tape, hb2.output, hb2.size, fun i hi _ => hb2.block i hi⟩ (by simp))
    have HW2 := Lib.hid hW2
    have HCUR2 := Lib.hid (HCUR.out.below hb2 HCUR.out.lt)
    clear hb2 hW2 HB cq
    have HDL := Lib.hid (delete_any (B := 0) (w := w2) (g := gq) (c := c) (L := S) (cur := cur) i (by rw [HN.out]; exact hin) (by rw [HN.out]; omega) HCUR2.out (by rw [HN.out]; exact HC.out.1) HC.out.2.1 HC.out.2.2.1 (by rw [HN.out]; exact HC.out.2.2.2) (Nat.zero_le _))
    rw [HN.out] at HDL
    rw [show ((i + 1 : Nat) : Int) = (i : Int) + 1 by omega] at HDL
    go_wp2_with fail
    refine HDL.out.mono ?_
    rintro e w3 ⟨rfl, hr3, hg3⟩
    have hsg : s ≠ gq := by rintro rfl; exact absurd (whole_type HW2.out.slots HCUR2.out) (by decide)
    have hsl3 : Whole w3 s 63 cs.toArray := (hg3.block s HW2.out.slots.lt (fun e => hsg (Option.some.inj e))).trans HW2.out.slots
    have c3 : w3.cell? ⟨s, q, none⟩ = some (.slice (some ⟨gq, 0, none⟩) n c) := by
      rw [hsl3.cell, ← HW2.out.slots.cell]; exact c2
    have f3 : w3.frozen? ⟨s, q, none⟩ = false := hsl3.free q
    have HG3 := Lib.hid hg3
    have HR3 := Lib.hid hr3
    have HSL3 := Lib.hid hsl3
    have HSG := Lib.hid hsg
    clear hg3 hr3 hsl3 hsg HDL c2
    go_wp2_with fail
    go_ret
    obtain ⟨w4, hw4⟩ : ∃ w4, w3.setCell ⟨s, q, none⟩ (.slice (some ⟨gq, 0, none⟩) (n - 1) c) = w4 := ⟨_, rfl⟩
    have hsl4 : Whole w4 s 63 (cs.set q (.slice (some ⟨gq, 0, none⟩) (n - 1) c)).toArray := by
      rw [← hw4]
      have := HSL3.out.put q (.slice (some ⟨gq, 0, none⟩) (n - 1) c)
      rwa [List.setIfInBounds_toArray] at this
    have hlen : (slotL q (rem x.o x.k T)).length = n - 1 := by
      rw [← HRM.out.1, List.length_append, List.length_take, List.length_drop, HN.out]
      omega
    have hr4 : RowT w4 0 (some ⟨gq, 0, none⟩) c (slotL q (rem x.o x.k T)) := by
      rw [← HRM.out.1]
      refine row_keep HR3.out fun j cs' e hw => ?_
      injection e with e
      injection e with e
      subst e
      rw [← hw4]
      exact hw.far (fun e => HSG.out e.symm) _
    have hg24 : ∀ j t cc, j ≠ s → blk cs q ≠ some j → Whole w2 j t cc → Whole w4 j t cc := fun j t cc h1 h2 hw => by
      have h3 : Whole w3 j t cc := (HG3.out.block j hw.lt (fun e => h2 (by rw [HBK.out, e]))).trans hw
      rw [← hw4]
      exact h3.far h1 _
    have hwm := HW2.out.turn (T' := rem x.o x.k T) (D' := D.del (klN Try.prog 67 x.o x.k)) (F' := F) q HQ.out hr4 (by rw [hlen]; exact hsl4) HOTH.out hg24 (fun j e => by
      injection e with e
      injection e with e
      subst e
      exact ⟨.inl HBK.out, HW2.out.fr q gq HBK.out⟩) (fun _ h => h) HD.out HGD.out
    have hgs4 : w3.grownBy w4 (some s) := by
      rw [← hw4]
      exact ⟨rfl, rfl, rfl, by simp, fun i hi hne => Below.heap_setCell w3 ⟨s, q, none⟩ _ i (fun e => hne (by rw [e]))⟩
    have hp3 := HMK.out.keep _ _ _ (some gq) HP2.out HG3.out (fun j e => ⟨_, _, (Option.some.inj e) ▸ HCUR2.out⟩)
    have hp4 := HMK.out.keep _ _ _ (some s) hp3 hgs4 (fun j e => ⟨_, _, (Option.some.inj e) ▸ HSL3.out⟩)
    rw [hw4]
    refine .inr ⟨x, rfl, rfl, ?_, _, hwm, hp4⟩
    exact ((HFK1.out.trans (Fk.of_below (F := F) HB2.out) (fun _ _ h => h)).trans (Fk.grown (F := F) HG3.out (fun j e => by injection e with e; rw [← e]; exact HW2.out.fr q gq HBK.out)) (fun _ _ h => h)).trans (Fk.grown (F := F) hgs4 (fun j e => by injection e with e; rw [← e]; exact HW2.out.fs)) (fun _ _ h => h)
end Wh
end Go.Proofs.Ytgbahkkccpcadaa
