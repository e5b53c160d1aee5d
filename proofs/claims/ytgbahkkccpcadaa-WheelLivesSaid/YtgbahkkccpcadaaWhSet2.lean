/- Package wheel: Set, where it sets. -/
import Derived.Test.YtgbahkkccpcadaaWhSet
namespace Go.Proofs.Ytgbahkkccpcadaa
namespace Wh
open Go.ChangeShapes Go.WideShapes Go.ChangeAt Go.RowKit Go.Maps
open Num Mem Words Chacha Aead Poly Quiet RowV RowS Ops EqLits Stamp

/-- behind the clearing -/
structure SetW (w : World) (F : Nat → Prop) (g b s : Nat) (now : Int) (T1 : List Tm) (D1 : DataW Unit) (cs1 : List Value) (X : World) : Prop where
  wm : WM X F g b s now T1 D1 cs1
  st : Still b X D1
  fk : Fk F w X
def SetE (w : World) (F : Nat → Prop) (g b s : Nat) (now : Int) (T1 : List Tm) (X : World) : Prop := ∃ D1 cs1, SetW w F g b s now T1 D1 cs1 X

set_option maxRecDepth 100000 in
set_option maxHeartbeats 4000000 in
theorem set_ok {w : World} {F : Nat → Prop} {g : Nat} {now : Int} {T : List Tm} (h : WW w F g now T) (o k t : Int) (ho : 0 ≤ o) (hk : 0 ≤ k) (hio : okI o) (hik : okI k) (hoh : o ≤ 9223372036854775807) (hkh : k ≤ 9223372036854775807) (ht : right t) (htn : now ≤ t) (hf : findT o k T = none → T.length < 64) :
    Calls Try.prog 17 #[.pointer (some ⟨g, 0, none⟩), .int .i64 o, .int .i64 k, .int .i64 t] w fun e w' => e = .returned (.int .i64 0) ∧ WW w' (ext F w) g now (ins ⟨o, k, t⟩ (rem o k T)) ∧ Fk F w w' := by
  have hrn : right now := ⟨h.good.nn, h.good.nm⟩
  obtain ⟨b, s, D, cs, h1, h2⟩ := h
  have HN := Lib.hid (none_some g s _ _ w h1.obj)
  have c0 : w.cell? ⟨g, 0, none⟩ = some (.int .i64 now) := h1.obj.cell 0
  have HSP := Lib.hid (show Calls Try.prog 29 #[.int .i64 now, .int .i64 t] w fun e w' => e = .returned (.tuple #[.int .i64 (spanV now t), .int .i64 0]) ∧ w = w' from (span_any now t w).mono (by
    rintro e w' ⟨rfl, rfl⟩
    unfold spanE
    rw [if_pos ⟨hrn, ht, htn⟩]
    exact ⟨rfl, rfl⟩))
  generalize spanV now t = v at HSP
  have HC := Lib.hid (clear_gen (still_k b) h1 h2 o k hio hik)
  have d1 : decide (o < 0) = false := decide_eq_false (by omega)
  have d2 : decide (k < 0) = false := decide_eq_false (by omega)
  have HIO := Lib.hid hio
  have HIK := Lib.hid hik
  have HT := Lib.hid (show 0 ≤ t ∧ t ≤ 1099511627776 ∧ now ≤ t from ⟨ht.1, ht.2, htn⟩)
  have HG := Lib.hid h1.good
  have H1 := Lib.hid h1
  have H2 := Lib.hid h2
  have HF := Lib.hid hf
  have HRN := Lib.hid (show ∀ y ∈ rem o k T, ¬ (y.o = o ∧ y.k = k) from fun y hy => (mem_rem.1 hy).2)
  obtain ⟨T1, hT1⟩ : ∃ T1, rem o k T = T1 := ⟨_, rfl⟩
  rw [hT1] at HC HRN ⊢
  have HT1 := Lib.hid hT1
  clear h1 h2 hio hik ht htn hrn hf hT1
  go_enter Try.func17, Try.ntmps17
  go_wp2_with fail
  refine HN.out.mono ?_
  rintro e w1 ⟨rfl, rfl⟩
  go_wp2_with fail
  refine HSP.out.mono ?_
  rintro e w1 ⟨rfl, rfl⟩
  go_wp2_with fail
  refine HC.out.mono ?_
  rintro e w1 hw1
  rcases hw1 with ⟨hfn, rfl, rfl⟩ | ⟨x, hfx, rfl, hfk, cs1, hwm, hst⟩
  · have hlt := HF.out hfn
    have c1 : w.cell? ⟨g, 1, none⟩ = some (.map (some b)) := H1.out.obj.cell 1
    have hln := (still_k b).len H2.out
    rw [H1.out.ag.sz] at hln
    obtain ⟨n, hn⟩ : ∃ n, T.length = n := ⟨_, rfl⟩
    rw [hn] at hln hlt
    have hnn : ¬ (64 ≤ (n : Int)) := by omega
    have HE := Lib.hid (show SetE w F g b s now T1 w from ⟨D, cs, by
      have e : T1 = T := by rw [← HT1.out]; exact rem_none (find_none hfn)
      rw [e]
      exact ⟨H1.out, H2.out, Fk.refl _ _⟩⟩)
    have HL := Lib.hid (show T1.length < 64 from by
      have e : T1 = T := by rw [← HT1.out]; exact rem_none (find_none hfn)
      rw [e, hn]; exact hlt)
    clear HC H1 H2 hfn HF
    go_upto_region 9 with fail
    obtain ⟨t11, ht11⟩ : ∃ t11, w.heap.size = t11 := ⟨_, rfl⟩
    refine cut_world (fun X => Whole X t11 38 #[.int .i64 o, .int .i64 k, .int .i64 t] ∧ ∃ D1 cs1, SetW w F g b s now T1 D1 cs1 X ∧ ∀ q j, blk cs1 q = some j → j ≠ t11) (by
      obtain ⟨D1, cs1, he⟩ := HE.out
      have hb := below_alloc (Below.refl w.heap.size w) (.cells #[Value.int .i64 o, .int .i64 k, .int .i64 t] 38)
      exact ⟨whole_new _ _ ht11, D1, cs1, ⟨he.wm.below hb, he.st.below hb, he.fk.trans (Fk.of_below (F := F) hb) (fun _ _ h => h)⟩, fun q j e => by obtain ⟨_, c, hw⟩ := he.wm.blk_lt e; have := hw.lt; omega⟩) ?_
    try rw [ht11]
    clear HE c0 c1
    rintro X ⟨hv, D1, cs1, hE, hne⟩
    have HV := Lib.hid hv
    have HE := Lib.hid hE
    have HNT := Lib.hid hne
    obtain ⟨n0, _, hown⟩ := hE.st
    have htight := own_tight hown
    rw [hE.wm.ag.sz] at htight
    have HOW := Lib.hid htight
    have HTD := Lib.hid (hown.tidy keyedN)
    have HKY := Lib.hid (key_name HIO.out HIK.out)
    unfold nmV at HKY
    have HLM := Lib.hid (show T1.length < maxLen from by have := HL.out; unfold maxLen; omega)
    have c1 : X.cell? ⟨g, 1, none⟩ = some (.map (some b)) := hE.wm.obj.cell 1
    clear hv hE hne hown htight ht11
    go_upto_region 10 with (refine wpList_mapUpdate_in _ rfl (.tmp 56) (.tmp 59) (.tmp 60) 47 rfl 67 2 keyedN Try.underlying47 i64R b T1.length D1 rfl HOW.out HLM.out _ (.int .i64 t) _ rfl rfl HKY.out _ _ rfl ?_; intro w2 hown2 hturn2)
    simp only [Act.put]
    have hg2 : X.grownBy w2 (some b) := by
      have h := hturn2.grown
      exact ⟨h.os, h.tape, h.output, h.size, h.block⟩
    have hwm2 := HE.out.wm.map hg2 HOW.out
    have hbt : b ≠ t11 := fun e => owns_row HOW.out HV.out e.symm
    have hv2 := whole_grown HV.out hg2 hbt
    have hfk2 : Fk F w w2 := HE.out.fk.trans (Fk.grown (F := F) hg2 (fun j e => by injection e with e; rw [← e]; exact HE.out.wm.fb)) (fun _ _ h => h)
    have hag2 := HE.out.wm.ag.put (x := ⟨o, k, t⟩) HE.out.wm.good HTD.out HIO.out HIK.out HRN.out
    have hgd2 := Good.ins HE.out.wm.good (x := ⟨o, k, t⟩) HRN.out ⟨ho, hoh, hk, hkh, HT.out.2.2, HT.out.2.1⟩ HL.out
    have HAG := Lib.hid hag2
    have HGD := Lib.hid hgd2
    have HST2 := Lib.hid (show Still b w2 (D1.put (klN Try.prog 67 o k) (.lit (.int .i64 t))) from ⟨_, by have := HL.out; omega, hown2⟩)
    have HSO := Lib.hid (slot_any g s _ _ t HT.out.1 HT.out.2.1 w2 hwm2.obj)
    have hrm := slot_ins hwm2.good.srt ⟨o, k, t⟩
    have hoth : ∀ q' : Nat, q' ≠ sl t → slotL q' (ins ⟨o, k, t⟩ T1) = slotL q' T1 := fun q' e => slot_ins_other hwm2.good.srt e
    have hsrt : Srt (slotL (sl t) T1) := hwm2.good.srt.filter _
    have hSl : (slotL (sl t) T1).length ≤ 64 := Nat.le_trans (List.length_filter_le _ _) hwm2.good.room
    have hql := sl_lt t
    obtain ⟨q, hq⟩ : ∃ q, sl t = q := ⟨_, rfl⟩
    dsimp only at hrm
    rw [hq] at HSO hsrt hrm hoth hSl hql
    obtain ⟨A, c, hcq, hrow⟩ := hwm2.row q hql
    obtain ⟨S, hS⟩ : ∃ S, slotL q T1 = S := ⟨_, rfl⟩
    rw [hS] at hsrt hrm hSl hcq hrow
    obtain ⟨i, hi⟩ : ∃ i, pos ⟨o, k, t⟩ S = i := ⟨_, rfl⟩
    rw [hi] at hrm
    have HB := Lib.hid (fun (W : World) (hb : Below w2.heap.size w2 W) => bsearch_any S ⟨o, k, t⟩ hsrt (row_keep hrow (fun j cs' _ hw => hw.below hb hw.lt)) (by omega))
    have hil : i ≤ S.length := by rw [← hi]; exact pos_le _ _
    obtain ⟨fb, hfb⟩ : ∃ fb, fnd ⟨o, k, t⟩ S = fb := ⟨_, rfl⟩
    rw [hi, hfb] at HB
    obtain ⟨n, hn⟩ : ∃ n, S.length = n := ⟨_, rfl⟩
    rw [hn] at HB hSl hil hcq
    have cq : w2.cell? ⟨s, q, none⟩ = some (.slice A n c) := by rw [hwm2.slots.cell, List.getElem?_toArray, hcq]
    have HW2 := Lib.hid hwm2
    have HV2 := Lib.hid hv2
    have HFK2 := Lib.hid hfk2
    have HRW := Lib.hid hrow
    have HRM := Lib.hid hrm
    have HOTH := Lib.hid hoth
    have HS := Lib.hid hS
    have HN2 := Lib.hid hn
    have HQ := Lib.hid hql
    have HCQ := Lib.hid hcq
    have HCW := Lib.hid cq
    unfold tmV tmL at HB
    clear hfb hwm2 hg2 hturn2 hown2 hrow hcq hS hn hrm hoth hsrt c1 hi hq hql hv2 hfk2 hag2 hgd2 hbt HOW HTD HKY HLM
    go_wp2_with fail
    refine HSO.out.mono ?_
    rintro e w3 ⟨rfl, rfl⟩
    clear HSO
    go_upto_region 11 with fail
    refine q_start (by kernel_rfl) (by kernel_rfl) ?_
    refine q_take _ (by rfl) (fun X hx => by go_simp; try with_reducible rfl) ?_
    try simp only [Act.put, List.setIfInBounds_toArray, List.set_cons_zero, List.set_cons_succ]
    refine q_take _ (by rfl) (fun X hx => by go_simp; try with_reducible rfl) ?_
    try simp only [Act.put, List.setIfInBounds_toArray, List.set_cons_zero, List.set_cons_succ]
    refine q_take (.slice A n c) (by rfl) (fun X hx => by have cl := (hx.cell (p := ⟨s, q, none⟩) HW2.out.slots.lt).trans HCW.out; go_simp; try with_reducible rfl) ?_
    try simp only [Act.put, List.setIfInBounds_toArray, List.set_cons_zero, List.set_cons_succ]
    refine q_take _ (by rfl) (fun X hx => run_load_in 38 (.tmp 11) rfl t11 rfl #[.int .i64 o, .int .i64 k, .int .i64 t] 3 rfl (HV2.out.below hx HV2.out.lt) rfl rfl (by kernel_rfl)) ?_
    try simp only [Act.put, List.setIfInBounds_toArray, List.set_cons_zero, List.set_cons_succ]
    refine q_call (.tuple #[.int .i64 i, .bool fb]) 31 #[.slice A n c, .agg #[.int .i64 o, .int .i64 k, .int .i64 t], .func (.func 28) #[] #[]] (by rfl) (by intro w; go_simp; try with_reducible rfl) (fun X hx => (HB.out X hx).mono (fun e w' ⟨h1, h2⟩ => ⟨h1, below_trans hx h2⟩)) ?_
    try simp only [Act.put, List.setIfInBounds_toArray, List.set_cons_zero, List.set_cons_succ]
    refine q_take _ (by rfl) (fun X hx => by go_simp; try with_reducible rfl) ?_
    try simp only [Act.put, List.setIfInBounds_toArray, List.set_cons_zero, List.set_cons_succ]
    refine q_take _ (by rfl) (fun X hx => by go_simp; try with_reducible rfl) ?_
    try simp only [Act.put, List.setIfInBounds_toArray, List.set_cons_zero, List.set_cons_succ]
    refine q_take _ (by rfl) (fun X hx => by go_simp; try with_reducible rfl) ?_
    try simp only [Act.put, List.setIfInBounds_toArray, List.set_cons_zero, List.set_cons_succ]
    refine q_take _ (by rfl) (fun X hx => by go_simp; try with_reducible rfl) ?_
    try simp only [Act.put, List.setIfInBounds_toArray, List.set_cons_zero, List.set_cons_succ]
    refine q_take _ (by rfl) (fun X hx => by go_simp; try with_reducible rfl) ?_
    try simp only [Act.put, List.setIfInBounds_toArray, List.set_cons_zero, List.set_cons_succ]
    refine wpQuiet_nil ?_
    intro w4 hb4
    have HW4 := Lib.hid (HW2.out.below hb4)
    have HV4 := Lib.hid (HV2.out.below hb4 HV2.out.lt)
    have HST4 := Lib.hid (HST2.out.below hb4)
    have HFK4 := Lib.hid (HFK2.out.trans (Fk.of_below (F := F) hb4) (fun _ _ h => h))
    have HR4 := Lib.hid (row_keep HRW.out (fun j cs' _ hw => hw.below hb4 hw.lt))
    have HIL := Lib.hid hil
    have HBK := Lib.hid (show blk cs1 q = (Value.slice A n c).ownBlock from by unfold blk; rw [HCQ.out]; rfl)
    have c4 : w4.cell? ⟨s, q, none⟩ = some (.slice A n c) := by rw [HW4.out.slots.cell, List.getElem?_toArray]; exact HCQ.out
    clear HB hb4 HW2 HV2 HST2 HFK2 HRW hil HCW cq
    go_upto_region 12 with fail
    obtain ⟨W6, hW6⟩ : ∃ W6, (w4.alloc (.cells #[.int .i64 o, .int .i64 k, .int .i64 t] 38)).drew = W6 := ⟨_, rfl⟩
    have hb6 : Below w4.heap.size w4 W6 := by rw [← hW6]; exact (below_alloc (Below.refl _ _) _).drew
    have HV6 := Lib.hid (HV4.out.below hb6 HV4.out.lt)
    have HW6 := Lib.hid (HW4.out.below hb6)
    have HST6 := Lib.hid (HST4.out.below hb6)
    have HFK6 := Lib.hid (HFK4.out.trans (Fk.of_below (F := F) hb6) (fun _ _ h => h))
    have c6 : W6.cell? ⟨s, q, none⟩ = some (.slice A n c) := by rw [HW6.out.slots.cell, List.getElem?_toArray]; exact HCQ.out
    have hrl : ∀ j, A = some ⟨j, 0, none⟩ → blk cs1 q = some j := fun j e => by rw [HBK.out, e]; rfl
    have HI := Lib.hid (insert_any (w := W6) (B := 0) (c := c) (vb := w4.heap.size) (A := A) (L := S) i (by rw [HN2.out]; exact HIL.out) (by rw [HN2.out]; omega) (row_keep HR4.out (fun j cs' _ hw => hw.below hb6 hw.lt)) (Nat.zero_le _) ⟨o, k, t⟩ (by rw [← hW6]; exact whole_new _ _ rfl) (fun j e => by
      obtain ⟨_, cc, hw⟩ := HW4.out.blk_lt (hrl j e)
      have := hw.lt
      omega))
    rw [HN2.out] at HI
    have hob : ∀ j, (Value.slice A n c).ownBlock = some j → blk cs1 q = some j := fun j e => by rw [HBK.out]; exact e
    have HNE := Lib.hid (show (Value.slice A n c).ownBlock ≠ some t11 from fun e => HNT.out q t11 (hob _ e) rfl)
    have HNS := Lib.hid (show (Value.slice A n c).ownBlock ≠ some s from fun e => by obtain ⟨_, cc, hw⟩ := HW4.out.blk_lt (hob _ e); exact absurd (whole_type hw HW4.out.slots) (by decide))
    have HW6E := Lib.hid hW6
    clear hb6 hrl hob hW6
    refine region_drew (fun V => Whole V t11 38 #[.int .i64 o, .int .i64 k, .int .i64 t]) (by kernel_rfl) HV4.out (fun hS => ?_)
    refine take 0 _ rfl (by kernel_rfl) (by kernel_rfl) (by kernel_rfl) (fun _ _ _ h => h) (by rfl) hS (by intro w _; go_simp; with_reducible rfl) ?_
    try simp only [Act.put, List.setIfInBounds_toArray, List.set_cons_zero, List.set_cons_succ]
    refine take 1 _ rfl (by kernel_rfl) (by kernel_rfl) (by kernel_rfl) (fun _ _ _ h => h) (by rfl) hS (by intro w _; go_simp; with_reducible rfl) ?_
    try simp only [Act.put, List.setIfInBounds_toArray, List.set_cons_zero, List.set_cons_succ]
    refine take 2 _ rfl (by kernel_rfl) (by kernel_rfl) (by kernel_rfl) (fun _ _ _ h => h) (by rfl) hS (by intro w _; go_simp; with_reducible rfl) ?_
    try simp only [Act.put, List.setIfInBounds_toArray, List.set_cons_zero, List.set_cons_succ]
    refine take 4 _ rfl (by kernel_rfl) (by kernel_rfl) (by kernel_rfl) (fun _ _ _ h => h) (by rfl) hS (by intro w _; go_simp; with_reducible rfl) ?_
    try simp only [Act.put, List.setIfInBounds_toArray, List.set_cons_zero, List.set_cons_succ]
    refine take 5 _ rfl (by kernel_rfl) (by kernel_rfl) (by kernel_rfl) (fun _ _ _ h => h) (by rfl) hS (fun w hw => run_load_op 38 (.tmp 11) rfl (t11) rfl (hw) rfl rfl (by kernel_rfl)) ?_
    try simp only [Act.put, List.setIfInBounds_toArray, List.set_cons_zero, List.set_cons_succ]
    refine ready_two 3 6 rfl rfl (by kernel_rfl) (by rfl) (by rfl) ?_ ?_
    · intro K hK
      go_simp
      refine hK.out _ _ hS ?_
      clear hK K
      try simp only [Act.put, List.setIfInBounds_toArray, List.set_cons_zero, List.set_cons_succ]
      refine alone 6 rfl (by kernel_rfl) (by rfl) ?_
      intro K hK
      go_simp
      have e6 := HW6E.out
      refine hK.out _ _ (by rw [e6]; exact HV6.out) ?_
      rw [e6]
      clear hK K e6
      try simp only [Act.put, List.setIfInBounds_toArray, List.set_cons_zero, List.set_cons_succ]
      refine alone 7 rfl (by kernel_rfl) (by rfl) ?_
      intro K hK
      go_simp
      refine HI.out.mono ?_
      rintro e w5 ⟨A', c', rfl, hr5, hg5, hl5⟩
      have hv5 : Whole w5 t11 38 #[.int .i64 o, .int .i64 k, .int .i64 t] := (hg5.block t11 (Whole.lt HV6.out) (fun e => HNE.out e.symm)).trans HV6.out
      have hs5 : Whole w5 s 63 cs1.toArray := (hg5.block s HW6.out.slots.lt (fun e => HNS.out e.symm)).trans HW6.out.slots
      have c5 : w5.cell? ⟨s, q, none⟩ = some (.slice A n c) := by rw [hs5.cell, List.getElem?_toArray]; exact HCQ.out
      have f5 : w5.frozen? ⟨s, q, none⟩ = false := hs5.free q
      have R5 := Lib.hid hr5
      have G5 := Lib.hid hg5
      have L5 := Lib.hid hl5
      have S5 := Lib.hid hs5
      have V5 := Lib.hid hv5
      clear hr5 hg5 hl5 hs5 HI
      refine hK.out _ _ (by exact hv5) ?_
      clear hK K
      try simp only [Act.put, List.setIfInBounds_toArray, List.set_cons_zero, List.set_cons_succ]
      have hS := hv5
      clear hv5
      refine take 8 _ rfl (by kernel_rfl) (by kernel_rfl) (by kernel_rfl) (fun _ _ _ h => h) (by rfl) hS (by intro w _; go_simp; with_reducible rfl) ?_
      try simp only [Act.put, List.setIfInBounds_toArray, List.set_cons_zero, List.set_cons_succ]
      refine alone 9 rfl (by kernel_rfl) (by rfl) ?_
      intro K hK
      go_simp
      refine hK.out _ _ (by exact V5.out.far (by rintro rfl; exact absurd (whole_type V5.out S5.out) (by decide)) _) ?_
      clear hK K
      try simp only [Act.put]
      refine region_end (by kernel_rfl) ?_
      go_wp2_with fail
      go_ret
      refine ⟨rfl, ?_⟩
      obtain ⟨w7, hw7⟩ : ∃ w7, w5.setCell ⟨s, q, none⟩ (.slice A' (n + 1) c') = w7 := ⟨_, rfl⟩
      rw [hw7]
      have hlen : (slotL q (ins ⟨o, k, t⟩ T1)).length = n + 1 := by
        have := HIL.out
        rw [← HRM.out, List.length_append, List.length_cons, List.length_take, List.length_drop, HN2.out]
        omega
      have hsl7 : Whole w7 s 63 (cs1.set q (.slice A' (n + 1) c')).toArray := by
        rw [← hw7]
        have := S5.out.put q (.slice A' (n + 1) c')
        rwa [List.setIfInBounds_toArray] at this
      have hne7 : ∀ j cs', A' = some ⟨j, 0, none⟩ → Whole w5 j 38 cs' → j ≠ s := fun j cs' _ hw => by rintro rfl; exact absurd (whole_type hw S5.out) (by decide)
      have hr7 : RowT w7 0 A' c' (slotL q (ins ⟨o, k, t⟩ T1)) := by
        rw [← HRM.out]
        refine row_keep R5.out fun j cs' e hw => ?_
        rw [← hw7]
        exact hw.far (hne7 j cs' e hw) _
      have hk7 : ∀ j t' cc, j ≠ s → blk cs1 q ≠ some j → Whole W6 j t' cc → Whole w7 j t' cc := fun j t' cc h1 h2 hw => by
        have h3 : Whole w5 j t' cc := (G5.out.block j hw.lt (fun e => h2 (by rw [HBK.out]; exact e.symm))).trans hw
        rw [← hw7]
        exact h3.far h1 _
      have hXs : w.heap.size ≤ (W6).heap.size := HFK6.out.size
      have hwm := HW6.out.turn (T' := ins ⟨o, k, t⟩ T1) (D' := D1.put (klN Try.prog 67 o k) (.lit (.int .i64 t))) (F' := ext F w) q HQ.out hr7 (by rw [hlen]; exact hsl7) HOTH.out hk7 (fun j e => by
        rcases L5.out with h | ⟨g', h, hge⟩
        · rw [e] at h
          have hb : blk cs1 q = some j := by rw [HBK.out, ← h]; rfl
          exact ⟨.inl hb, .inl (HW6.out.fr q j hb)⟩
        · rw [e] at h
          injection h with h
          injection h with h
          subst h
          exact ⟨.inr hge, .inr (Nat.le_trans hXs hge)⟩) (fun _ h => .inl h) HAG.out HGD.out
      have hg57 : w5.grownBy w7 (some s) := by
        rw [← hw7]
        exact ⟨rfl, rfl, rfl, by simp, fun i hi hne => Below.heap_setCell w5 ⟨s, q, none⟩ _ i (fun e => hne (by rw [e]))⟩
      have hrb : ∀ j, (Value.slice A n c).ownBlock = some j → ∃ t cs, Whole W6 j t cs := fun j e => by
        have hb : blk cs1 q = some j := by rw [HBK.out]; exact e
        obtain ⟨_, cc, hw⟩ := HW6.out.blk_lt hb
        exact ⟨_, _, hw⟩
      have hp5 := (still_k b).keep _ _ _ _ HST6.out G5.out hrb
      have hp7 := (still_k b).keep _ _ _ (some s) hp5 hg57 (fun j e => ⟨_, _, (Option.some.inj e) ▸ S5.out⟩)
      refine ⟨⟨b, s, _, _, hwm, hp7⟩, ?_⟩
      exact (HFK6.out.trans (Fk.grown (F := F) G5.out (fun j e => by
        have hb : blk cs1 q = some j := by rw [HBK.out]; exact e
        exact HW6.out.fr q j hb)) (fun _ _ h => h)).trans (Fk.grown (F := F) hg57 (fun j e => by injection e with e; rw [← e]; exact HW6.out.fs)) (fun _ _ h => h)
    · intro K hK
      go_simp
      have e6 := HW6E.out
      refine hK.out _ _ (by rw [e6]; exact HV6.out) ?_
      rw [e6]
      clear hK K e6
      try simp only [Act.put, List.setIfInBounds_toArray, List.set_cons_zero, List.set_cons_succ]
      refine alone 3 rfl (by kernel_rfl) (by rfl) ?_
      intro K hK
      go_simp
      refine hK.out _ _ (by exact HV6.out) ?_
      clear hK K
      try simp only [Act.put, List.setIfInBounds_toArray, List.set_cons_zero, List.set_cons_succ]
      refine alone 7 rfl (by kernel_rfl) (by rfl) ?_
      intro K hK
      go_simp
      refine HI.out.mono ?_
      rintro e w5 ⟨A', c', rfl, hr5, hg5, hl5⟩
      have hv5 : Whole w5 t11 38 #[.int .i64 o, .int .i64 k, .int .i64 t] := (hg5.block t11 (Whole.lt HV6.out) (fun e => HNE.out e.symm)).trans HV6.out
      have hs5 : Whole w5 s 63 cs1.toArray := (hg5.block s HW6.out.slots.lt (fun e => HNS.out e.symm)).trans HW6.out.slots
      have c5 : w5.cell? ⟨s, q, none⟩ = some (.slice A n c) := by rw [hs5.cell, List.getElem?_toArray]; exact HCQ.out
      have f5 : w5.frozen? ⟨s, q, none⟩ = false := hs5.free q
      have R5 := Lib.hid hr5
      have G5 := Lib.hid hg5
      have L5 := Lib.hid hl5
      have S5 := Lib.hid hs5
      have V5 := Lib.hid hv5
      clear hr5 hg5 hl5 hs5 HI
      refine hK.out _ _ (by exact hv5) ?_
      clear hK K
      try simp only [Act.put, List.setIfInBounds_toArray, List.set_cons_zero, List.set_cons_succ]
      have hS := hv5
      clear hv5
      refine take 8 _ rfl (by kernel_rfl) (by kernel_rfl) (by kernel_rfl) (fun _ _ _ h => h) (by rfl) hS (by intro w _; go_simp; with_reducible rfl) ?_
      try simp only [Act.put, List.setIfInBounds_toArray, List.set_cons_zero, List.set_cons_succ]
      refine alone 9 rfl (by kernel_rfl) (by rfl) ?_
      intro K hK
      go_simp
      refine hK.out _ _ (by exact V5.out.far (by rintro rfl; exact absurd (whole_type V5.out S5.out) (by decide)) _) ?_
      clear hK K
      try simp only [Act.put]
      refine region_end (by kernel_rfl) ?_
      go_wp2_with fail
      go_ret
      refine ⟨rfl, ?_⟩
      obtain ⟨w7, hw7⟩ : ∃ w7, w5.setCell ⟨s, q, none⟩ (.slice A' (n + 1) c') = w7 := ⟨_, rfl⟩
      rw [hw7]
      have hlen : (slotL q (ins ⟨o, k, t⟩ T1)).length = n + 1 := by
        have := HIL.out
        rw [← HRM.out, List.length_append, List.length_cons, List.length_take, List.length_drop, HN2.out]
        omega
      have hsl7 : Whole w7 s 63 (cs1.set q (.slice A' (n + 1) c')).toArray := by
        rw [← hw7]
        have := S5.out.put q (.slice A' (n + 1) c')
        rwa [List.setIfInBounds_toArray] at this
      have hne7 : ∀ j cs', A' = some ⟨j, 0, none⟩ → Whole w5 j 38 cs' → j ≠ s := fun j cs' _ hw => by rintro rfl; exact absurd (whole_type hw S5.out) (by decide)
      have hr7 : RowT w7 0 A' c' (slotL q (ins ⟨o, k, t⟩ T1)) := by
        rw [← HRM.out]
        refine row_keep R5.out fun j cs' e hw => ?_
        rw [← hw7]
        exact hw.far (hne7 j cs' e hw) _
      have hk7 : ∀ j t' cc, j ≠ s → blk cs1 q ≠ some j → Whole W6 j t' cc → Whole w7 j t' cc := fun j t' cc h1 h2 hw => by
        have h3 : Whole w5 j t' cc := (G5.out.block j hw.lt (fun e => h2 (by rw [HBK.out]; exact e.symm))).trans hw
        rw [← hw7]
        exact h3.far h1 _
      have hXs : w.heap.size ≤ (W6).heap.size := HFK6.out.size
      have hwm := HW6.out.turn (T' := ins ⟨o, k, t⟩ T1) (D' := D1.put (klN Try.prog 67 o k) (.lit (.int .i64 t))) (F' := ext F w) q HQ.out hr7 (by rw [hlen]; exact hsl7) HOTH.out hk7 (fun j e => by
        rcases L5.out with h | ⟨g', h, hge⟩
        · rw [e] at h
          have hb : blk cs1 q = some j := by rw [HBK.out, ← h]; rfl
          exact ⟨.inl hb, .inl (HW6.out.fr q j hb)⟩
        · rw [e] at h
          injection h with h
          injection h with h
          subst h
          exact ⟨.inr hge, .inr (Nat.le_trans hXs hge)⟩) (fun _ h => .inl h) HAG.out HGD.out
      have hg57 : w5.grownBy w7 (some s) := by
        rw [← hw7]
        exact ⟨rfl, rfl, rfl, by simp, fun i hi hne => Below.heap_setCell w5 ⟨s, q, none⟩ _ i (fun e => hne (by rw [e]))⟩
      have hrb : ∀ j, (Value.slice A n c).ownBlock = some j → ∃ t cs, Whole W6 j t cs := fun j e => by
        have hb : blk cs1 q = some j := by rw [HBK.out]; exact e
        obtain ⟨_, cc, hw⟩ := HW6.out.blk_lt hb
        exact ⟨_, _, hw⟩
      have hp5 := (still_k b).keep _ _ _ _ HST6.out G5.out hrb
      have hp7 := (still_k b).keep _ _ _ (some s) hp5 hg57 (fun j e => ⟨_, _, (Option.some.inj e) ▸ S5.out⟩)
      refine ⟨⟨b, s, _, _, hwm, hp7⟩, ?_⟩
      exact (HFK6.out.trans (Fk.grown (F := F) G5.out (fun j e => by
        have hb : blk cs1 q = some j := by rw [HBK.out]; exact e
        exact HW6.out.fr q j hb)) (fun _ _ h => h)).trans (Fk.grown (F := F) hg57 (fun j e => by injection e with e; rw [← e]; exact HW6.out.fs)) (fun _ _ h => h)
  · have HE := Lib.hid (show SetE w F g b s now T1 w1 from ⟨_, cs1, hwm, hst, hfk⟩)
    have HL := Lib.hid (show T1.length < 64 from by
      obtain ⟨hx, rfl, rfl⟩ := find_some hfx
      have := length_rem HG.out.srt HG.out.unq hx
      rw [HT1.out] at this
      have := HG.out.room
      omega)
    clear HC H1 H2 hfx HF hfk hwm hst
    go_upto_region 9 with fail
    obtain ⟨t11, ht11⟩ : ∃ t11, w1.heap.size = t11 := ⟨_, rfl⟩
    refine cut_world (fun X => Whole X t11 38 #[.int .i64 o, .int .i64 k, .int .i64 t] ∧ ∃ D1 cs1, SetW w F g b s now T1 D1 cs1 X ∧ ∀ q j, blk cs1 q = some j → j ≠ t11) (by
      obtain ⟨D1, cs1, he⟩ := HE.out
      have hb := below_alloc (Below.refl w1.heap.size w1) (.cells #[Value.int .i64 o, .int .i64 k, .int .i64 t] 38)
      exact ⟨whole_new _ _ ht11, D1, cs1, ⟨he.wm.below hb, he.st.below hb, he.fk.trans (Fk.of_below (F := F) hb) (fun _ _ h => h)⟩, fun q j e => by obtain ⟨_, c, hw⟩ := he.wm.blk_lt e; have := hw.lt; omega⟩) ?_
    try rw [ht11]
    clear HE c0
    rintro X ⟨hv, D1, cs1, hE, hne⟩
    have HV := Lib.hid hv
    have HE := Lib.hid hE
    have HNT := Lib.hid hne
    obtain ⟨n0, _, hown⟩ := hE.st
    have htight := own_tight hown
    rw [hE.wm.ag.sz] at htight
    have HOW := Lib.hid htight
    have HTD := Lib.hid (hown.tidy keyedN)
    have HKY := Lib.hid (key_name HIO.out HIK.out)
    unfold nmV at HKY
    have HLM := Lib.hid (show T1.length < maxLen from by have := HL.out; unfold maxLen; omega)
    have c1 : X.cell? ⟨g, 1, none⟩ = some (.map (some b)) := hE.wm.obj.cell 1
    clear hv hE hne hown htight ht11
    go_upto_region 10 with (refine wpList_mapUpdate_in _ rfl (.tmp 56) (.tmp 59) (.tmp 60) 47 rfl 67 2 keyedN Try.underlying47 i64R b T1.length D1 rfl HOW.out HLM.out _ (.int .i64 t) _ rfl rfl HKY.out _ _ rfl ?_; intro w2 hown2 hturn2)
    simp only [Act.put]
    have hg2 : X.grownBy w2 (some b) := by
      have h := hturn2.grown
      exact ⟨h.os, h.tape, h.output, h.size, h.block⟩
    have hwm2 := HE.out.wm.map hg2 HOW.out
    have hbt : b ≠ t11 := fun e => owns_row HOW.out HV.out e.symm
    have hv2 := whole_grown HV.out hg2 hbt
    have hfk2 : Fk F w w2 := HE.out.fk.trans (Fk.grown (F := F) hg2 (fun j e => by injection e with e; rw [← e]; exact HE.out.wm.fb)) (fun _ _ h => h)
    have hag2 := HE.out.wm.ag.put (x := ⟨o, k, t⟩) HE.out.wm.good HTD.out HIO.out HIK.out HRN.out
    have hgd2 := Good.ins HE.out.wm.good (x := ⟨o, k, t⟩) HRN.out ⟨ho, hoh, hk, hkh, HT.out.2.2, HT.out.2.1⟩ HL.out
    have HAG := Lib.hid hag2
    have HGD := Lib.hid hgd2
    have HST2 := Lib.hid (show Still b w2 (D1.put (klN Try.prog 67 o k) (.lit (.int .i64 t))) from ⟨_, by have := HL.out; omega, hown2⟩)
    have HSO := Lib.hid (slot_any g s _ _ t HT.out.1 HT.out.2.1 w2 hwm2.obj)
    have hrm := slot_ins hwm2.good.srt ⟨o, k, t⟩
    have hoth : ∀ q' : Nat, q' ≠ sl t → slotL q' (ins ⟨o, k, t⟩ T1) = slotL q' T1 := fun q' e => slot_ins_other hwm2.good.srt e
    have hsrt : Srt (slotL (sl t) T1) := hwm2.good.srt.filter _
    have hSl : (slotL (sl t) T1).length ≤ 64 := Nat.le_trans (List.length_filter_le _ _) hwm2.good.room
    have hql := sl_lt t
    obtain ⟨q, hq⟩ : ∃ q, sl t = q := ⟨_, rfl⟩
    dsimp only at hrm
    rw [hq] at HSO hsrt hrm hoth hSl hql
    obtain ⟨A, c, hcq, hrow⟩ := hwm2.row q hql
    obtain ⟨S, hS⟩ : ∃ S, slotL q T1 = S := ⟨_, rfl⟩
    rw [hS] at hsrt hrm hSl hcq hrow
    obtain ⟨i, hi⟩ : ∃ i, pos ⟨o, k, t⟩ S = i := ⟨_, rfl⟩
    rw [hi] at hrm
    have HB := Lib.hid (fun (W : World) (hb : Below w2.heap.size w2 W) => bsearch_any S ⟨o, k, t⟩ hsrt (row_keep hrow (fun j cs' _ hw => hw.below hb hw.lt)) (by omega))
    have hil : i ≤ S.length := by rw [← hi]; exact pos_le _ _
    obtain ⟨fb, hfb⟩ : ∃ fb, fnd ⟨o, k, t⟩ S = fb := ⟨_, rfl⟩
    rw [hi, hfb] at HB
    obtain ⟨n, hn⟩ : ∃ n, S.length = n := ⟨_, rfl⟩
    rw [hn] at HB hSl hil hcq
    have cq : w2.cell? ⟨s, q, none⟩ = some (.slice A n c) := by rw [hwm2.slots.cell, List.getElem?_toArray, hcq]
    have HW2 := Lib.hid hwm2
    have HV2 := Lib.hid hv2
    have HFK2 := Lib.hid hfk2
    have HRW := Lib.hid hrow
    have HRM := Lib.hid hrm
    have HOTH := Lib.hid hoth
    have HS := Lib.hid hS
    have HN2 := Lib.hid hn
    have HQ := Lib.hid hql
    have HCQ := Lib.hid hcq
    have HCW := Lib.hid cq
    unfold tmV tmL at HB
    clear hfb hwm2 hg2 hturn2 hown2 hrow hcq hS hn hrm hoth hsrt c1 hi hq hql hv2 hfk2 hag2 hgd2 hbt HOW HTD HKY HLM
    go_wp2_with fail
    refine HSO.out.mono ?_
    rintro e w3 ⟨rfl, rfl⟩
    clear HSO
    go_upto_region 11 with fail
    refine q_start (by kernel_rfl) (by kernel_rfl) ?_
    refine q_take _ (by rfl) (fun X hx => by go_simp; try with_reducible rfl) ?_
    try simp only [Act.put, List.setIfInBounds_toArray, List.set_cons_zero, List.set_cons_succ]
    refine q_take _ (by rfl) (fun X hx => by go_simp; try with_reducible rfl) ?_
    try simp only [Act.put, List.setIfInBounds_toArray, List.set_cons_zero, List.set_cons_succ]
    refine q_take (.slice A n c) (by rfl) (fun X hx => by have cl := (hx.cell (p := ⟨s, q, none⟩) HW2.out.slots.lt).trans HCW.out; go_simp; try with_reducible rfl) ?_
    try simp only [Act.put, List.setIfInBounds_toArray, List.set_cons_zero, List.set_cons_succ]
    refine q_take _ (by rfl) (fun X hx => run_load_in 38 (.tmp 11) rfl t11 rfl #[.int .i64 o, .int .i64 k, .int .i64 t] 3 rfl (HV2.out.below hx HV2.out.lt) rfl rfl (by kernel_rfl)) ?_
    try simp only [Act.put, List.setIfInBounds_toArray, List.set_cons_zero, List.set_cons_succ]
    refine q_call (.tuple #[.int .i64 i, .bool fb]) 31 #[.slice A n c, .agg #[.int .i64 o, .int .i64 k, .int .i64 t], .func (.func 28) #[] #[]] (by rfl) (by intro w; go_simp; try with_reducible rfl) (fun X hx => (HB.out X hx).mono (fun e w' ⟨h1, h2⟩ => ⟨h1, below_trans hx h2⟩)) ?_
    try simp only [Act.put, List.setIfInBounds_toArray, List.set_cons_zero, List.set_cons_succ]
    refine q_take _ (by rfl) (fun X hx => by go_simp; try with_reducible rfl) ?_
    try simp only [Act.put, List.setIfInBounds_toArray, List.set_cons_zero, List.set_cons_succ]
    refine q_take _ (by rfl) (fun X hx => by go_simp; try with_reducible rfl) ?_
    try simp only [Act.put, List.setIfInBounds_toArray, List.set_cons_zero, List.set_cons_succ]
    refine q_take _ (by rfl) (fun X hx => by go_simp; try with_reducible rfl) ?_
    try simp only [Act.put, List.setIfInBounds_toArray, List.set_cons_zero, List.set_cons_succ]
    refine q_take _ (by rfl) (fun X hx => by go_simp; try with_reducible rfl) ?_
    try simp only [Act.put, List.setIfInBounds_toArray, List.set_cons_zero, List.set_cons_succ]
    refine q_take _ (by rfl) (fun X hx => by go_simp; try with_reducible rfl) ?_
    try simp only [Act.put, List.setIfInBounds_toArray, List.set_cons_zero, List.set_cons_succ]
    refine wpQuiet_nil ?_
    intro w4 hb4
    have HW4 := Lib.hid (HW2.out.below hb4)
    have HV4 := Lib.hid (HV2.out.below hb4 HV2.out.lt)
    have HST4 := Lib.hid (HST2.out.below hb4)
    have HFK4 := Lib.hid (HFK2.out.trans (Fk.of_below (F := F) hb4) (fun _ _ h => h))
    have HR4 := Lib.hid (row_keep HRW.out (fun j cs' _ hw => hw.below hb4 hw.lt))
    have HIL := Lib.hid hil
    have HBK := Lib.hid (show blk cs1 q = (Value.slice A n c).ownBlock from by unfold blk; rw [HCQ.out]; rfl)
    have c4 : w4.cell? ⟨s, q, none⟩ = some (.slice A n c) := by rw [HW4.out.slots.cell, List.getElem?_toArray]; exact HCQ.out
    clear HB hb4 HW2 HV2 HST2 HFK2 HRW hil HCW cq
    go_upto_region 12 with fail
    obtain ⟨W6, hW6⟩ : ∃ W6, (w4.alloc (.cells #[.int .i64 o, .int .i64 k, .int .i64 t] 38)).drew = W6 := ⟨_, rfl⟩
    have hb6 : Below w4.heap.size w4 W6 := by rw [← hW6]; exact (below_alloc (Below.refl _ _) _).drew
    have HV6 := Lib.hid (HV4.out.below hb6 HV4.out.lt)
    have HW6 := Lib.hid (HW4.out.below hb6)
    have HST6 := Lib.hid (HST4.out.below hb6)
    have HFK6 := Lib.hid (HFK4.out.trans (Fk.of_below (F := F) hb6) (fun _ _ h => h))
    have c6 : W6.cell? ⟨s, q, none⟩ = some (.slice A n c) := by rw [HW6.out.slots.cell, List.getElem?_toArray]; exact HCQ.out
    have hrl : ∀ j, A = some ⟨j, 0, none⟩ → blk cs1 q = some j := fun j e => by rw [HBK.out, e]; rfl
    have HI := Lib.hid (insert_any (w := W6) (B := 0) (c := c) (vb := w4.heap.size) (A := A) (L := S) i (by rw [HN2.out]; exact HIL.out) (by rw [HN2.out]; omega) (row_keep HR4.out (fun j cs' _ hw => hw.below hb6 hw.lt)) (Nat.zero_le _) ⟨o, k, t⟩ (by rw [← hW6]; exact whole_new _ _ rfl) (fun j e => by
      obtain ⟨_, cc, hw⟩ := HW4.out.blk_lt (hrl j e)
      have := hw.lt
      omega))
    rw [HN2.out] at HI
    have hob : ∀ j, (Value.slice A n c).ownBlock = some j → blk cs1 q = some j := fun j e => by rw [HBK.out]; exact e
    have HNE := Lib.hid (show (Value.slice A n c).ownBlock ≠ some t11 from fun e => HNT.out q t11 (hob _ e) rfl)
    have HNS := Lib.hid (show (Value.slice A n c).ownBlock ≠ some s from fun e => by obtain ⟨_, cc, hw⟩ := HW4.out.blk_lt (hob _ e); exact absurd (whole_type hw HW4.out.slots) (by decide))
    have HW6E := Lib.hid hW6
    clear hb6 hrl hob hW6
    refine region_drew (fun V => Whole V t11 38 #[.int .i64 o, .int .i64 k, .int .i64 t]) (by kernel_rfl) HV4.out (fun hS => ?_)
    refine take 0 _ rfl (by kernel_rfl) (by kernel_rfl) (by kernel_rfl) (fun _ _ _ h => h) (by rfl) hS (by intro w _; go_simp; with_reducible rfl) ?_
    try simp only [Act.put, List.setIfInBounds_toArray, List.set_cons_zero, List.set_cons_succ]
    refine take 1 _ rfl (by kernel_rfl) (by kernel_rfl) (by kernel_rfl) (fun _ _ _ h => h) (by rfl) hS (by intro w _; go_simp; with_reducible rfl) ?_
    try simp only [Act.put, List.setIfInBounds_toArray, List.set_cons_zero, List.set_cons_succ]
    refine take 2 _ rfl (by kernel_rfl) (by kernel_rfl) (by kernel_rfl) (fun _ _ _ h => h) (by rfl) hS (by intro w _; go_simp; with_reducible rfl) ?_
    try simp only [Act.put, List.setIfInBounds_toArray, List.set_cons_zero, List.set_cons_succ]
    refine take 4 _ rfl (by kernel_rfl) (by kernel_rfl) (by kernel_rfl) (fun _ _ _ h => h) (by rfl) hS (by intro w _; go_simp; with_reducible rfl) ?_
    try simp only [Act.put, List.setIfInBounds_toArray, List.set_cons_zero, List.set_cons_succ]
    refine take 5 _ rfl (by kernel_rfl) (by kernel_rfl) (by kernel_rfl) (fun _ _ _ h => h) (by rfl) hS (fun w hw => run_load_op 38 (.tmp 11) rfl (t11) rfl (hw) rfl rfl (by kernel_rfl)) ?_
    try simp only [Act.put, List.setIfInBounds_toArray, List.set_cons_zero, List.set_cons_succ]
    refine ready_two 3 6 rfl rfl (by kernel_rfl) (by rfl) (by rfl) ?_ ?_
    · intro K hK
      go_simp
      refine hK.out _ _ hS ?_
      clear hK K
      try simp only [Act.put, List.setIfInBounds_toArray, List.set_cons_zero, List.set_cons_succ]
      refine alone 6 rfl (by kernel_rfl) (by rfl) ?_
      intro K hK
      go_simp
      have e6 := HW6E.out
      refine hK.out _ _ (by rw [e6]; exact HV6.out) ?_
      rw [e6]
      clear hK K e6
      try simp only [Act.put, List.setIfInBounds_toArray, List.set_cons_zero, List.set_cons_succ]
      refine alone 7 rfl (by kernel_rfl) (by rfl) ?_
      intro K hK
      go_simp
      refine HI.out.mono ?_
      rintro e w5 ⟨A', c', rfl, hr5, hg5, hl5⟩
      have hv5 : Whole w5 t11 38 #[.int .i64 o, .int .i64 k, .int .i64 t] := (hg5.block t11 (Whole.lt HV6.out) (fun e => HNE.out e.symm)).trans HV6.out
      have hs5 : Whole w5 s 63 cs1.toArray := (hg5.block s HW6.out.slots.lt (fun e => HNS.out e.symm)).trans HW6.out.slots
      have c5 : w5.cell? ⟨s, q, none⟩ = some (.slice A n c) := by rw [hs5.cell, List.getElem?_toArray]; exact HCQ.out
      have f5 : w5.frozen? ⟨s, q, none⟩ = false := hs5.free q
      have R5 := Lib.hid hr5
      have G5 := Lib.hid hg5
      have L5 := Lib.hid hl5
      have S5 := Lib.hid hs5
      have V5 := Lib.hid hv5
      clear hr5 hg5 hl5 hs5 HI
      refine hK.out _ _ (by exact hv5) ?_
      clear hK K
      try simp only [Act.put, List.setIfInBounds_toArray, List.set_cons_zero, List.set_cons_succ]
      have hS := hv5
      clear hv5
      refine take 8 _ rfl (by kernel_rfl) (by kernel_rfl) (by kernel_rfl) (fun _ _ _ h => h) (by rfl) hS (by intro w _; go_simp; with_reducible rfl) ?_
      try simp only [Act.put, List.setIfInBounds_toArray, List.set_cons_zero, List.set_cons_succ]
      refine alone 9 rfl (by kernel_rfl) (by rfl) ?_
      intro K hK
      go_simp
      refine hK.out _ _ (by exact V5.out.far (by rintro rfl; exact absurd (whole_type V5.out S5.out) (by decide)) _) ?_
      clear hK K
      try simp only [Act.put]
      refine region_end (by kernel_rfl) ?_
      go_wp2_with fail
      go_ret
      refine ⟨rfl, ?_⟩
      obtain ⟨w7, hw7⟩ : ∃ w7, w5.setCell ⟨s, q, none⟩ (.slice A' (n + 1) c') = w7 := ⟨_, rfl⟩
      rw [hw7]
      have hlen : (slotL q (ins ⟨o, k, t⟩ T1)).length = n + 1 := by
        have := HIL.out
        rw [← HRM.out, List.length_append, List.length_cons, List.length_take, List.length_drop, HN2.out]
        omega
      have hsl7 : Whole w7 s 63 (cs1.set q (.slice A' (n + 1) c')).toArray := by
        rw [← hw7]
        have := S5.out.put q (.slice A' (n + 1) c')
        rwa [List.setIfInBounds_toArray] at this
      have hne7 : ∀ j cs', A' = some ⟨j, 0, none⟩ → Whole w5 j 38 cs' → j ≠ s := fun j cs' _ hw => by rintro rfl; exact absurd (whole_type hw S5.out) (by decide)
      have hr7 : RowT w7 0 A' c' (slotL q (ins ⟨o, k, t⟩ T1)) := by
        rw [← HRM.out]
        refine row_keep R5.out fun j cs' e hw => ?_
        rw [← hw7]
        exact hw.far (hne7 j cs' e hw) _
      have hk7 : ∀ j t' cc, j ≠ s → blk cs1 q ≠ some j → Whole W6 j t' cc → Whole w7 j t' cc := fun j t' cc h1 h2 hw => by
        have h3 : Whole w5 j t' cc := (G5.out.block j hw.lt (fun e => h2 (by rw [HBK.out]; exact e.symm))).trans hw
        rw [← hw7]
        exact h3.far h1 _
      have hXs : w.heap.size ≤ (W6).heap.size := HFK6.out.size
      have hwm := HW6.out.turn (T' := ins ⟨o, k, t⟩ T1) (D' := D1.put (klN Try.prog 67 o k) (.lit (.int .i64 t))) (F' := ext F w) q HQ.out hr7 (by rw [hlen]; exact hsl7) HOTH.out hk7 (fun j e => by
        rcases L5.out with h | ⟨g', h, hge⟩
        · rw [e] at h
          have hb : blk cs1 q = some j := by rw [HBK.out, ← h]; rfl
          exact ⟨.inl hb, .inl (HW6.out.fr q j hb)⟩
        · rw [e] at h
          injection h with h
          injection h with h
          subst h
          exact ⟨.inr hge, .inr (Nat.le_trans hXs hge)⟩) (fun _ h => .inl h) HAG.out HGD.out
      have hg57 : w5.grownBy w7 (some s) := by
        rw [← hw7]
        exact ⟨rfl, rfl, rfl, by simp, fun i hi hne => Below.heap_setCell w5 ⟨s, q, none⟩ _ i (fun e => hne (by rw [e]))⟩
      have hrb : ∀ j, (Value.slice A n c).ownBlock = some j → ∃ t cs, Whole W6 j t cs := fun j e => by
        have hb : blk cs1 q = some j := by rw [HBK.out]; exact e
        obtain ⟨_, cc, hw⟩ := HW6.out.blk_lt hb
        exact ⟨_, _, hw⟩
      have hp5 := (still_k b).keep _ _ _ _ HST6.out G5.out hrb
      have hp7 := (still_k b).keep _ _ _ (some s) hp5 hg57 (fun j e => ⟨_, _, (Option.some.inj e) ▸ S5.out⟩)
      refine ⟨⟨b, s, _, _, hwm, hp7⟩, ?_⟩
      exact (HFK6.out.trans (Fk.grown (F := F) G5.out (fun j e => by
        have hb : blk cs1 q = some j := by rw [HBK.out]; exact e
        exact HW6.out.fr q j hb)) (fun _ _ h => h)).trans (Fk.grown (F := F) hg57 (fun j e => by injection e with e; rw [← e]; exact HW6.out.fs)) (fun _ _ h => h)
    · intro K hK
      go_simp
      have e6 := HW6E.out
      refine hK.out _ _ (by rw [e6]; exact HV6.out) ?_
      rw [e6]
      clear hK K e6
      try simp only [Act.put, List.setIfInBounds_toArray, List.set_cons_zero, List.set_cons_succ]
      refine alone 3 rfl (by kernel_rfl) (by rfl) ?_
      intro K hK
      go_simp
      refine hK.out _ _ (by exact HV6.out) ?_
      clear hK K
      try simp only [Act.put, List.setIfInBounds_toArray, List.set_cons_zero, List.set_cons_succ]
      refine alone 7 rfl (by kernel_rfl) (by rfl) ?_
      intro K hK
      go_simp
      refine HI.out.mono ?_
      rintro e w5 ⟨A', c', rfl, hr5, hg5, hl5⟩
      have hv5 : Whole w5 t11 38 #[.int .i64 o, .int .i64 k, .int .i64 t] := (hg5.block t11 (Whole.lt HV6.out) (fun e => HNE.out e.symm)).trans HV6.out
      have hs5 : Whole w5 s 63 cs1.toArray := (hg5.block s HW6.out.slots.lt (fun e => HNS.out e.symm)).trans HW6.out.slots
      have c5 : w5.cell? ⟨s, q, none⟩ = some (.slice A n c) := by rw [hs5.cell, List.getElem?_toArray]; exact HCQ.out
      have f5 : w5.frozen? ⟨s, q, none⟩ = false := hs5.free q
      have R5 := Lib.hid hr5
      have G5 := Lib.hid hg5
      have L5 := Lib.hid hl5
      have S5 := Lib.hid hs5
      have V5 := Lib.hid hv5
      clear hr5 hg5 hl5 hs5 HI
      refine hK.out _ _ (by exact hv5) ?_
      clear hK K
      try simp only [Act.put, List.setIfInBounds_toArray, List.set_cons_zero, List.set_cons_succ]
      have hS := hv5
      clear hv5
      refine take 8 _ rfl (by kernel_rfl) (by kernel_rfl) (by kernel_rfl) (fun _ _ _ h => h) (by rfl) hS (by intro w _; go_simp; with_reducible rfl) ?_
      try simp only [Act.put, List.setIfInBounds_toArray, List.set_cons_zero, List.set_cons_succ]
      refine alone 9 rfl (by kernel_rfl) (by rfl) ?_
      intro K hK
      go_simp
      refine hK.out _ _ (by exact V5.out.far (by rintro rfl; exact absurd (whole_type V5.out S5.out) (by decide)) _) ?_
      clear hK K
      try simp only [Act.put]
      refine region_end (by kernel_rfl) ?_
      go_wp2_with fail
      go_ret
      refine ⟨rfl, ?_⟩
      obtain ⟨w7, hw7⟩ : ∃ w7, w5.setCell ⟨s, q, none⟩ (.slice A' (n + 1) c') = w7 := ⟨_, rfl⟩
      rw [hw7]
      have hlen : (slotL q (ins ⟨o, k, t⟩ T1)).length = n + 1 := by
        have := HIL.out
        rw [← HRM.out, List.length_append, List.length_cons, List.length_take, List.length_drop, HN2.out]
        omega
      have hsl7 : Whole w7 s 63 (cs1.set q (.slice A' (n + 1) c')).toArray := by
        rw [← hw7]
        have := S5.out.put q (.slice A' (n + 1) c')
        rwa [List.setIfInBounds_toArray] at this
      have hne7 : ∀ j cs', A' = some ⟨j, 0, none⟩ → Whole w5 j 38 cs' → j ≠ s := fun j cs' _ hw => by rintro rfl; exact absurd (whole_type hw S5.out) (by decide)
      have hr7 : RowT w7 0 A' c' (slotL q (ins ⟨o, k, t⟩ T1)) := by
        rw [← HRM.out]
        refine row_keep R5.out fun j cs' e hw => ?_
        rw [← hw7]
        exact hw.far (hne7 j cs' e hw) _
      have hk7 : ∀ j t' cc, j ≠ s → blk cs1 q ≠ some j → Whole W6 j t' cc → Whole w7 j t' cc := fun j t' cc h1 h2 hw => by
        have h3 : Whole w5 j t' cc := (G5.out.block j hw.lt (fun e => h2 (by rw [HBK.out]; exact e.symm))).trans hw
        rw [← hw7]
        exact h3.far h1 _
      have hXs : w.heap.size ≤ (W6).heap.size := HFK6.out.size
      have hwm := HW6.out.turn (T' := ins ⟨o, k, t⟩ T1) (D' := D1.put (klN Try.prog 67 o k) (.lit (.int .i64 t))) (F' := ext F w) q HQ.out hr7 (by rw [hlen]; exact hsl7) HOTH.out hk7 (fun j e => by
        rcases L5.out with h | ⟨g', h, hge⟩
        · rw [e] at h
          have hb : blk cs1 q = some j := by rw [HBK.out, ← h]; rfl
          exact ⟨.inl hb, .inl (HW6.out.fr q j hb)⟩
        · rw [e] at h
          injection h with h
          injection h with h
          subst h
          exact ⟨.inr hge, .inr (Nat.le_trans hXs hge)⟩) (fun _ h => .inl h) HAG.out HGD.out
      have hg57 : w5.grownBy w7 (some s) := by
        rw [← hw7]
        exact ⟨rfl, rfl, rfl, by simp, fun i hi hne => Below.heap_setCell w5 ⟨s, q, none⟩ _ i (fun e => hne (by rw [e]))⟩
      have hrb : ∀ j, (Value.slice A n c).ownBlock = some j → ∃ t cs, Whole W6 j t cs := fun j e => by
        have hb : blk cs1 q = some j := by rw [HBK.out]; exact e
        obtain ⟨_, cc, hw⟩ := HW6.out.blk_lt hb
        exact ⟨_, _, hw⟩
      have hp5 := (still_k b).keep _ _ _ _ HST6.out G5.out hrb
      have hp7 := (still_k b).keep _ _ _ (some s) hp5 hg57 (fun j e => ⟨_, _, (Option.some.inj e) ▸ S5.out⟩)
      refine ⟨⟨b, s, _, _, hwm, hp7⟩, ?_⟩
      exact (HFK6.out.trans (Fk.grown (F := F) G5.out (fun j e => by
        have hb : blk cs1 q = some j := by rw [HBK.out]; exact e
        exact HW6.out.fr q j hb)) (fun _ _ h => h)).trans (Fk.grown (F := F) hg57 (fun j e => by injection e with e; rw [← e]; exact HW6.out.fs)) (fun _ _ h => h)
end Wh
end Go.Proofs.Ytgbahkkccpcadaa
