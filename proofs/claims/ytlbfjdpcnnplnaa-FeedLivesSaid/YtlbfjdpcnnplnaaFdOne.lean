/- Package feed: none, find, New, Leave, Waits, behind. -/
import Derived.Test.YtlbfjdpcnnplnaaFdMem
import Derived.WalkSpells
import Derived.Deep.DeepCutAuto
namespace Go.Proofs.Ytlbfjdpcnnplnaa
namespace Fee
open Go.ChangeShapes Go.WideShapes Go.ChangeAt Go.RowKit Go.Maps
open Num Mem Words Chacha Aead Poly Quiet RowV RowS

set_option maxRecDepth 100000 in
theorem none_nil (w : World) : Calls Try.prog 26 #[.pointer none] w fun e w' => e = .returned (.bool true) ∧ w = w' := by
  go_enter Try.func26, Try.ntmps26
  go_wp2_with fail
  go_ret
  exact ⟨rfl, rfl⟩
set_option maxRecDepth 100000 in
theorem none_gen (g : Nat) (b : Option Nat) (x : Value) (w : World) (h : Whole w g 63 #[.map b, x]) : Calls Try.prog 26 #[.pointer (some ⟨g, 0, none⟩)] w fun e w' => e = .returned (.bool b.isNone) ∧ w = w' := by
  have c0 : w.cell? ⟨g, 0, none⟩ = some (.map b) := h.cell 0
  have hm := run_eql_map_nil (P := Try.prog) w 61 _ _ b Try.underlying61
  clear h
  go_enter Try.func26, Try.ntmps26
  go_wp2_with fail
  go_ret
  exact ⟨rfl, rfl⟩
theorem none_zero (g : Nat) (x : Value) (w : World) (h : Whole w g 63 #[.map none, x]) : Calls Try.prog 26 #[.pointer (some ⟨g, 0, none⟩)] w fun e w' => e = .returned (.bool true) ∧ w = w' := none_gen g none x w h
theorem none_some (g b : Nat) (x : Value) (w : World) (h : Whole w g 63 #[.map (some b), x]) : Calls Try.prog 26 #[.pointer (some ⟨g, 0, none⟩)] w fun e w' => e = .returned (.bool false) ∧ w = w' := none_gen g (some b) x w h

/-- a pointer that leads to no feed of which a call made anything -/
def No (w : World) (p : Value) : Prop := p = .pointer none ∨ ∃ g x, p = .pointer (some ⟨g, 0, none⟩) ∧ Whole w g 63 #[.map none, x]
theorem No.below {w w' : World} {p : Value} (h : No w p) (hb : Below w.heap.size w w') : No w' p := h.imp id fun ⟨g, x, e, hw⟩ => ⟨g, x, e, hw.below hb hw.lt⟩
theorem none_no {p : Value} {w : World} (h : No w p) : Calls Try.prog 26 #[p] w fun e w' => e = .returned (.bool true) ∧ w = w' := by
  rcases h with rfl | ⟨g, x, rfl, h⟩
  · exact none_nil w
  · exact none_zero g x w h

set_option maxRecDepth 100000 in
theorem find_no {p : Value} {w : World} (h : No w p) (o : Nat) : Calls Try.prog 27 #[p, .int .u64 (o : Nat)] w fun e w' => e = .returned (.pointer none) ∧ w = w' := by
  have HN := Lib.hid (none_no h)
  clear h
  go_enter Try.func27, Try.ntmps27
  go_wp2_with fail
  refine HN.out.mono ?_
  rintro e w1 ⟨rfl, rfl⟩
  go_wp2_with fail
  go_ret
  exact ⟨rfl, rfl⟩
set_option maxRecDepth 100000 in
theorem find_any {w : World} {F : Nat → Prop} {g b last n : Nat} {S : St} {m : Nat → Option Nat} {D : DataW Unit} (h : FM w F g b S last m) (ha : PAg D m) (ho : w.ownsMap Try.prog 23 ptrR b n D) (o : Nat) (hk : okU o) :
    Calls Try.prog 27 #[.pointer (some ⟨g, 0, none⟩), .int .u64 (o : Nat)] w fun e w' => e = .returned (ptrV (m o)) ∧ w = w' := by
  have HN := Lib.hid (none_some g b _ w h.obj)
  have c0 : w.cell? ⟨g, 0, none⟩ = some (.map (some b)) := h.obj.cell 0
  have hlk := look ha ho hk
  generalize ptrV (m o) = p at hlk ⊢
  clear h ha ho hk
  go_enter Try.func27, Try.ntmps27
  go_wp2_with fail
  refine HN.out.mono ?_
  rintro e w1 ⟨rfl, rfl⟩
  go_wp2_with fail
  go_ret
  exact ⟨rfl, rfl⟩

set_option maxRecDepth 100000 in
theorem new_any (w : World) : Calls Try.prog 8 #[] w fun e w' => ∃ g, e = .returned (.pointer (some ⟨g, 0, none⟩)) ∧ Below w.heap.size w w' ∧ FW w' (fun i => w.heap.size ≤ i) g [] 0 := by
  have hmm := @run_makeMap Try.prog
  go_enter Try.func8, Try.ntmps8
  go_wp2_with fail
  go_ret
  have hown : ((w.alloc (.map #[] 0)).alloc (.cells #[.map (some w.heap.size), .int .u64 0] 63)).ownsMap Try.prog 23 ptrR w.heap.size 0 (.map []) := (World.ownsMap_made w Try.prog 23 ptrR).alloc _
  exact ⟨_, rfl, below_alloc (below_alloc (Below.refl _ _) _) _, w.heap.size, .map [], fun _ => none, ⟨whole_new _ _ (by simp), (by intro id x h; cases h), (by intro o r h; cases h), (by intro i j r h; cases h), List.Pairwise.nil, (by intro i h; cases h), (by intro p h; cases h), Nat.le_succ _, Nat.le_refl _, (by intro i r h; cases h)⟩, pag_empty, rfl, hown⟩

set_option maxRecDepth 100000 in
theorem waits_no {p : Value} {w : World} (h : No w p) (o : Nat) : Calls Try.prog 22 #[p, .int .u64 (o : Nat)] w fun e w' => e = .returned (.int .i64 0) ∧ w = w' := by
  have HN := Lib.hid (find_no h o)
  clear h
  go_enter Try.func22, Try.ntmps22
  go_wp2_with fail
  refine HN.out.mono ?_
  rintro e w1 ⟨rfl, rfl⟩
  go_wp2_with fail
  go_ret
  exact ⟨rfl, rfl⟩
def waitsS (S : St) (id : Nat) : Nat := match at_ S id with
  | none => 0
  | some x => waitsN x
set_option maxRecDepth 100000 in
theorem waits_any {w : World} {F : Nat → Prop} {g last : Nat} {S : St} (h : FW w F g S last) (o : Nat) (hk : okU o) : Calls Try.prog 22 #[.pointer (some ⟨g, 0, none⟩), .int .u64 (o : Nat)] w fun e w' => e = .returned (.int .i64 (waitsS S o : Nat)) ∧ w = w' := by
  obtain ⟨b, D, m, h1, h2, h3, h4⟩ := h
  have HN := Lib.hid (find_any h1 h2 h4 o hk)
  cases hm : m o with
  | none =>
    have hx : at_ S o = none := at_none_iff.2 fun c => by
      obtain ⟨x, hx⟩ := at_some_of c
      obtain ⟨r, e, _⟩ := h1.row o x hx
      rw [hm] at e
      cases e
    unfold waitsS
    rw [hx]
    rw [hm] at HN
    clear h1 h2 h3 h4 hk hm hx
    go_enter Try.func22, Try.ntmps22
    go_wp2_with fail
    refine HN.out.mono ?_
    rintro e w1 ⟨rfl, rfl⟩
    simp only [ptrV]
    go_wp2_with fail
    go_ret
    exact ⟨rfl, rfl⟩
  | some r =>
    obtain ⟨x, hx, v, hw, A, rfl, hr⟩ := h1.mr hm
    unfold waitsS
    rw [hx]
    rw [hm] at HN
    have c0 : w.cell? ⟨r, 0, none⟩ = some (.slice A x.L.length x.L.length) := hw.cell 0
    have c1 : w.cell? ⟨r, 1, none⟩ = some (.int .u64 (x.lost : Nat)) := hw.cell 1
    have hfew := (h1.ok _ (at_mem hx)).few
    dsimp only
    unfold waitsN gapL
    generalize x.L.length = n at *
    generalize x.lost = l at *
    have hw1 : IntKind.i64.wrap ((n : Int) + 1) = (n : Int) + 1 := by rw [IntKind.wrap_i64]; omega
    clear h1 h2 h3 h4 hk hm hx hw hr
    by_cases hl : 0 < l
    · rw [if_pos hl]
      have hd : decide ((0 : Int) < (l : Int)) = true := decide_eq_true (by omega)
      go_enter Try.func22, Try.ntmps22
      go_wp2_with fail
      refine HN.out.mono ?_
      rintro e w1 ⟨rfl, rfl⟩
      simp only [ptrV]
      go_wp2_with fail
      go_ret
      exact ⟨rfl, rfl⟩
    · rw [if_neg hl]
      obtain rfl : l = 0 := by omega
      go_enter Try.func22, Try.ntmps22
      go_wp2_with fail
      refine HN.out.mono ?_
      rintro e w1 ⟨rfl, rfl⟩
      simp only [ptrV]
      go_wp2_with fail
      go_ret
      exact ⟨rfl, rfl⟩

set_option maxRecDepth 100000 in
theorem leave_no {p : Value} {w : World} (h : No w p) (o : Nat) : Calls Try.prog 11 #[p, .int .u64 (o : Nat)] w fun e w' => e = .returned (.bool false) ∧ w = w' := by
  have HN := Lib.hid (find_no h o)
  clear h
  go_enter Try.func11, Try.ntmps11
  go_wp2_with fail
  refine HN.out.mono ?_
  rintro e w1 ⟨rfl, rfl⟩
  go_wp2_with fail
  go_ret
  exact ⟨rfl, rfl⟩
theorem lk_none {w : World} {F : Nat → Prop} {g b last : Nat} {S : St} {m : Nat → Option Nat} (h1 : FM w F g b S last m) {o : Nat} (ho : o ∉ ids S) : m o = none := by
  cases hm : m o with
  | none => rfl
  | some r => exact absurd (h1.dom o r hm) ho
set_option maxRecDepth 100000 in
theorem leave_out {w : World} {F : Nat → Prop} {g last : Nat} {S : St} (h : FW w F g S last) (o : Nat) (hk : okU o) (hn : o ∉ ids S) : Calls Try.prog 11 #[.pointer (some ⟨g, 0, none⟩), .int .u64 (o : Nat)] w fun e w' => e = .returned (.bool false) ∧ w = w' := by
  obtain ⟨b, D, m, h1, h2, h3, h4⟩ := h
  have HN := Lib.hid (find_any h1 h2 h4 o hk)
  rw [lk_none h1 hn] at HN
  clear h1 h2 h3 h4 hk hn
  go_enter Try.func11, Try.ntmps11
  go_wp2_with fail
  refine HN.out.mono ?_
  rintro e w1 ⟨rfl, rfl⟩
  simp only [ptrV]
  go_wp2_with fail
  go_ret
  exact ⟨rfl, rfl⟩
theorem at_leave_same (S : St) (id : Nat) : at_ (leaveS S id) id = none := at_none_iff.2 (by rw [ids_leave]; simp)
theorem at_leave_other {S : St} {id j : Nat} (h : j ≠ id) : at_ (leaveS S id) j = at_ S j := by
  induction S with
  | nil => rfl
  | cons p S ih =>
    rw [at_cons]
    by_cases c : p.1 = id
    · have e : leaveS (p :: S) id = leaveS S id := by
        unfold leaveS
        rw [List.filter_cons, if_neg (by simp [c])]
      rw [e, ih, if_neg (fun e => h (e.symm.trans c))]
    · have e : leaveS (p :: S) id = p :: leaveS S id := by
        unfold leaveS
        rw [List.filter_cons, if_pos (by simp [c])]
      rw [e, at_cons, ih]
theorem FM.leave {w w' : World} {F : Nat → Prop} {g b last : Nat} {S : St} {m : Nat → Option Nat} (h : FM w F g b S last m) (o : Nat) (hw : ∀ i t cs, Whole w i t cs → Whole w' i t cs) : FM w' F g b (leaveS S o) last (upd m o none) := by
  refine ⟨hw _ _ _ h.obj, fun id x hx => ?_, fun id r e => ?_, fun i j r e1 e2 => ?_, ?_, fun id hid => ?_, fun p hp => h.ok p (List.mem_filter.1 hp).1, h.fg, h.fb, fun i r e => ?_⟩
  · by_cases c : id = o
    · subst c
      rw [at_leave_same] at hx
      cases hx
    · rw [at_leave_other c] at hx
      obtain ⟨r, e, hr⟩ := h.row id x hx
      exact ⟨r, by rw [upd_other _ _ c]; exact e, hr.keep (fun _ => hw _ _ _) (fun _ _ => hw _ _ _)⟩
  · by_cases c : id = o
    · subst c
      rw [upd_same] at e
      cases e
    · rw [upd_other _ _ c] at e
      rw [ids_leave]
      exact List.mem_filter.2 ⟨h.dom id r e, by simp [c]⟩
  · by_cases c : i = o
    · subst c
      rw [upd_same] at e1
      cases e1
    · by_cases c2 : j = o
      · subst c2
        rw [upd_same] at e2
        cases e2
      · rw [upd_other _ _ c] at e1
        rw [upd_other _ _ c2] at e2
        exact h.inj i j r e1 e2
  · rw [ids_leave]
    exact h.srt.sublist List.filter_sublist
  · rw [ids_leave] at hid
    exact h.low id (List.mem_filter.1 hid).1
  · by_cases c : i = o
    · subst c
      rw [upd_same] at e
      cases e
    · rw [upd_other _ _ c] at e
      exact h.fr i r e
set_option maxRecDepth 100000 in
theorem leave_in {w : World} {F : Nat → Prop} {g last : Nat} {S : St} (h : FW w F g S last) (o : Nat) (hk : okU o) (hn : o ∈ ids S) : Calls Try.prog 11 #[.pointer (some ⟨g, 0, none⟩), .int .u64 (o : Nat)] w fun e w' => e = .returned (.bool true) ∧ FW w' F g (leaveS S o) last ∧ Fk F w w' := by
  obtain ⟨b, D, m, h1, h2, h3, h4⟩ := h
  have HN := Lib.hid (find_any h1 h2 h4 o hk)
  obtain ⟨x, hx⟩ := at_some_of hn
  obtain ⟨r, hm, _⟩ := h1.row o x hx
  rw [hm] at HN
  have c0 : w.cell? ⟨g, 0, none⟩ = some (.map (some b)) := h1.obj.cell 0
  have HO := Lib.hid h4
  have H := Lib.hid (show FM w F g b S last m ∧ PAg D m ∧ Maps.size D = S.length ∧ o ∈ ids S ∧ m o = some r from ⟨h1, h2, h3, hn, hm⟩)
  clear h1 h2 h3 h4 hn hm hx
  go_enter Try.func11, Try.ntmps11
  go_wp2_with fail
  refine HN.out.mono ?_
  rintro e w1 ⟨rfl, rfl⟩
  simp only [ptrV]
  go_upto_region 4 with (refine wpList_delete_own _ rfl (.tmp 12) (.tmp 13) 61 23 rfl 72 keyedU Try.underlying61 ptrR b last D rfl HO.out _ (keyO o) rfl (key_u hk) ?_; intro w3 hown3 hturn3)
  have hg3 : w.grownBy w3 (some b) := by
    have h := hturn3.grown
    exact ⟨h.os, h.tape, h.output, h.size, h.block⟩
  have HE := Lib.hid (show FW w3 F g (leaveS S o) last ∧ Fk F w w3 from by
    obtain ⟨h1, h2, h3, hn, hm⟩ := H.out
    refine ⟨⟨b, _, _, h1.leave o (fun i t cs hw => (hg3.block i hw.lt (fun e => by injection e with e; exact owns_row HO.out hw e)).trans hw), h2.del o, ?_, hown3⟩, Fk.map hg3 HO.out h1.fb⟩
    have e1 := size_del (k := keyO o) (HO.out.tidy keyedU)
    have e2 := leave_length h1.nd hn
    rw [h2.hs, hm, h3] at e1
    simp only [Option.isSome_some, if_true] at e1
    omega)
  clear hown3 hturn3 hg3 c0 HO H
  go_wp2_with fail
  go_ret
  exact ⟨rfl, HE.out⟩
end Fee
end Go.Proofs.Ytlbfjdpcnnplnaa
