/- Both yards: what they have in common; same. -/
import Derived.Test.YtbmabfnjjflbnaaYrPutY
namespace Go.Proofs.Ytbmabfnjjflbnaa
namespace Yd
open Go.ChangeShapes Go.WideShapes Go.ChangeAt Go.RowKit Go.Maps
open Num Mem Words Chacha Aead Poly Quiet RowV RowS

def strip (x : Pk) : Pk := ⟨x.num, x.len, x.f, 0⟩
def reav (k : Nat) (x : Pk) : Pk := ⟨x.num, x.len, x.f, k⟩
theorem strip_reav (k : Nat) (x : Pk) : strip (reav k x) = strip x := rfl
/-- an owner's packets in the document's yard -/
def fl (o : Int) (R : List RPk) : List Pk := (R.filter fun p => p.o == o).map (·.x)
theorem fl_length (o : Int) (R : List RPk) : (fl o R).length = wt o R := by unfold fl wt; rw [List.length_map]
theorem fl_append (o : Int) (R S : List RPk) : fl o (R ++ S) = fl o R ++ fl o S := by unfold fl; rw [List.filter_append, List.map_append]
theorem fl_one (o : Int) (p : RPk) : fl o [p] = if p.o = o then [p.x] else [] := by
  unfold fl
  by_cases h : p.o = o <;> simp [h]
theorem fl_none {o : Int} {R : List RPk} (h : ∀ q ∈ R, q.o ≠ o) : fl o R = [] := by
  unfold fl
  rw [List.filter_eq_nil_iff.2 (by intro a ha; simpa using h a ha)]
  rfl
theorem split_at {R : List RPk} {i : Nat} {q : RPk} (h : R[i]? = some q) : R = R.take i ++ ([q] ++ R.drop (i + 1)) := by
  obtain ⟨hi, e⟩ := List.getElem?_eq_some_iff.1 h
  rw [List.singleton_append, ← e, ← List.drop_eq_getElem_cons hi, List.take_append_drop]
theorem fl_del {o : Int} {R : List RPk} {i : Nat} {q : RPk} (h : R[i]? = some q) (hq : q.o = o) (hn : ∀ q' ∈ R.take i, q'.o ≠ o) : fl o R = q.x :: fl o (R.take i ++ R.drop (i + 1)) := by
  have e := congrArg (fl o) (split_at h)
  rw [fl_append, fl_append, fl_none hn, fl_one, if_pos hq] at e
  rw [fl_append, fl_none hn]
  exact e
theorem fl_del' {o : Int} {R : List RPk} {i : Nat} {q : RPk} (h : R[i]? = some q) (hq : q.o ≠ o) : fl o R = fl o (R.take i ++ R.drop (i + 1)) := by
  have e := congrArg (fl o) (split_at h)
  rw [fl_append, fl_append, fl_one, if_neg hq] at e
  rw [fl_append]
  exact e
theorem del_length {R : List RPk} {i : Nat} {q : RPk} (h : R[i]? = some q) : (R.take i ++ R.drop (i + 1)).length + 1 = R.length := by
  have e := congrArg List.length (split_at h)
  rw [List.length_append, List.length_append] at e
  rw [List.length_append]
  simp only [List.length_cons, List.length_nil] at e
  omega
/-- both yards have the same -/
def Ag (Y : Int → List Pk) (R : List RPk) : Prop := ∀ o, (Y o).map strip = fl o R
theorem Ag.wait_ {Y : Int → List Pk} {R : List RPk} (h : Ag Y R) (o : Int) : wt o R = (Y o).length := by rw [← fl_length, ← h o, List.length_map]
theorem Ag.nil_ : Ag (fun _ => []) [] := fun _ => rfl
theorem Ag.reav_ {Y : Int → List Pk} {R : List RPk} (h : Ag Y R) (k : Nat) : Ag (fun o => (Y o).map (reav k)) R := fun o => by
  rw [List.map_map]
  exact h o
theorem Ag.put_ {Y : Int → List Pk} {R R' : List RPk} (h : Ag Y R) {o : Int} {p : RPk} (hp : p.o = o) (x : Pk) (hx : strip x = p.x) (h8 : (Y o).length ≤ 8) (hr : PutR o R p R') :
    Ag (upd Y o (pushP (Y o) x)) R' ∧ R'.length + (if (Y o).length = 8 then 1 else 0) = R.length + 1 ∧ decide (8 < wt o (R ++ [p])) = decide ((Y o).length = 8) := by
  have hS : fl o (R ++ [p]) = (Y o ++ [x]).map strip := by
    rw [fl_append, fl_one, if_pos hp, List.map_append, h o]
    show _ = _ ++ [strip x]
    rw [hx]
  have hw : wt o (R ++ [p]) = (Y o).length + 1 := by rw [← fl_length, hS, List.length_map, List.length_append]; rfl
  have hO : ∀ o', o' ≠ o → fl o' (R ++ [p]) = (Y o').map strip := fun o' ho => by
    rw [fl_append, fl_one, if_neg (by rw [hp]; exact fun e => ho e.symm), List.append_nil, h o']
  have hd : decide (8 < wt o (R ++ [p])) = decide ((Y o).length = 8) := by
    rw [hw]
    by_cases e : (Y o).length = 8
    · rw [decide_eq_true e, decide_eq_true (by omega)]
    · rw [decide_eq_false e, decide_eq_false (by omega)]
  rcases hr with ⟨hle, rfl⟩ | ⟨hlt, i, q, hq, hqo, hqn, rfl⟩
  · have hne : (Y o).length ≠ 8 := by omega
    refine ⟨fun o' => ?_, by rw [if_neg hne, List.length_append]; rfl, hd⟩
    by_cases e : o' = o
    · subst e
      rw [upd_same, hS]
      unfold pushP
      rw [if_neg hne]
    · rw [upd_other _ _ e, hO o' e]
  · have he : (Y o).length = 8 := by omega
    refine ⟨fun o' => ?_, by rw [if_pos he, del_length hq, List.length_append]; rfl, hd⟩
    by_cases e : o' = o
    · subst e
      rw [upd_same]
      have h1 := fl_del hq hqo hqn
      rw [hS] at h1
      unfold pushP
      rw [if_pos he]
      rcases hy : Y o' with _ | ⟨z, L⟩
      · rw [hy] at he; cases he
      · rw [hy] at h1
        injection h1 with _ h1
    · rw [upd_other _ _ e, ← hO o' e, fl_del' hq (by rw [hqo]; exact fun h => e h.symm)]
theorem Ag.take_ {Y : Int → List Pk} {R : List RPk} (h : Ag Y R) {o : Int} {x : Pk} {L : List Pk} (hY : Y o = x :: L) {i : Nat} {q : RPk} (hq : R[i]? = some q) (hqo : q.o = o) (hqn : ∀ q' ∈ R.take i, q'.o ≠ o) :
    Ag (upd Y o L) (R.take i ++ R.drop (i + 1)) ∧ q.x = strip x := by
  have h1 := fl_del hq hqo hqn
  rw [← h o, hY] at h1
  injection h1 with h1 h2
  refine ⟨fun o' => ?_, h1.symm⟩
  by_cases e : o' = o
  · subst e
    rw [upd_same]
    exact h2
  · rw [upd_other _ _ e, h o', fl_del' hq (by rw [hqo]; exact fun h => e h.symm)]
theorem Ag.none_ {Y : Int → List Pk} {R : List RPk} (h : Ag Y R) {o : Int} (hn : ∀ q ∈ R, q.o ≠ o) : Y o = [] := by
  have := h o
  rw [fl_none hn] at this
  exact List.map_eq_nil_iff.1 this
theorem Ag.never {Y : Int → List Pk} {R : List RPk} (h : Ag Y R) {o : Int} (hY : Y o = []) {i : Nat} {q : RPk} (hq : R[i]? = some q) (hqo : q.o = o) : False := by
  have := h o
  rw [hY] at this
  have hm : q.x ∈ fl o R := by
    unfold fl
    exact List.mem_map_of_mem (List.mem_filter.2 ⟨List.mem_of_getElem? hq, by simpa using hqo⟩)
  rw [← this] at hm
  cases hm

/-- the packets' bytes lie in other blocks than k -/
theorem YW.reav_ {w : World} {B g b last thrown : Nat} {Y : Int → List Pk} (h : YW w B g b Y last thrown) (k : Nat) (hk : w.heap.size ≤ k) : YW w B g b (fun o => (Y o).map (reav k)) last thrown := by
  obtain ⟨D, m, h, hF⟩ := h
  refine ⟨D, m, ⟨h.obj, h.own, h.ag, fun o r hm => ?_, h.inj, fun o ho => h.dom o fun e => ho (by rw [e]; rfl), h.bg, h.bb⟩, fun o => ?_⟩
  · obtain ⟨⟨cs, p, hr⟩, hB⟩ := h.ring o r hm
    refine ⟨⟨cs, p, hr.blk, hr.len, hr.pos, by rw [List.length_map]; exact hr.few, hr.at16, by rw [List.length_map]; exact hr.at17, fun i x hx => ?_⟩, hB⟩
    rw [List.getElem?_map] at hx
    rcases hy : (Y o)[i]? with _ | y
    · rw [hy] at hx; cases hx
    · rw [hy] at hx
      injection hx with hx
      subst hx
      obtain ⟨h1, h2, h3, a, h4, h5, h6, _⟩ := hr.pk i y hy
      exact ⟨h1, h2, h3, a, h4, h5, h6, by have := h6.lt; show a ≠ k; omega⟩
  · rw [hF o]
    exact not_congr List.map_eq_nil_iff.symm
theorem YW.off {w : World} {B g b last thrown : Nat} {Y : Int → List Pk} (h : YW w B g b Y last thrown) {k : Nat} {cs : Array Value} (hk : Whole w k 5 cs) (hav : ∀ o, ∀ x ∈ Y o, x.av = k) (i : Nat) (v : Value) : YW (w.setCell ⟨k, i, none⟩ v) B g b Y last thrown := by
  obtain ⟨D, m, h, hF⟩ := h
  have hfar : ∀ {j : Nat} {t : TypeId} {cs : Array Value}, Whole w j t cs → j ≠ k → Whole (w.setCell ⟨k, i, none⟩ v) j t cs := fun e hj => e.far hj v
  refine ⟨D, m, ⟨hfar h.obj (by rintro rfl; exact absurd (whole_type h.obj hk) (by decide)), h.own.kept (grown_set1 w k i v) (fun e => ?_), h.ag, fun o r hm => ?_, h.inj, h.dom, h.bg, h.bb⟩, hF⟩
  · injection e with e
    subst e
    obtain ⟨es, clock, hb, _⟩ := h.own
    unfold Whole at hk
    rw [hk] at hb
    cases hb
  · obtain ⟨⟨cs', p, hr⟩, hB⟩ := h.ring o r hm
    refine ⟨⟨cs', p, hfar hr.blk (by rintro rfl; exact absurd (whole_type hr.blk hk) (by decide)), hr.len, hr.pos, hr.few, hr.at16, hr.at17, fun j x hx => ?_⟩, hB⟩
    obtain ⟨h1, h2, h3, a, h4, h5, h6, h7⟩ := hr.pk j x hx
    exact ⟨h1, h2, h3, a, h4, h5, hfar h6 (by rw [← hav o x (List.mem_of_getElem? hx)]; exact h7), h7⟩

set_option maxRecDepth 100000 in
theorem same_yes (num n c c2 : Nat) (o : Int) (A A2 : Option Addr) (f : Nat → Nat) (w : World) (h1 : Rd w A n f) (h2 : Rd w A2 n f) :
    Calls Try.prog 21 #[.agg #[.int .u64 (num : Nat), .slice A n c], .agg #[.int .i64 o, .int .u64 (num : Nat), .slice A2 n c2]] w fun e w' => e = .returned (.bool true) ∧ Below w.heap.size w w' := by
  have hb0 : Below w.heap.size w ((w.alloc (.cells #[.int .u64 (num : Nat), .slice A n c] 46)).alloc (.cells #[.int .i64 o, .int .u64 (num : Nat), .slice A2 n c2] 59)) := below_alloc (below_alloc (Below.refl _ _) _) _
  have hcv1 := run_string_of (P := Try.prog) (c := c) 30 9 5 Try.underlying30 Try.underlying5 Try.underlying9 (h1.below hb0 (Nat.le_refl _))
  have hcv2 := run_string_of (P := Try.prog) (c := c2) 30 9 5 Try.underlying30 Try.underlying5 Try.underlying9 (h2.below hb0 (Nat.le_refl _))
  clear h1 h2
  have HB := Lib.hid hb0
  clear hb0
  generalize strOf f n = s at *
  go_enter Try.func21, Try.ntmps21
  go_wp2_with fail
  go_ret
  exact ⟨rfl, HB.out⟩
end Yd
end Go.Proofs.Ytbmabfnjjflbnaa
