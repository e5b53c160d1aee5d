/- What a feed has: events, items, what push and take make of a watcher's row. Nothing of the program but its maps. -/
import Derived.Test.YtlbfjdpcnnplnaaKit
import Derived.Maps.RangeWalk
import Derived.Maps.Ext
namespace Go.Proofs.Ytlbfjdpcnnplnaa
namespace Fee
open Go.ChangeShapes Go.WideShapes Go.ChangeAt Go.RowKit Go.Maps
open Num Mem Words Chacha Aead Poly

/-- an event: its kind, the bytes of its key, its version -/
structure Ev where
  k : Int
  f : Nat → Nat
  v : Nat
/-- an item: an event, and how many were left out -/
structure It where
  e : Ev
  lost : Nat
def evL (e : Ev) : List Value := .int .i64 e.k :: (byteCells e.f 32 ++ [.int .u64 (e.v : Nat)])
def noEv : Ev := ⟨0, fun _ => 0, 0⟩
def itL (x : It) : List Value := evL x.e ++ [.int .u64 (x.lost : Nat)]
def flatI : List It → List Value
  | [] => []
  | x :: L => itL x ++ flatI L
theorem evL_length (e : Ev) : (evL e).length = 34 := by simp [evL, byteCells_length]
theorem itL_length (x : It) : (itL x).length = 35 := by simp [itL, evL_length]
theorem evL_each (e : Ev) : ∀ v ∈ evL e, v.oneCell' = true := by
  intro v hv
  simp only [evL, List.mem_cons, List.mem_append, List.not_mem_nil, or_false] at hv
  rcases hv with rfl | hv | rfl
  · rfl
  · exact bytes_each _ _ v hv
  · rfl
theorem itL_each (x : It) : ∀ v ∈ itL x, v.oneCell' = true := by
  intro v hv
  simp only [itL, List.mem_append, List.mem_cons, List.not_mem_nil, or_false] at hv
  rcases hv with hv | rfl
  · exact evL_each _ v hv
  · rfl
theorem evL_one (e : Ev) : (evL e).toArray.all (·.oneCell') = true := by
  rw [List.all_toArray, List.all_eq_true]
  exact evL_each e
theorem itL_one (x : It) : (itL x).toArray.all (·.oneCell') = true := by
  rw [List.all_toArray, List.all_eq_true]
  exact itL_each x
theorem flatI_each : ∀ (L : List It), ∀ v ∈ flatI L, v.oneCell' = true
  | [], v, h => by cases h
  | x :: L, v, h => by
    rcases List.mem_append.1 h with h | h
    · exact itL_each x v h
    · exact flatI_each L v h
theorem flatI_length : ∀ L : List It, (flatI L).length = L.length * 35
  | [] => rfl
  | x :: L => by show (itL x ++ flatI L).length = _; rw [List.length_append, itL_length, flatI_length L, List.length_cons]; omega
theorem flatI_append : ∀ L M : List It, flatI (L ++ M) = flatI L ++ flatI M
  | [], _ => rfl
  | x :: L, M => by show itL x ++ flatI (L ++ M) = (itL x ++ flatI L) ++ flatI M; rw [flatI_append L M, List.append_assoc]
theorem flatI_one (x : It) : flatI [x] = itL x := List.append_nil _
theorem flatI_take : ∀ (L : List It) (n : Nat), flatI (L.take n) = (flatI L).take (n * 35)
  | [], n => by simp [flatI]
  | x :: L, 0 => by simp [flatI]
  | x :: L, n + 1 => by
    show itL x ++ flatI (L.take n) = (itL x ++ flatI L).take ((n + 1) * 35)
    rw [flatI_take L n, List.take_append, itL_length, List.take_of_length_le (l := itL x) (by rw [itL_length]; omega), show (n + 1) * 35 - 35 = n * 35 by omega]
theorem flatI_drop : ∀ (L : List It) (n : Nat), flatI (L.drop n) = (flatI L).drop (n * 35)
  | [], n => by simp [flatI]
  | x :: L, 0 => by simp [flatI]
  | x :: L, n + 1 => by
    show flatI (L.drop n) = (itL x ++ flatI L).drop ((n + 1) * 35)
    rw [flatI_drop L n, List.drop_append, itL_length, List.drop_of_length_le (l := itL x) (by rw [itL_length]; omega), show (n + 1) * 35 - 35 = n * 35 by omega]
    rfl
theorem flatI_get : ∀ (L : List It) (i j : Nat) (x : It), L[i]? = some x → j < 35 → (flatI L)[i * 35 + j]? = (itL x)[j]?
  | [], i, j, x, h, _ => by simp at h
  | y :: L, 0, j, x, h, hj => by
    simp only [List.getElem?_cons_zero, Option.some.injEq] at h
    subst h
    show (itL y ++ flatI L)[0 * 35 + j]? = _
    rw [Nat.zero_mul, Nat.zero_add, List.getElem?_append_left (by rw [itL_length]; exact hj)]
  | y :: L, i + 1, j, x, h, hj => by
    rw [List.getElem?_cons_succ] at h
    show (itL y ++ flatI L)[(i + 1) * 35 + j]? = _
    rw [List.getElem?_append_right (by rw [itL_length]; omega), itL_length, show (i + 1) * 35 + j - 35 = i * 35 + j by omega]
    exact flatI_get L i j x h hj

/-- a watcher: its row, and how many were left out since the last item -/
structure Wt where
  L : List It
  lost : Nat
def gapL (n : Nat) : List It := if 0 < n then [⟨noEv, n⟩] else []
def pushW (x : Wt) (e : Ev) : Wt := if 16 < x.L.length + ((gapL x.lost).length + 1) then ⟨x.L, x.lost + 1⟩ else ⟨x.L ++ (gapL x.lost ++ [⟨e, 0⟩]), 0⟩
def pushAll (x : Wt) : List Ev → Wt
  | [] => x
  | e :: l => pushAll (pushW x e) l
theorem pushAll_snoc : ∀ (l : List Ev) (x : Wt) (e : Ev), pushAll x (l ++ [e]) = pushW (pushAll x l) e
  | [], _, _ => rfl
  | d :: l, x, e => pushAll_snoc l (pushW x d) e
theorem pushAll_append : ∀ (l m : List Ev) (x : Wt), pushAll x (l ++ m) = pushAll (pushAll x l) m
  | [], _, _ => rfl
  | d :: l, m, x => pushAll_append l m (pushW x d)
theorem gap_le (n : Nat) : (gapL n).length ≤ 1 := by unfold gapL; split <;> simp
theorem pushW_few {x : Wt} (e : Ev) (h : x.L.length ≤ 16) : (pushW x e).L.length ≤ 16 := by
  unfold pushW
  split
  · exact h
  · simp only [List.length_append, List.length_cons, List.length_nil]
    omega
theorem pushAll_few : ∀ (l : List Ev) {x : Wt}, x.L.length ≤ 16 → (pushAll x l).L.length ≤ 16
  | [], _, h => h
  | e :: l, _, h => pushAll_few l (pushW_few e h)
theorem pushW_lost (x : Wt) (e : Ev) : (pushW x e).lost ≤ x.lost + 1 := by
  unfold pushW
  split
  · exact Nat.le_refl _
  · exact Nat.zero_le _
theorem pushAll_lost : ∀ (l : List Ev) (x : Wt), (pushAll x l).lost ≤ x.lost + l.length
  | [], _ => Nat.le_refl _
  | e :: l, x => by
    have h1 := pushAll_lost l (pushW x e)
    have h2 := pushW_lost x e
    show (pushAll (pushW x e) l).lost ≤ _
    rw [List.length_cons]
    omega
/-- how many are taken -/
def cnt (n : Int) (k : Nat) : Nat := min (max n 0).toNat k
def takeL (x : Wt) (n : Int) : List It := x.L.take (cnt n x.L.length) ++ (if ((cnt n x.L.length : Nat) : Int) < n then gapL x.lost else [])
def takeW (x : Wt) (n : Int) : Wt := ⟨x.L.drop (cnt n x.L.length), if ((cnt n x.L.length : Nat) : Int) < n then 0 else x.lost⟩
theorem cnt_le (n : Int) (k : Nat) : cnt n k ≤ k := Nat.min_le_right _ _
def waitsN (x : Wt) : Nat := x.L.length + (gapL x.lost).length

/-! ### a feed: its watchers, by their numbers -/
abbrev St := List (Nat × Wt)
def ids (S : St) : List Nat := S.map Prod.fst
def at_ (S : St) (id : Nat) : Option Wt := (S.find? (fun p => p.1 == id)).map Prod.snd
def leaveS (S : St) (id : Nat) : St := S.filter (fun p => p.1 != id)
def putS (S : St) (id : Nat) (x : Wt) : St := S.map (fun p => if p.1 = id then (p.1, x) else p)
def pushS (S : St) (l : List Ev) : St := S.map (fun p => (p.1, pushAll p.2 l))
theorem at_nil (id : Nat) : at_ [] id = none := rfl
theorem at_cons (p : Nat × Wt) (S : St) (id : Nat) : at_ (p :: S) id = if p.1 = id then some p.2 else at_ S id := by
  unfold at_
  rw [List.find?_cons]
  by_cases h : p.1 = id
  · simp [h]
  · rw [if_neg h, show (p.1 == id) = false from beq_eq_false_iff_ne.2 h]
theorem at_mem : ∀ {S : St} {id : Nat} {x : Wt}, at_ S id = some x → (id, x) ∈ S
  | [], _, _, h => by cases h
  | p :: S, id, x, h => by
    rw [at_cons] at h
    split at h
    · rename_i e
      injection h with h
      subst h e
      exact List.mem_cons_self
    · exact List.mem_cons_of_mem _ (at_mem h)
theorem at_of_mem : ∀ {S : St}, (ids S).Nodup → ∀ {id : Nat} {x : Wt}, (id, x) ∈ S → at_ S id = some x
  | [], _, _, _, h => by cases h
  | p :: S, hn, id, x, h => by
    rw [at_cons]
    rcases List.mem_cons.1 h with rfl | h
    · exact if_pos rfl
    · have hn : (p.1 :: ids S).Nodup := hn
      rw [List.nodup_cons] at hn
      rw [if_neg (fun e => hn.1 (by rw [e]; exact List.mem_map_of_mem (f := Prod.fst) h))]
      exact at_of_mem hn.2 h
theorem at_none_iff {S : St} {id : Nat} : at_ S id = none ↔ id ∉ ids S := by
  induction S with
  | nil => simp [at_, ids]
  | cons p S ih =>
    rw [at_cons]
    show _ ↔ id ∉ p.1 :: ids S
    by_cases h : p.1 = id
    · simp [h]
    · rw [if_neg h, ih, List.mem_cons]
      constructor
      · rintro h1 (h2 | h2)
        · exact h h2.symm
        · exact h1 h2
      · exact fun h1 h2 => h1 (.inr h2)
theorem at_some_of {S : St} {id : Nat} (h : id ∈ ids S) : ∃ x, at_ S id = some x := by
  cases e : at_ S id with
  | none => exact absurd h (at_none_iff.1 e)
  | some x => exact ⟨x, rfl⟩
theorem ids_put (S : St) (id : Nat) (x : Wt) : ids (putS S id x) = ids S := by
  unfold ids putS
  rw [List.map_map]
  refine List.map_congr_left fun p _ => ?_
  show (if p.1 = id then (p.1, x) else p).1 = p.1
  split <;> rfl
theorem ids_push (S : St) (l : List Ev) : ids (pushS S l) = ids S := by
  unfold ids pushS
  rw [List.map_map]
  rfl
theorem ids_leave (S : St) (id : Nat) : ids (leaveS S id) = (ids S).filter (fun i => i != id) := by
  unfold ids leaveS
  rw [List.filter_map]
  rfl
theorem leave_length {S : St} (hn : (ids S).Nodup) {id : Nat} (h : id ∈ ids S) : (leaveS S id).length + 1 = S.length := by
  have e : ∀ T : St, T.length = (ids T).length := fun T => (List.length_map _).symm
  rw [e, e S, ids_leave, List.Nodup.erase_eq_filter hn id |>.symm, List.length_erase_of_mem h]
  have := List.length_pos_of_mem h
  omega
theorem leave_none {S : St} {id : Nat} (h : id ∉ ids S) : leaveS S id = S := by
  unfold leaveS
  refine List.filter_eq_self.2 fun p hp => ?_
  simp only [bne_iff_ne, ne_eq]
  rintro rfl
  exact h (List.mem_map_of_mem hp)
theorem mem_put {S : St} {id j : Nat} {x y : Wt} (h : (j, y) ∈ putS S id x) : (j = id ∧ y = x) ∨ (j ≠ id ∧ (j, y) ∈ S) := by
  unfold putS at h
  obtain ⟨p, hp, e⟩ := List.mem_map.1 h
  by_cases c : p.1 = id
  · rw [if_pos c] at e
    injection e with e1 e2
    exact .inl ⟨e1.symm.trans c, e2.symm⟩
  · rw [if_neg c] at e
    subst e
    exact .inr ⟨c, hp⟩
theorem at_put_same {S : St} {id : Nat} {x : Wt} (h : id ∈ ids S) : at_ (putS S id x) id = some x := by
  induction S with
  | nil => cases h
  | cons p S ih =>
    show at_ ((if p.1 = id then (p.1, x) else p) :: putS S id x) id = _
    rw [at_cons]
    by_cases c : p.1 = id
    · simp [c]
    · rw [if_neg c, if_neg c]
      exact ih ((List.mem_cons.1 h).resolve_left (fun e => c e.symm))
theorem at_put_other {S : St} {id j : Nat} {x : Wt} (h : j ≠ id) : at_ (putS S id x) j = at_ S j := by
  induction S with
  | nil => rfl
  | cons p S ih =>
    show at_ ((if p.1 = id then (p.1, x) else p) :: putS S id x) j = _
    rw [at_cons, at_cons, ih]
    by_cases c : p.1 = id
    · have hn : ¬ p.1 = j := fun e => h (e.symm.trans c)
      simp [c, Ne.symm h]
    · rw [if_neg c]
theorem at_push (S : St) (l : List Ev) (id : Nat) : at_ (pushS S l) id = (at_ S id).map (fun x => pushAll x l) := by
  induction S with
  | nil => rfl
  | cons p S ih =>
    show at_ ((p.1, pushAll p.2 l) :: pushS S l) id = _
    rw [at_cons, at_cons, ih]
    split <;> rfl
theorem at_snoc {S : St} {id : Nat} {x : Wt} (h : id ∉ ids S) (j : Nat) : at_ (S ++ [(id, x)]) j = if j = id then some x else at_ S j := by
  induction S with
  | nil =>
    show at_ [(id, x)] j = _
    rw [at_cons]
    by_cases c : j = id
    · simp [c]
    · simp [c, Ne.symm c]
  | cons p S ih =>
    have hp : ¬ p.1 = id := fun e => h (e ▸ List.mem_cons_self)
    show at_ (p :: (S ++ [(id, x)])) j = _
    rw [at_cons, at_cons, ih (fun c => h (List.mem_cons_of_mem _ c))]
    by_cases c : p.1 = j
    · rw [if_pos c, if_pos c, if_neg (fun e => hp (c.trans e))]
    · rw [if_neg c, if_neg c]

/-! ### maps of pointers by numbers -/
def keyO (o : Nat) : Lit := .int .u64 o
def ptrV : Option Nat → Value
  | none => .pointer none
  | some r => .pointer (some ⟨r, 0, none⟩)
def ptrD : Option Nat → DataW Unit
  | none => .lit .nil
  | some r => .lit (.int .i64 r)
/-- how a pointer reads -/
def ptrR : Value → Option (DataW Unit × List MemPlace)
  | .pointer none => some (.lit .nil, [])
  | .pointer (some ⟨r, 0, none⟩) => some (.lit (.int .i64 r), [])
  | _ => none
theorem ptrR_mk (q : Option Nat) : ptrR (ptrV q) = some (ptrD q, []) := by cases q <;> rfl
theorem ptrR_inv {x : Value} {y : DataW Unit × List MemPlace} (h : ptrR x = some y) : ∃ q : Option Nat, x = ptrV q ∧ y = (ptrD q, []) := by
  unfold ptrR at h
  split at h
  · exact ⟨none, rfl, (Option.some.inj h).symm⟩
  · rename_i r
    exact ⟨some r, rfl, (Option.some.inj h).symm⟩
  · cases h
theorem ptrD_inj {q q' : Option Nat} (h : ptrD q = ptrD q') : q = q' := by
  cases q <;> cases q' <;> simp only [ptrD] at h
  · rfl
  · injection h with h; cases h
  · injection h with h; cases h
  · injection h with h
    injection h with _ h
    rw [Int.ofNat.inj h]
theorem keyO_ne {o o' : Nat} (h : o' ≠ o) : keyO o' ≠ keyO o := by
  intro e
  injection e with _ e
  exact h (Int.ofNat.inj e)
theorem keyO_inj {o o' : Nat} (e : keyO o' = keyO o) : o' = o := by
  injection e with _ e
  exact Int.ofNat.inj e
/-- a map of pointers reads as a table -/
structure PAg (D : DataW Unit) (m : Nat → Option Nat) : Prop where
  hs : ∀ o, has D (keyO o) = (m o).isSome
  at_ : ∀ o, D.atKey (keyO o) (ptrD none) = ptrD (m o)
def upd {α : Type} (m : Nat → α) (o : Nat) (v : α) (x : Nat) : α := if x = o then v else m x
theorem upd_same {α : Type} (m : Nat → α) (o : Nat) (v : α) : upd m o v o = v := if_pos rfl
theorem upd_other {α : Type} (m : Nat → α) {o x : Nat} (v : α) (h : x ≠ o) : upd m o v x = m x := if_neg h
theorem pag_empty : PAg (.map []) (fun _ => none) := ⟨fun _ => rfl, fun _ => rfl⟩
theorem PAg.put {D : DataW Unit} {m : Nat → Option Nat} (h : PAg D m) (hD : IsMap D) (o : Nat) (r : Nat) : PAg (D.put (keyO o) (ptrD (some r))) (upd m o (some r)) := by
  refine ⟨fun x => ?_, fun x => ?_⟩
  · by_cases e : x = o
    · subst e
      rw [has_put_same hD (show WideAt.IsKeyLit (keyO x) from trivial), upd_same]; rfl
    · rw [has_put_other (keyO_ne e), upd_other _ _ e, h.hs]
  · by_cases e : x = o
    · subst e
      rw [atKey_put_same hD (show WideAt.IsKeyLit (keyO x) from trivial), upd_same]
    · rw [atKey_put_other (keyO_ne e), upd_other _ _ e, h.at_]
theorem PAg.del {D : DataW Unit} {m : Nat → Option Nat} (h : PAg D m) (o : Nat) : PAg (D.del (keyO o)) (upd m o none) := by
  refine ⟨fun x => ?_, fun x => ?_⟩
  · by_cases e : x = o
    · subst e
      rw [has_del_same, upd_same]; rfl
    · rw [has_del_other (keyO_ne e), upd_other _ _ e, h.hs]
  · by_cases e : x = o
    · subst e
      rw [atKey_del_same, upd_same]
    · rw [atKey_del_other (keyO_ne e), upd_other _ _ e, h.at_]
end Fee
end Go.Proofs.Ytlbfjdpcnnplnaa
