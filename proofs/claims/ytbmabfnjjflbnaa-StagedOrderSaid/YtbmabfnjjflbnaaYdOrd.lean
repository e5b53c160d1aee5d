/- What StagedOrder keeps: numbers by owner, and the last one of each. -/
import Derived.Test.YtbmabfnjjflbnaaYdOps
namespace Go.Proofs.Ytbmabfnjjflbnaa
namespace Yd
open Go.ChangeShapes Go.WideShapes Go.ChangeAt Go.RowKit Go.Maps
open Num Mem Words Chacha Aead Poly Quiet RowV RowS

def cells17 (F : Nat → Value) : List Value := (List.range 17).map F
theorem cells17_length (F : Nat → Value) : (cells17 F).length = 17 := by simp [cells17]
theorem cells17_get (F : Nat → Value) {o : Nat} (h : o < 17) : (cells17 F)[o]? = some (F o) := by
  unfold cells17
  rw [List.getElem?_map, List.getElem?_range h]
  rfl
def updN {α : Type} (F : Nat → α) (o : Nat) (v : α) (x : Nat) : α := if x = o then v else F x
theorem updN_same {α : Type} (F : Nat → α) (o : Nat) (v : α) : updN F o v o = v := if_pos rfl
theorem updN_other {α : Type} (F : Nat → α) {o x : Nat} (v : α) (h : x ≠ o) : updN F o v x = F x := if_neg h
theorem cells17_set (F : Nat → Value) {o : Nat} (v : Value) : (cells17 F).set o v = cells17 (updN F o v) := by
  apply List.ext_getElem?
  intro i
  by_cases hi : i < 17
  · rw [cells17_get _ hi]
    by_cases e : i = o
    · subst e
      rw [List.getElem?_set_self (by rw [cells17_length]; exact hi), updN_same]
    · rw [List.getElem?_set_ne (Ne.symm e), cells17_get _ hi, updN_other _ _ e]
  · rw [List.getElem?_eq_none (by rw [List.length_set, cells17_length]; omega), List.getElem?_eq_none (by rw [cells17_length]; omega)]
theorem cells17_congr {F G : Nat → Value} (h : ∀ o, F o = G o) : cells17 F = cells17 G := by
  have : F = G := funext h
  rw [this]

/-- numbers as cells -/
def numsL (l : List Nat) : List Value := l.map fun v => .int .u64 (v : Nat)
theorem numsL_get (l : List Nat) (i v : Nat) (h : l[i]? = some v) : (numsL l)[i]? = some (.int .u64 (v : Nat)) := by
  unfold numsL
  rw [List.getElem?_map, h]
  rfl
theorem numsL_snoc (l : List Nat) (v : Nat) : numsL (l ++ [v]) = numsL l ++ [.int .u64 (v : Nat)] := by simp [numsL]

/-- one owner's packets: put, behind the last one that came, in order -/
structure Ord (L : List Pk) (Ps : List Nat) (l n : Nat) : Prop where
  all : ∀ x ∈ L, x.num ∈ Ps ∧ l < x.num ∧ x.num ≤ n
  inc : L.Pairwise (fun x y => x.num < y.num)
  le : l ≤ n
theorem Ord.more {L : List Pk} {Ps : List Nat} {l n m : Nat} (h : Ord L Ps l n) (hm : n ≤ m) : Ord L Ps l m := ⟨fun x hx => ⟨(h.all x hx).1, (h.all x hx).2.1, Nat.le_trans (h.all x hx).2.2 hm⟩, h.inc, Nat.le_trans h.le hm⟩
theorem Ord.put {L : List Pk} {Ps : List Nat} {l n : Nat} (h : Ord L Ps l n) (x : Pk) (hx : x.num = n + 1) : Ord (pushP L x) (Ps ++ [n + 1]) l (n + 1) := by
  have key : ∀ M : List Pk, M.Sublist L → Ord (M ++ [x]) (Ps ++ [n + 1]) l (n + 1) := fun M hM => by
    refine ⟨fun y hy => ?_, ?_, Nat.le_succ_of_le h.le⟩
    · rcases List.mem_append.1 hy with hy | hy
      · have := h.all y (hM.subset hy)
        exact ⟨List.mem_append_left _ this.1, this.2.1, by omega⟩
      · rw [List.mem_singleton.1 hy, hx]
        exact ⟨List.mem_append_right _ List.mem_cons_self, by have := h.le; omega, Nat.le_refl _⟩
    · rw [List.pairwise_append]
      refine ⟨h.inc.sublist hM, List.pairwise_singleton _ _, fun y hy z hz => ?_⟩
      have := h.all y (hM.subset hy)
      rw [List.mem_singleton.1 hz, hx]
      omega
  unfold pushP
  split
  · exact key L.tail (List.tail_sublist L)
  · exact key L (List.Sublist.refl L)
theorem Ord.take {L : List Pk} {Ps : List Nat} {l n : Nat} {x : Pk} (h : Ord (x :: L) Ps l n) : Ord L Ps x.num n ∧ x.num ∈ Ps ∧ l < x.num := by
  have h0 := h.all x List.mem_cons_self
  have hi := List.pairwise_cons.1 h.inc
  exact ⟨⟨fun y hy => ⟨(h.all y (List.mem_cons_of_mem _ hy)).1, hi.1 y hy, (h.all y (List.mem_cons_of_mem _ hy)).2.2⟩, hi.2, h0.2.2⟩, h0.1, h0.2.1⟩
theorem Ord.nil (n : Nat) : Ord [] [] 0 n := ⟨fun x hx => (by cases hx), List.Pairwise.nil, Nat.zero_le _⟩

/-- a slice of the row of slices -/
def putV (P : Nat → List Nat) (S : Nat → Option Addr × Nat) (o : Nat) : Value := .slice (S o).1 (P o).length (S o).2
def lstV (l : Nat → Nat) (o : Nat) : Value := .int .u64 (l o : Nat)
structure OrW (w : World) (g b n gp gl : Nat) (Y : Int → List Pk) (t : Nat) (P : Nat → List Nat) (S : Nat → Option Addr × Nat) (l : Nat → Nat) (X : World) : Prop where
  yw : YW X w.heap.size g b Y n t
  put : Whole X gp 53 (cells17 (putV P S)).toArray
  lst : Whole X gl 54 (cells17 (lstV l)).toArray
  rows : ∀ o, o < 17 → X.ownsRow w.heap.size 27 1 (putV P S o) (P o).length (numsL (P o))
  dis : ∀ o o', o < 17 → o' < 17 → o ≠ o' → ∀ i, (putV P S o).ownBlock = some i → (putV P S o').ownBlock ≠ some i
  bel : Below w.heap.size w X
  gpb : w.heap.size ≤ gp
  glb : w.heap.size ≤ gl
  tn : t ≤ n
/-- what is kept of the numbers -/
structure Inv (Y : Int → List Pk) (P : Nat → List Nat) (l : Nat → Nat) (n : Nat) : Prop where
  ord : ∀ o : Nat, 1 ≤ o → o ≤ 16 → Ord (Y (o : Int)) (P o) (l o) n
  few : ∀ o, (P o).length ≤ n
section
variable {w : World} {g b n gp gl : Nat} {Y : Int → List Pk} {t : Nat} {P : Nat → List Nat} {S : Nat → Option Addr × Nat} {l : Nat → Nat} {X X' : World}
theorem OrW.below (h : OrW w g b n gp gl Y t P S l X) (hb : Below X.heap.size X X') : OrW w g b n gp gl Y t P S l X' :=
  ⟨h.yw.below hb, h.put.below hb h.put.lt, h.lst.below hb h.lst.lt, fun o ho => own_keep (h.rows o ho) hb, h.dis, h.bel.trans (hb.mono h.bel.size), h.gpb, h.glb, h.tn⟩
/-- a call of the yard's -/
theorem OrW.call (h : OrW w g b n gp gl Y t P S l X) (hk : Yk w.heap.size X X') {Y' : Int → List Pk} {n' t' : Nat} (hy : YW X' w.heap.size g b Y' n' t') (ht : t' ≤ n') : OrW w g b n' gp gl Y' t' P S l X' :=
  ⟨hy, hk.whole h.put (by decide) (by decide), hk.whole h.lst (by decide) (by decide), fun o ho => own_yk (h.rows o ho) hk (by decide) (by decide), h.dis, h.bel.trans (hk.below h.bel.size), h.gpb, h.glb, ht⟩
/-- the last number of an owner -/
theorem OrW.last (h : OrW w g b n gp gl Y t P S l X) (o v : Nat) : OrW w g b n gp gl Y t P S (updN l o v) (X.setCell ⟨gl, o, none⟩ (.int .u64 (v : Nat))) := by
  have hg := grown_set1 X gl o (.int .u64 (v : Nat))
  have hne : gp ≠ gl := by
    rintro rfl
    exact absurd (whole_type h.put h.lst) (by decide)
  have hp := h.lst.put o (.int .u64 (v : Nat))
  rw [List.setIfInBounds_toArray, cells17_set] at hp
  have e : updN (lstV l) o (.int .u64 (v : Nat)) = lstV (updN l o v) := by
    funext x
    by_cases h : x = o <;> simp [lstV, updN, h]
  rw [e] at hp
  refine ⟨h.yw.grown hg (fun k' e => ?_), whole_grown h.put hg (Ne.symm hne), hp, fun o' ho' => ?_, h.dis, ?_, h.gpb, h.glb, h.tn⟩
  · injection e with e
    subst e
    exact ⟨_, _, h.lst, by decide, by decide, by decide⟩
  · refine ⟨(h.rows o' ho').1, ?_⟩
    rcases (h.rows o' ho').2 with h0 | ⟨c, cap, cur, hv, hB, hh, rest⟩
    · exact Or.inl h0
    · refine Or.inr ⟨c, cap, cur, hv, hB, ?_, rest⟩
      refine (Below.heap_setCell X ⟨gl, o, none⟩ _ c ?_).trans hh
      intro e
      rw [show c = gl from e] at hh
      exact absurd (whole_type (show Whole X gl 27 cur from hh) h.lst) (by decide)
  · exact h.bel.setCell (by show w.heap.size ≤ gl; exact h.glb) _
/-- a number more of an owner -/
theorem OrW.push (h : OrW w g b n gp gl Y t P S l X) {o v : Nat} (ho : o < 17) {A' : Option Addr} {c' : Nat} {w2 : World} (hown : w2.ownsRow w.heap.size 27 1 (.slice A' ((P o).length + 1) c') ((P o).length + 1) (numsL (P o) ++ [.int .u64 (v : Nat)]))
    (hgr : X.grownBy w2 (putV P S o).ownBlock) (hoff : ∀ i, i < X.heap.size → (putV P S o).ownBlock ≠ some i → (Value.slice A' ((P o).length + 1) c').ownBlock ≠ some i) :
    OrW w g b n gp gl Y t (updN P o (P o ++ [v])) (updN S o (A', c')) l (w2.setCell ⟨gp, o, none⟩ (.slice A' ((P o).length + 1) c')) := by
  have hrow : ∀ o', o' < 17 → ∀ k', (putV P S o').ownBlock = some k' → w.heap.size ≤ k' ∧ ∃ cs, Whole X k' 27 cs := fun o' ho' k' e => by
    rcases (h.rows o' ho').2 with ⟨h0, _⟩ | ⟨g', cap, cur, hv, hB, hh, _⟩
    · rw [h0] at e; cases e
    · rw [hv] at e
      injection e with e
      simp at e
      subst e
      exact ⟨hB, _, hh⟩
  have hst : ∀ {i : Nat} {u : TypeId} {cs : Array Value}, Whole X i u cs → u ≠ 27 → Whole w2 i u cs := fun {i u cs} e hu => (hgr.block i e.lt (fun k => by
    obtain ⟨_, ds, hw⟩ := hrow o ho i k.symm
    exact hu (whole_type e hw))).trans e
  have hp2 := hst h.put (by decide)
  have hl2 := hst h.lst (by decide)
  have hne : gl ≠ gp := by
    intro e
    rw [e] at hl2
    exact absurd (whole_type hp2 hl2) (by decide)
  have hg := grown_set1 w2 gp o (.slice A' ((P o).length + 1) c')
  have hp := hp2.put o (.slice A' ((P o).length + 1) c')
  rw [List.setIfInBounds_toArray, cells17_set] at hp
  have e : updN (putV P S) o (.slice A' ((P o).length + 1) c') = putV (updN P o (P o ++ [v])) (updN S o (A', c')) := by
    funext x
    by_cases h : x = o <;> simp [putV, updN, h]
  rw [e] at hp
  have hset : ∀ {d : Nat} {e1 : TypeId} {u : Value} {xs : List Value}, w2.ownsRow w.heap.size e1 1 u d xs → e1 = 27 → (w2.setCell ⟨gp, o, none⟩ (.slice A' ((P o).length + 1) c')).ownsRow w.heap.size e1 1 u d xs := fun {d e1 u xs} hr he => by
    refine ⟨hr.1, ?_⟩
    rcases hr.2 with h0 | ⟨c, cap, cur, hv, hB, hh, rest⟩
    · exact Or.inl h0
    · refine Or.inr ⟨c, cap, cur, hv, hB, ?_, rest⟩
      refine (Below.heap_setCell w2 ⟨gp, o, none⟩ _ c ?_).trans hh
      intro e
      rw [show c = gp from e] at hh
      exact absurd ((whole_type (show Whole w2 gp e1 cur from hh) hp2).symm.trans he) (by decide)
  refine ⟨?_, hp, whole_grown hl2 hg (Ne.symm hne), fun o' ho' => ?_, fun o1 o2 h1 h2 h12 i hi => ?_, ?_, h.gpb, h.glb, h.tn⟩
  · refine (h.yw.grown hgr (fun k' e => ?_)).grown hg (fun k' e => ?_)
    · obtain ⟨_, ds, hw⟩ := hrow o ho k' e
      exact ⟨_, _, hw, by decide, by decide, by decide⟩
    · injection e with e
      subst e
      exact ⟨_, _, hp2, by decide, by decide, by decide⟩
  · by_cases e : o' = o
    · subst e
      unfold putV
      rw [updN_same, updN_same, List.length_append]
      rw [numsL_snoc]
      exact hset hown rfl
    · unfold putV
      rw [updN_other _ _ e, updN_other _ _ e]
      refine hset ⟨(h.rows o' ho').1, ?_⟩ rfl
      rcases (h.rows o' ho').2 with h0 | ⟨c, cap, cur, hv, hB, hh, rest⟩
      · exact Or.inl h0
      · refine Or.inr ⟨c, cap, cur, hv, hB, ?_, rest⟩
        refine (hgr.block c (show Whole X c _ cur from hh).lt (fun k => ?_)).trans hh
        exact h.dis o o' ho ho' (Ne.symm e) c k.symm (by rw [hv]; rfl)
  · by_cases e1 : o1 = o
    · subst e1
      have e2 : ¬ o2 = o1 := Ne.symm h12
      unfold putV at hi ⊢
      rw [updN_same, updN_same, List.length_append] at hi
      rw [updN_other _ _ e2, updN_other _ _ e2]
      intro hj
      have hlt := hrow o2 h2 i hj
      obtain ⟨_, ds, hw⟩ := hlt
      refine hoff i hw.lt (fun k => h.dis o1 o2 h1 h2 h12 i k hj) hi
    · unfold putV at hi ⊢
      rw [updN_other _ _ e1, updN_other _ _ e1] at hi
      by_cases e2 : o2 = o
      · subst e2
        rw [updN_same, updN_same, List.length_append]
        obtain ⟨_, ds, hw⟩ := hrow o1 h1 i hi
        exact hoff i hw.lt (fun k => h.dis o1 o2 h1 h2 h12 i hi k)
      · rw [updN_other _ _ e2, updN_other _ _ e2]
        exact h.dis o1 o2 h1 h2 h12 i hi
  · refine Below.setCell (h.bel.grown hgr h.bel.size (fun k' e => (hrow o ho k' e).1)) (by show w.heap.size ≤ gp; exact h.gpb) _
end
end Yd
end Go.Proofs.Ytbmabfnjjflbnaa
