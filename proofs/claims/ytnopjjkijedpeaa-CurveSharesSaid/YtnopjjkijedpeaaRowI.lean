/- Rows of int64 numbers, at least 0: cells, rows that are a call's own, append of one. Nothing of the program but the type's number. -/
import Derived.Test.YtnopjjkijedpeaaCatB
import Derived.Test.YtnopjjkijedpeaaRadix
import Derived.Test.YtnopjjkijedpeaaBlock
namespace Go.Proofs.Ytnopjjkijedpeaa
namespace Mem
open Go.RowKit

def icells (f : Nat → Nat) (n : Nat) : List Value := (List.range n).map fun i => .int .i64 (f i : Nat)
theorem icells_lit16 (f : Nat → Nat) : (icells f 16).toArray = #[.int .i64 (f 0 : Nat), .int .i64 (f 1 : Nat), .int .i64 (f 2 : Nat), .int .i64 (f 3 : Nat), .int .i64 (f 4 : Nat), .int .i64 (f 5 : Nat), .int .i64 (f 6 : Nat), .int .i64 (f 7 : Nat), .int .i64 (f 8 : Nat), .int .i64 (f 9 : Nat), .int .i64 (f 10 : Nat), .int .i64 (f 11 : Nat), .int .i64 (f 12 : Nat), .int .i64 (f 13 : Nat), .int .i64 (f 14 : Nat), .int .i64 (f 15 : Nat)] := rfl
theorem icells_get (f : Nat → Nat) (n i : Nat) (h : i < n) : (icells f n)[i]? = some (.int .i64 (f i : Nat)) := by
  simp [icells, h]
theorem icells_length (f : Nat → Nat) (n : Nat) : (icells f n).length = n := by simp [icells]
theorem icells_size (f : Nat → Nat) (n : Nat) : (icells f n).toArray.size = n := by rw [List.size_toArray, icells_length]
theorem icells_congr {f g : Nat → Nat} {n : Nat} (h : ∀ i, i < n → f i = g i) : icells f n = icells g n := by
  unfold icells
  exact List.map_congr_left fun i hi => by rw [h i (List.mem_range.1 hi)]
theorem icells_snoc (f : Nat → Nat) (n : Nat) : icells f (n + 1) = icells f n ++ [.int .i64 (f n : Nat)] := by
  simp [icells, List.range_succ]
theorem icells_put (f : Nat → Nat) (n j v : Nat) : (icells f n).set j (.int .i64 (v : Nat)) = icells (fun i => if i = j then v else f i) n := by
  apply List.ext_getElem?
  intro i
  rw [List.getElem?_set]
  by_cases hi : i < n
  · by_cases hj : j = i
    · subst hj
      simp [icells, hi]
    · have : ¬ i = j := fun e => hj e.symm
      simp [icells, hi, hj, this]
  · simp [icells, hi]
    omega
theorem icells_set (f : Nat → Nat) (n j v : Nat) : (icells f n).toArray.setIfInBounds j (.int .i64 (v : Nat)) = (icells (fun i => if i = j then v else f i) n).toArray := by
  rw [List.setIfInBounds_toArray, icells_put]
theorem icells_one (f : Nat → Nat) (n : Nat) : (icells f n).toArray.all (·.oneCell') = true := by
  simp [icells, Value.oneCell']
theorem Whole.inum {w : World} {g n : Nat} {t : TypeId} {f : Nat → Nat} (h : Whole w g t (icells f n).toArray) (i : Nat) (hi : i < n) : w.cell? ⟨g, i, none⟩ = some (.int .i64 (f i : Nat)) := by
  rw [h.cell, List.getElem?_toArray, icells_get f n i hi]
theorem icells_next {a b : Nat → Nat} {n k : Nat} (v : Nat) (h : v = b k) : icells (fun i => if i = k then v else if i < k then b i else a i) n = icells (fun i => if i < k + 1 then b i else a i) n := by
  refine icells_congr (fun i _ => ?_)
  subst h
  by_cases e : i = k
  · subst e
    rw [if_pos rfl, if_pos (by omega)]
  · rw [if_neg e]
    by_cases l : i < k
    · rw [if_pos l, if_pos (by omega)]
    · rw [if_neg l, if_neg (by omega)]

/-- the slice at A of n numbers is the call's own (from block B on), and reads as f -/
def OwnI (w : World) (B : Nat) (A : Option Addr) (n c : Nat) (f : Nat → Nat) : Prop := w.ownsRow B 2 1 (.slice A n c) n (icells f n)

section
variable {w w' : World} {B : Nat} {A : Option Addr} {n c : Nat} {f g : Nat → Nat}
theorem OwnI.nil (w : World) (B : Nat) (f : Nat → Nat) : OwnI w B none 0 0 f := ⟨rfl, .inl ⟨rfl, rfl⟩⟩
theorem OwnI.congr (h : OwnI w B A n c f) (e : ∀ i, i < n → f i = g i) : OwnI w B A n c g := by
  unfold OwnI
  rw [← icells_congr e]
  exact h
theorem OwnI.alloc (h : OwnI w B A n c f) (o : Obj) : OwnI (w.alloc o) B A n c f := World.ownsRow.alloc h o
theorem OwnI.drewN (h : OwnI w B A n c f) (k : Nat) : OwnI (w.drewN k) B A n c f := h
theorem OwnI.drew (h : OwnI w B A n c f) : OwnI w.drew B A n c f := h
theorem OwnI.at (h : OwnI w B A n c f) (hn : 0 < n) : ∃ b, A = some ⟨b, 0, none⟩ ∧ B ≤ b ∧ b < w.heap.size := owns_some h hn
theorem OwnI.below {B' : Nat} (h : OwnI w B A n c f) (hb : Below B' w w') (hB : w.heap.size ≤ B') : OwnI w' B A n c f := owns_below h hb hB
theorem OwnI.more {B' : Nat} (h : OwnI w B A n c f) (hB : B' ≤ B) : OwnI w B' A n c f := owns_more h hB
end
section
variable {w w' : World} {B b : Nat} {n c : Nat} {f g : Nat → Nat}
theorem OwnI.num (h : OwnI w B (some ⟨b, 0, none⟩) n c f) (i : Nat) (hi : i < n) : w.cell? ⟨b, i, none⟩ = some (.int .i64 (f i : Nat)) := by
  rw [World.ownsRow.cellAt h i (by omega), icells_get f n i hi]
theorem OwnI.free (h : OwnI w B (some ⟨b, 0, none⟩) n c f) (i : Nat) : w.frozen? ⟨b, i, none⟩ = false := World.ownsRow.frozenAt h i
theorem OwnI.put (h : OwnI w B (some ⟨b, 0, none⟩) n c f) (i v : Nat) : OwnI (w.setCell ⟨b, i, none⟩ (.int .i64 (v : Nat))) B (some ⟨b, 0, none⟩) n c (fun j => if j = i then v else f j) := by
  have k := World.ownsRow.stored h i (.int .i64 (v : Nat))
  unfold OwnI
  rw [← icells_put]
  exact k.1
theorem OwnI.far (h : OwnI w B (some ⟨b, 0, none⟩) n c f) {p : Addr} (hp : b ≠ p.block) (u : Value) : OwnI (w.setCell p u) B (some ⟨b, 0, none⟩) n c f := by
  refine ⟨h.1, ?_⟩
  rcases h.2 with k | ⟨g', cap, cur, e, hg, hh, r⟩
  · exact .inl k
  · refine .inr ⟨g', cap, cur, e, hg, ?_, r⟩
    injection e with e1 e2 e3
    injection e1 with e1
    injection e1 with e1
    subst e1
    exact (Below.heap_setCell w p u b hp).trans hh
end

theorem info_i64 : (Try.prog.info? 2).map (fun i => (i.zero, i.size, i.bytes)) = some (some (.int .i64 0), 1, 8) := by kernel_rfl

/-- 'append(out, x)' of one number onto a row of the call's own -/
theorem wpList_pushI {ops : Array Oper} {rest : List Oper} {o : Oper} {a : Act} {Q : Exit → Act → World → Prop} {W w : World} {B k c : Nat} {A : Option Addr} {f : Nat → Nat} {b : Int} (hgd : o.guard = none) (s x : Operand)
    (ho : o.op = .call { callee := .builtin .append, args := #[s, x], argTypes := #[55, 55] })
    (hs : a.eval s = .slice A k c) (hx : a.eval x = .slice (some ⟨w.heap.size, 0, none⟩) 1 1)
    (own : OwnI w B A k c f) (bel : Below B W w) (hB : B ≤ w.heap.size) (hb : b = (f k : Nat)) (hk : k < 1000000)
    (h : ∀ A' c' w', OwnI w' B A' (k + 1) c' f → Below B W w' → B ≤ w'.heap.size → w.grownBy w' (Value.slice A k c).ownBlock → wpList Try.prog ops Q rest (a.put o.dst (.slice A' (k + 1) c')) w') :
    wpList Try.prog ops Q (o :: rest) a (w.alloc (.cells #[.int .i64 b] 2)) := by
  refine wpList_cat (W := W) (w := w.alloc (.cells #[.int .i64 b] 2)) (B := B) (xs := icells f k) hgd s x 55 2 (.int .i64 0) 8 Try.underlying55 info_i64 rfl ho hs (World.ownsRow.alloc own _) (bel.alloc hB _) (by simp; omega) ⟨w.heap.size, 0, none⟩ 1 1 hx [.int .i64 b] rfl (fun j u hj => ?_) (fun u hu => by simp at hu; subst hu; rfl) (by omega) (by omega) ?_
  · rcases j with _ | j
    · simp at hj
      subst hj
      exact (Whole.new w _ #[.int .i64 b]).cell 0
    · simp at hj
  · intro A' c' w' h1 h2 h3 h4
    refine h A' c' w' ?_ h2 h3 ?_
    · unfold OwnI
      rw [icells_snoc, ← hb]
      exact h1
    · exact grown_trans' h4
where grown_trans' {w : World} {w' : World} {o : Obj} {g : Option Nat} (h : (w.alloc o).grownBy w' g) : w.grownBy w' g := ⟨h.1, h.2, h.3, Nat.le_trans (by simp) h.4, fun k hk hne => (h.5 k (by simp; omega) hne).trans (Below.heap_alloc w o k hk)⟩

/-- the same, as a single operation -/
theorem wp_pushI {o : Oper} {a : Act} {K : Act → World → Prop} {Q : Exit → Act → World → Prop} {W w : World} {B k c : Nat} {A : Option Addr} {f : Nat → Nat} {b : Int} (s x : Operand)
    (ho : o.op = .call { callee := .builtin .append, args := #[s, x], argTypes := #[55, 55] })
    (hs : a.eval s = .slice A k c) (hx : a.eval x = .slice (some ⟨w.heap.size, 0, none⟩) 1 1)
    (own : OwnI w B A k c f) (bel : Below B W w) (hB : B ≤ w.heap.size) (hb : b = (f k : Nat)) (hk : k < 1000000)
    (h : ∀ A' c' w', OwnI w' B A' (k + 1) c' f → Below B W w' → B ≤ w'.heap.size → w.grownBy w' (Value.slice A k c).ownBlock → K (a.put o.dst (.slice A' (k + 1) c')) w') :
    o.wp Try.prog a (w.alloc (.cells #[.int .i64 b] 2)) K Q := by
  refine wp_cat (W := W) (w := w.alloc (.cells #[.int .i64 b] 2)) (B := B) (xs := icells f k) s x 55 2 (.int .i64 0) 8 Try.underlying55 info_i64 rfl ho hs (World.ownsRow.alloc own _) (bel.alloc hB _) (by simp; omega) ⟨w.heap.size, 0, none⟩ 1 1 hx [.int .i64 b] rfl (fun j u hj => ?_) (fun u hu => by simp at hu; subst hu; rfl) (by omega) (by omega) ?_
  · rcases j with _ | j
    · simp at hj
      subst hj
      exact (Whole.new w _ #[.int .i64 b]).cell 0
    · simp at hj
  · intro A' c' w' h1 h2 h3 h4 _
    refine h A' c' w' ?_ h2 h3 ?_
    · unfold OwnI
      rw [icells_snoc, ← hb]
      exact h1
    · exact ⟨h4.1, h4.2, h4.3, Nat.le_trans (by simp) h4.4, fun k hk hne => (h4.5 k (by simp; omega) hne).trans (Below.heap_alloc w _ k hk)⟩

end Mem
end Go.Proofs.Ytnopjjkijedpeaa
