/- Rows of bytes that a call gathers by append: what is owned, read and handed on. Nothing of the program. -/
import Derived.Test.YtcoppcididemkaaDoorStr
import Derived.Laws.AppendOwn
import Derived.Laws.AppendOwnNone
namespace Go.Proofs.YtcoppcididemkaaDoor
namespace Mem
open Go.RowKit

theorem byteCells_snoc (f : Nat → Nat) (n : Nat) : byteCells f (n + 1) = byteCells f n ++ [.int .u8 (f n : Nat)] := by
  simp [byteCells, List.range_succ]

theorem byteCells_append (f g : Nat → Nat) (n m : Nat) : byteCells f n ++ byteCells g m = byteCells (fun i => if i < n then f i else g (i - n)) (n + m) := by
  apply List.ext_getElem?
  intro i
  by_cases h1 : i < n
  · rw [List.getElem?_append_left (by rw [byteCells_length]; exact h1), byteCells_get _ _ _ h1, byteCells_get _ _ _ (by omega), if_pos h1]
  · rw [List.getElem?_append_right (by rw [byteCells_length]; omega), byteCells_length]
    by_cases h2 : i < n + m
    · rw [byteCells_get _ _ _ (by omega), byteCells_get _ _ _ h2, if_neg h1]
    · rw [List.getElem?_eq_none (by rw [byteCells_length]; omega), List.getElem?_eq_none (by rw [byteCells_length]; omega)]

/-- the slice at A of n bytes is the call's own (from block B on), and reads as f -/
def Own (w : World) (B : Nat) (t : TypeId) (A : Option Addr) (n c : Nat) (f : Nat → Nat) : Prop := w.ownsRow B t 1 (.slice A n c) n (byteCells f n)

section
variable {w w' : World} {B : Nat} {t : TypeId} {A : Option Addr} {n c : Nat} {f g : Nat → Nat}
theorem Own.nil (w : World) (B : Nat) (t : TypeId) (f : Nat → Nat) : Own w B t none 0 0 f := ⟨rfl, .inl ⟨rfl, rfl⟩⟩
theorem Own.congr (h : Own w B t A n c f) (e : ∀ i, i < n → f i = g i) : Own w B t A n c g := by
  unfold Own
  rw [← byteCells_congr e]
  exact h
theorem Own.alloc (h : Own w B t A n c f) (o : Obj) : Own (w.alloc o) B t A n c f := World.ownsRow.alloc h o
theorem Own.drewN (h : Own w B t A n c f) (k : Nat) : Own (w.drewN k) B t A n c f := h
theorem Own.rd (h : Own w B t A n c f) : Rd w A n f := by
  have h0 : w.ownsRow B t 1 (.slice A n c) n (byteCells f n) := h
  rcases h.2 with ⟨_, rfl⟩ | ⟨b, cap, cur, e, _, hh, _⟩
  · exact .inl rfl
  · obtain ⟨rfl, rfl⟩ : A = some ⟨b, 0, none⟩ ∧ c = cap := by
      injection e with e1 e2 e3
      exact ⟨e1, e3⟩
    refine .inr ⟨b, 0, rfl, ?_, fun i hi => ?_⟩
    · rcases Nat.lt_or_ge b w.heap.size with k | k
      · exact k
      · rw [Array.getElem?_eq_none k] at hh
        cases hh
    · rw [Nat.zero_add, h0.cellAt i (by omega), byteCells_get f n i hi]
theorem Own.below {B' : Nat} (h : Own w B t A n c f) (hb : Below B' w w') (hB : w.heap.size ≤ B') : Own w' B t A n c f := by
  refine ⟨h.1, ?_⟩
  rcases h.2 with k | ⟨b, cap, cur, e, hg, hh, r⟩
  · exact .inl k
  · refine .inr ⟨b, cap, cur, e, hg, ?_, r⟩
    have hlt : b < w.heap.size := by
      rcases Nat.lt_or_ge b w.heap.size with k | k
      · exact k
      · rw [Array.getElem?_eq_none k] at hh
        cases hh
    exact (hb.block b (by omega)).trans hh
theorem Own.more {B' : Nat} (h : Own w B t A n c f) (hB : B' ≤ B) : Own w B' t A n c f := by
  refine ⟨h.1, ?_⟩
  rcases h.2 with k | ⟨b, cap, cur, e, hg, r⟩
  · exact .inl k
  · exact .inr ⟨b, cap, cur, e, Nat.le_trans hB hg, r⟩

/-- what an append leaves is a slice of which the same is told -/
theorem Own.of_append {v : Value} {xs : List Value} {m : Nat} (h : w.ownsRow B t 1 v m xs) (e : xs = byteCells f m) : ∃ A c, v = .slice A m c ∧ Own w B t A m c f := by
  subst e
  rcases h.2 with ⟨rfl, rfl⟩ | ⟨b, cap, cur, rfl, r⟩
  · exact ⟨none, 0, rfl, h⟩
  · exact ⟨some ⟨b, 0, none⟩, cap, rfl, h⟩

/-- of a call's own row: all that was below it stays -/
theorem Own.keeps {W w1 : World} (h : Own w B t A n c f) (hb : Below B W w) (o : Obj) (hg : (w.alloc o).grownBy w1 (Value.slice A n c).ownBlock) (hB : B ≤ w.heap.size) : Below B W w1 := by
  refine (hb.alloc hB o).grown hg (by simp; omega) fun k hk => ?_
  rcases h.2 with ⟨e, _⟩ | ⟨b, cap, cur, e, hgB, r⟩
  · rw [e] at hk
    simp [Value.ownBlock] at hk
  · rw [e] at hk
    simp [Value.ownBlock] at hk
    omega
end

end Mem
end Go.Proofs.YtcoppcididemkaaDoor
