/- Rows of cells of one value each, as lists of values. Nothing of the program. -/
import Derived.Test.YtdhjgenijieeaaaKit
namespace Go.Proofs.Ytdhjgenijieeaaa
namespace RowV
open Go.RowKit Mem Words Chacha Aead Poly

/-- a slice reads as a list of cells -/
def RdV (w : World) (A : Option Addr) (xs : List Value) : Prop := xs = [] ∨ ∃ b off, A = some ⟨b, off, none⟩ ∧ b < w.heap.size ∧ ∀ i v, xs[i]? = some v → w.cell? ⟨b, off + i, none⟩ = some v
theorem RdV.below {w w' : World} {A : Option Addr} {xs : List Value} {B : Nat} (h : RdV w A xs) (hb : Below B w w') (hB : w.heap.size ≤ B) : RdV w' A xs := by
  rcases h with h | ⟨b, off, e, hlt, h⟩
  · exact .inl h
  · exact .inr ⟨b, off, e, Nat.lt_of_lt_of_le hlt hb.size, fun i v hv => (hb.cell (p := ⟨b, off + i, none⟩) (Nat.lt_of_lt_of_le hlt hB)).trans (h i v hv)⟩
theorem rdv_own {w : World} {B e n c : Nat} {A : Option Addr} {xs : List Value} (h : w.ownsRow B e 1 (.slice A n c) n xs) : RdV w A xs := by
  have h0 := h
  rcases h.2 with ⟨_, rfl⟩ | ⟨b, cap, cur, e1, _, hh, _⟩
  · refine .inl ?_
    have := h.1
    rw [Nat.zero_mul] at this
    exact List.eq_nil_of_length_eq_zero this
  · obtain ⟨rfl, rfl⟩ : A = some ⟨b, 0, none⟩ ∧ c = cap := by
      injection e1 with e1 e2 e3
      exact ⟨e1, e3⟩
    refine .inr ⟨b, 0, rfl, ?_, fun i v hv => ?_⟩
    · rcases Nat.lt_or_ge b w.heap.size with k | k
      · exact k
      · rw [Array.getElem?_eq_none k] at hh
        cases hh
    · have hl := h0.1
      have hi : i < n * 1 := by
        rw [← hl]
        rcases Nat.lt_or_ge i xs.length with k | k
        · exact k
        · rw [List.getElem?_eq_none k] at hv; cases hv
      rw [Nat.zero_add, h0.cellAt i (by omega), hv]
theorem ownsRow_below {w w' : World} {B : Nat} {e : TypeId} {v : Value} {n : Nat} {xs : List Value} (h : w.ownsRow B e 1 v n xs) {C : Nat} (hb : Below C w w') (hC : w.heap.size ≤ C) : w'.ownsRow B e 1 v n xs := by
  refine ⟨h.1, ?_⟩
  rcases h.2 with k | ⟨b, cap, cur, e, hg, hh, r⟩
  · exact .inl k
  · refine .inr ⟨b, cap, cur, e, hg, ?_, r⟩
    have hlt : b < w.heap.size := by
      rcases Nat.lt_or_ge b w.heap.size with k | k
      · exact k
      · rw [Array.getElem?_eq_none k] at hh
        cases hh
    exact (hb.block b (Nat.lt_of_lt_of_le hlt hC)).trans hh
/-- a write elsewhere -/
theorem ownsRow_far {w : World} {B : Nat} {e : TypeId} {v : Value} {n : Nat} {xs : List Value} (h : w.ownsRow B e 1 v n xs) {g : Nat} (hg : g < B) (cs : Array Value) : (w.setRow g cs).ownsRow B e 1 v n xs := by
  refine ⟨h.1, ?_⟩
  rcases h.2 with k | ⟨b, cap, cur, e, hb, hh, r⟩
  · exact .inl k
  · exact .inr ⟨b, cap, cur, e, hb, (setRow_other _ _ _ _ (by omega)).trans hh, r⟩
theorem ownsRow_set {w : World} {B : Nat} {e : TypeId} {v : Value} {n : Nat} {xs : List Value} (h : w.ownsRow B e 1 v n xs) {p : Addr} (hp : p.block < B) (u : Value) : (w.setCell p u).ownsRow B e 1 v n xs := by
  refine ⟨h.1, ?_⟩
  rcases h.2 with k | ⟨b, cap, cur, e, hg, hh, r⟩
  · exact .inl k
  · exact .inr ⟨b, cap, cur, e, hg, (Below.heap_setCell w p u b (by omega)).trans hh, r⟩
theorem one_new (w : World) (u : Value) (t : TypeId) : ∀ j x, [u][j]? = some x → (w.alloc (.cells #[u] t)).cell? ((⟨w.heap.size, 0, none⟩ : Addr).add j) = some x := by
  intro j x hj
  cases j with
  | zero =>
    injection hj with hj
    subst hj
    exact (Whole.new w t #[u]).cell 0
  | succ j => simp at hj
/-- append of one cell to a row of one's own -/
theorem wpList_push {P : Program} {ops : Array Oper} {rest : List Oper} {o : Oper} {a : Act} {Q : Exit → Act → World → Prop} {w : World} {B k c : Nat} {A : Option Addr} {xs : List Value} (u : Value) (hgd : o.guard = none) (s x : Operand) (t e : TypeId) (z : Value) (by_ : Nat)
    (ht : P.underlying t = some (.slice e)) (hinfo : (P.info? e).map (fun i => (i.zero, i.size, i.bytes)) = some (some z, 1, by_)) (hz : z.cells.size = 1)
    (ho : o.op = .call { callee := .builtin .append, args := #[s, x], argTypes := #[t, t] })
    (hs : a.eval s = .slice A k c) (hx : a.eval x = .slice (some ⟨w.heap.size, 0, none⟩) 1 1) (own : w.ownsRow B e 1 (.slice A k c) k xs) (hB : B ≤ w.heap.size)
    (h1 : u.oneCell' = true) (hk : (k + 1) * by_ ≤ 140737488355328) (hk2 : k + 1 ≤ 140737488355328)
    (h : ∀ A' c' w', w'.ownsRow B e 1 (.slice A' (k + 1) c') (k + 1) (xs ++ [u]) → Below B w w' → w.heap.size < w'.heap.size → wpList P ops Q rest (a.put o.dst (.slice A' (k + 1) c')) w') :
    wpList P ops Q (o :: rest) a (w.alloc (.cells #[u] e)) := by
  obtain ⟨i0, hi, hz0, hz1, hz2⟩ := info_parts hinfo
  refine wpList_append_own _ hgd s x t ho B e i0 z 1 by_ ht hi hz0 hz1 hz2 hz (by decide) (.slice A k c) k xs hs (World.ownsRow.alloc own _) ⟨w.heap.size, 0, none⟩ 1 1 [u] hx rfl (one_new _ _ _)
    (by intro v hv; simp at hv; subst hv; exact h1) (by simp only [maxLen]; omega) hk (by simp; omega) ?_
  intro v' w' g1 g2 _
  have hlt : w.heap.size < w'.heap.size := Nat.lt_of_lt_of_le (by simp) g2.size
  have hbel := keeps_row (World.ownsRow.alloc own (.cells #[u] e)) ((Below.refl B w).alloc hB _) g2 (Nat.le_trans hB (by simp))
  rcases g1.2 with ⟨_, h0⟩ | ⟨g, cap, cur, rfl, r⟩
  · omega
  · exact h _ _ w' g1 hbel hlt
/-- the same, and what is written is that row alone -/
theorem wpList_pushG {P : Program} {ops : Array Oper} {rest : List Oper} {o : Oper} {a : Act} {Q : Exit → Act → World → Prop} {w : World} {B k c : Nat} {A : Option Addr} {xs : List Value} (u : Value) (hgd : o.guard = none) (s x : Operand) (t e : TypeId) (z : Value) (by_ : Nat)
    (ht : P.underlying t = some (.slice e)) (hinfo : (P.info? e).map (fun i => (i.zero, i.size, i.bytes)) = some (some z, 1, by_)) (hz : z.cells.size = 1)
    (ho : o.op = .call { callee := .builtin .append, args := #[s, x], argTypes := #[t, t] })
    (hs : a.eval s = .slice A k c) (hx : a.eval x = .slice (some ⟨w.heap.size, 0, none⟩) 1 1) (own : w.ownsRow B e 1 (.slice A k c) k xs) (hB : B ≤ w.heap.size)
    (h1 : u.oneCell' = true) (hk : (k + 1) * by_ ≤ 140737488355328) (hk2 : k + 1 ≤ 140737488355328)
    (h : ∀ A' c' w', w'.ownsRow B e 1 (.slice A' (k + 1) c') (k + 1) (xs ++ [u]) → Below B w w' → w.heap.size < w'.heap.size → (w.alloc (.cells #[u] e)).grownBy w' (Value.slice A k c).ownBlock → wpList P ops Q rest (a.put o.dst (.slice A' (k + 1) c')) w') :
    wpList P ops Q (o :: rest) a (w.alloc (.cells #[u] e)) := by
  obtain ⟨i0, hi, hz0, hz1, hz2⟩ := info_parts hinfo
  refine wpList_append_own _ hgd s x t ho B e i0 z 1 by_ ht hi hz0 hz1 hz2 hz (by decide) (.slice A k c) k xs hs (World.ownsRow.alloc own _) ⟨w.heap.size, 0, none⟩ 1 1 [u] hx rfl (one_new _ _ _)
    (by intro v hv; simp at hv; subst hv; exact h1) (by simp only [maxLen]; omega) hk (by simp; omega) ?_
  intro v' w' g1 g2 _
  have hlt : w.heap.size < w'.heap.size := Nat.lt_of_lt_of_le (by simp) g2.size
  have hbel := keeps_row (World.ownsRow.alloc own (.cells #[u] e)) ((Below.refl B w).alloc hB _) g2 (Nat.le_trans hB (by simp))
  rcases g1.2 with ⟨_, h0⟩ | ⟨g, cap, cur, rfl, r⟩
  · omega
  · exact h _ _ w' g1 hbel hlt g2
theorem own_lt {w : World} {B : Nat} {e : TypeId} {v : Value} {n : Nat} {xs : List Value} (h : w.ownsRow B e 1 v n xs) : ∀ g, v.ownBlock = some g → g < w.heap.size := by
  intro g hg
  rcases h.2 with ⟨rfl, _⟩ | ⟨b, cap, cur, rfl, _, hh, _⟩
  · cases hg
  · injection hg with hg
    subst hg
    rcases Nat.lt_or_ge b w.heap.size with k | k
    · exact k
    · rw [Array.getElem?_eq_none k] at hh; cases hh
theorem whole_pushed {w w' : World} {u : Value} {e : TypeId} {o : Option Nat} {g : Nat} {t : TypeId} {cs : Array Value} (h : (w.alloc (.cells #[u] e)).grownBy w' o) (hg : Whole w g t cs) (ho : ∀ i, o = some i → i ≠ g) : Whole w' g t cs := by
  have h1 := hg.alloc (.cells #[u] e)
  exact (h.block g h1.lt (by intro hc; exact ho g hc.symm rfl)).trans h1
end RowV
end Go.Proofs.Ytdhjgenijieeaaa
