/- Two rows of the call's own that grow side by side. Nothing of the program. -/
import Derived.Test.YtcoppcididemkaaDoorCatB
import Derived.Laws.AppendOwnNone
namespace Go.Proofs.YtcoppcididemkaaDoor
namespace Mem
open Go.RowKit

/-- two slices that lie in blocks of their own -/
def Apart (A A' : Option Addr) : Prop := ∀ x x', A = some x → A' = some x' → x.block ≠ x'.block
theorem Apart.symm {A A' : Option Addr} (h : Apart A A') : Apart A' A := fun g g' e e' k => h g' g e' e k.symm
theorem Apart.nil (A : Option Addr) : Apart none A := fun _ _ e => by cases e

theorem own_at {w : World} {B t k c : Nat} {A : Option Addr} {f : Nat → Nat} (h : Own w B t A k c f) : A = none ∨ ∃ g, A = some ⟨g, 0, none⟩ ∧ B ≤ g ∧ g < w.heap.size := by
  rcases h.2 with ⟨e, _⟩ | ⟨g, cap, cur, e, hg, hh, _⟩
  · injection e with e1
    exact .inl e1
  · injection e with e1
    refine .inr ⟨g, e1, hg, ?_⟩
    rcases Nat.lt_or_ge g w.heap.size with k | k
    · exact k
    · rw [Array.getElem?_eq_none k] at hh
      cases hh

/-- what grows elsewhere leaves a row as it is -/
theorem Own.grown {w w' : World} {B t n c k c' : Nat} {A A' : Option Addr} {f : Nat → Nat} (h : Own w B t A' n c' f) (hg : w.grownBy w' (Value.slice A k c).ownBlock) (ha : Apart A A') : Own w' B t A' n c' f := by
  refine ⟨h.1, ?_⟩
  rcases h.2 with ⟨e, z⟩ | ⟨g, cap, cur, e, hgB, hh, r⟩
  · exact .inl ⟨e, z⟩
  · refine .inr ⟨g, cap, cur, e, hgB, ?_, r⟩
    have hlt : g < w.heap.size := by
      rcases Nat.lt_or_ge g w.heap.size with k | k
      · exact k
      · rw [Array.getElem?_eq_none k] at hh
        cases hh
    refine (hg.block g hlt ?_).trans hh
    intro e2
    have eA : A' = some ⟨g, 0, none⟩ := by injection e
    rcases A with _ | x
    · simp [Value.ownBlock] at e2
    · simp [Value.ownBlock] at e2
      exact ha x _ rfl eA e2.symm

theorem Apart.moved {w : World} {B t k c k' c' n c'' : Nat} {A A' A2 : Option Addr} {f : Nat → Nat} {B' t' : Nat} {f2 : Nat → Nat} {w' : World} (hat : (Value.slice A2 k' c').ownBlock = (Value.slice A k c).ownBlock ∨ (Value.slice A2 k' c').ownBlock = some w.heap.size)
    (ha : Apart A A') (h : Own w B t A' n c'' f) (_ : Own w' B' t' A2 k' c' f2) : Apart A2 A' := by
  rintro x x' rfl hx'
  rcases own_at h with h0 | ⟨g2, e2, _, hlt⟩
  · rw [h0] at hx'
    cases hx'
  · rw [e2] at hx'
    injection hx' with hx'
    subst hx'
    rcases hat with e | e
    · rcases A with _ | y
      · simp [Value.ownBlock] at e
      · simp [Value.ownBlock] at e
        rw [e]
        exact ha y _ rfl e2
    · simp [Value.ownBlock] at e
      rw [e]
      show w.heap.size ≠ g2
      omega

section
variable {P : Program}
theorem wpList_catAt {ops : Array Oper} {rest : List Oper} {o : Oper} {a : Act} {Q : Exit → Act → World → Prop} {W w : World} {B k c : Nat} {A : Option Addr} {f g T : Nat → Nat} (hgd : o.guard = none) (s x : Operand) (t e : TypeId) (z : Value) (by_ : Nat)
    (ht : P.underlying t = some (.slice e)) (hinfo : (P.info? e).map (fun i => (i.zero, i.size, i.bytes)) = some (some z, 1, by_)) (hz : z.cells.size = 1)
    (ho : o.op = .call { callee := .builtin .append, args := #[s, x], argTypes := #[t, t] })
    (hs : a.eval s = .slice A k c) (own : Own w B e A k c f) (bel : Below B W w) (hB : B ≤ w.heap.size)
    (m cx b off : Nat) (hx : a.eval x = .slice (some ⟨b, off, none⟩) m cx) (hy : ∀ i, i < m → w.cell? ⟨b, off + i, none⟩ = some (.int .u8 (g i : Nat))) (hk : (k + m) * by_ ≤ 140737488355328) (hk2 : k + m ≤ 140737488355328)
    (hT : ∀ i, i < k + m → T i = if i < k then f i else g (i - k))
    (h : ∀ A' c' w', Own w' B e A' (k + m) c' T → Below B W w' → B ≤ w'.heap.size → w.grownBy w' (Value.slice A k c).ownBlock → ((Value.slice A' (k + m) c').ownBlock = (Value.slice A k c).ownBlock ∨ (Value.slice A' (k + m) c').ownBlock = some w.heap.size) → wpList P ops Q rest (a.put o.dst (.slice A' (k + m) c')) w') :
    wpList P ops Q (o :: rest) a w :=
  wpList_plain hgd fun K hK => wp_cat s x t e z by_ ht hinfo hz ho hs own bel hB ⟨b, off, none⟩ m cx hx (byteCells g m) (byteCells_length _ _) (rd_src hy) (by
      intro u hu
      simp [byteCells] at hu
      obtain ⟨i, _, rfl⟩ := hu
      rfl) hk hk2 fun A' c' w' h1 h2 h3 h4 h5 => hK _ _ (h A' c' w' (by
      rw [byteCells_append, byteCells_congr (g := T) (fun i hi => (hT i hi).symm)] at h1
      exact h1) h2 h3 h4 h5)

/-- a slice of m bytes that reads as g, as a source of append -/
def Src (w : World) (A : Option Addr) (m c : Nat) (g : Nat → Nat) : Prop := (A = none ∧ m = 0 ∧ c = 0) ∨ ∃ ad, A = some ad ∧ ∀ (j : Nat) (v : Value), (byteCells g m)[j]? = some v → w.cell? (ad.add j) = some v

theorem wpList_catFrom {ops : Array Oper} {rest : List Oper} {o : Oper} {a : Act} {Q : Exit → Act → World → Prop} {W w : World} {B k c : Nat} {A : Option Addr} {f g T : Nat → Nat} (hgd : o.guard = none) (s x : Operand) (t e : TypeId) (z : Value) (by_ : Nat)
    (ht : P.underlying t = some (.slice e)) (hinfo : (P.info? e).map (fun i => (i.zero, i.size, i.bytes)) = some (some z, 1, by_)) (hz : z.cells.size = 1)
    (ho : o.op = .call { callee := .builtin .append, args := #[s, x], argTypes := #[t, t] })
    (hs : a.eval s = .slice A k c) (own : Own w B e A k c f) (bel : Below B W w) (hB : B ≤ w.heap.size)
    (m cx : Nat) (A2 : Option Addr) (hx : a.eval x = .slice A2 m cx) (src : Src w A2 m cx g) (hk : (k + m) * by_ ≤ 140737488355328) (hk2 : k + m ≤ 140737488355328)
    (hT : ∀ i, i < k + m → T i = if i < k then f i else g (i - k))
    (h : ∀ A' c' w', Own w' B e A' (k + m) c' T → Below B W w' → B ≤ w'.heap.size → w.grownBy w' (Value.slice A k c).ownBlock → ((Value.slice A' (k + m) c').ownBlock = (Value.slice A k c).ownBlock ∨ (Value.slice A' (k + m) c').ownBlock = some w.heap.size) → wpList P ops Q rest (a.put o.dst (.slice A' (k + m) c')) w') :
    wpList P ops Q (o :: rest) a w := by
  rcases src with ⟨rfl, rfl, rfl⟩ | ⟨ad, rfl, hy⟩
  · obtain ⟨i0, hi, _⟩ := info_parts hinfo
    refine wpList_append_own_none hgd s x t ho B e i0 1 ht hi (.slice A k c) k (byteCells f k) hs own hx ?_
    exact h A c w (Own.congr own fun i hi => by rw [hT i (by omega), if_pos (by omega)]) bel hB (World.grownBy.refl _ _) (.inl rfl)
  · exact wpList_plain hgd fun K hK => wp_cat s x t e z by_ ht hinfo hz ho hs own bel hB ad m cx hx (byteCells g m) (byteCells_length _ _) hy (by
      intro u hu
      simp [byteCells] at hu
      obtain ⟨i, _, rfl⟩ := hu
      rfl) hk hk2 fun A' c' w' h1 h2 h3 h4 h5 => hK _ _ (h A' c' w' (by
      rw [byteCells_append, byteCells_congr (g := T) (fun i hi => (hT i hi).symm)] at h1
      exact h1) h2 h3 h4 h5)
end

theorem src_own {w : World} {B t m c : Nat} {A : Option Addr} {g : Nat → Nat} (h : Own w B t A m c g) : Src w A m c g := by
  rcases own_at h with h0 | ⟨b, rfl, _⟩
  · subst h0
    rcases h.2 with ⟨e, z⟩ | ⟨b, cap, cur, e, _⟩
    · injection e with _ e2 e3
      exact .inl ⟨rfl, z, e3⟩
    · injection e with e1
      cases e1
  · refine .inr ⟨_, rfl, ?_⟩
    rcases h.rd with h0 | ⟨b', off, e, _, hc⟩
    · subst h0
      intro j v hj
      simp [byteCells] at hj
    · injection e with e
      injection e with e1 e2
      subst e1
      subst e2
      exact rd_src hc
theorem src_rd {w : World} {m c : Nat} {A : Option Addr} {g : Nat → Nat} (h : Rd w A m g) (hn : A = none → m = 0 ∧ c = 0) : Src w A m c g := by
  rcases A with _ | ad
  · exact .inl ⟨rfl, hn rfl⟩
  · refine .inr ⟨ad, rfl, ?_⟩
    rcases h with h0 | ⟨b', off, e, _, hc⟩
    · subst h0
      intro j v hj
      simp [byteCells] at hj
    · injection e with e
      subst e
      exact rd_src hc
/-- a row that has just been laid -/
theorem own_new {w : World} {B t n : Nat} {cs : Array Value} {f : Nat → Nat} (hB : B ≤ w.heap.size) (hc : cs = (byteCells f n).toArray) (hn : n ≤ 140737488355328) : Own (w.alloc (.cells cs t)) B t (some ⟨w.heap.size, 0, none⟩) n n f := by
  subst hc
  refine ⟨by rw [byteCells_length, Nat.mul_one], .inr ⟨w.heap.size, n, (byteCells f n).toArray, rfl, hB, Whole.new _ _ _, Nat.le_refl _, by simp only [maxLen]; omega, by rw [List.size_toArray, byteCells_length, Nat.mul_one], ?_⟩⟩
  rw [Nat.mul_one, List.take_of_length_le (by rw [byteCells_length]; omega)]

end Mem
end Go.Proofs.YtcoppcididemkaaDoor
