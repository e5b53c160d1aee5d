/- 'append(out, more...)' onto a row of the call's own, of cells that take one place each. Nothing of the program. -/
import Derived.Test.YtcoppcididemkaaDoorOwn
import Derived.OwnWalk
namespace Go.Proofs.YtcoppcididemkaaDoor
namespace Mem
open Go.RowKit

section
variable {P : Program}

theorem keeps_row {W w w' : World} {B e size n : Nat} {v : Value} {xs : List Value} (own : w.ownsRow B e size v n xs) (bel : Below B W w) (hg : w.grownBy w' v.ownBlock) (hB : B ≤ w.heap.size) : Below B W w' :=
  bel.grown hg hB fun k hk => (World.ownsRow.lt own k hk).1

theorem wpList_cat {ops : Array Oper} {rest : List Oper} {o : Oper} {a : Act} {Q : Exit → Act → World → Prop} {W w : World} {B k c : Nat} {A : Option Addr} {xs : List Value} (hgd : o.guard = none) (s x : Operand) (t e : TypeId) (z : Value) (by_ : Nat)
    (ht : P.underlying t = some (.slice e)) (hinfo : (P.info? e).map (fun i => (i.zero, i.size, i.bytes)) = some (some z, 1, by_)) (hz : z.cells.size = 1)
    (ho : o.op = .call { callee := .builtin .append, args := #[s, x], argTypes := #[t, t] })
    (hs : a.eval s = .slice A k c) (own : w.ownsRow B e 1 (.slice A k c) k xs) (bel : Below B W w) (hB : B ≤ w.heap.size)
    (ad : Addr) (m cx : Nat) (hx : a.eval x = .slice (some ad) m cx) (ys : List Value) (hl : ys.length = m) (hy : ∀ j u, ys[j]? = some u → w.cell? (ad.add j) = some u) (h1 : ∀ u ∈ ys, u.oneCell' = true) (hk : (k + m) * by_ ≤ 140737488355328) (hk2 : k + m ≤ 140737488355328)
    (h : ∀ A' c' w', w'.ownsRow B e 1 (.slice A' (k + m) c') (k + m) (xs ++ ys) → Below B W w' → B ≤ w'.heap.size → w.grownBy w' (Value.slice A k c).ownBlock → wpList P ops Q rest (a.put o.dst (.slice A' (k + m) c')) w') :
    wpList P ops Q (o :: rest) a w := by
  obtain ⟨i0, hi, hz0, hz1, hz2⟩ := info_parts hinfo
  refine wpList_append_own _ hgd s x t ho B e i0 z 1 by_ ht hi hz0 hz1 hz2 hz (by decide) (.slice A k c) k xs hs own ad m cx ys hx (by rw [hl, Nat.mul_one]) hy h1 (by simp only [maxLen]; omega) hk hB ?_
  intro v' w' h1 h2 _
  have hs' := Nat.le_trans hB h2.size
  rcases h1.2 with ⟨rfl, h0⟩ | ⟨b, cap, cur, rfl, r⟩
  · rw [h0] at h1 h
    exact h none 0 w' h1 (keeps_row own bel h2 hB) hs' h2
  · exact h (some ⟨b, 0, none⟩) cap w' h1 (keeps_row own bel h2 hB) hs' h2

/-- an own row stays under what writes elsewhere only -/
theorem owns_below {w w' : World} {B B' e size n : Nat} {v : Value} {xs : List Value} (own : w.ownsRow B e size v n xs) (hb : Below B' w w') (hB : w.heap.size ≤ B') : w'.ownsRow B e size v n xs := by
  refine ⟨own.1, ?_⟩
  rcases own.2 with k | ⟨g, cap, cur, e', hg, hh, r⟩
  · exact .inl k
  · refine .inr ⟨g, cap, cur, e', hg, ?_, r⟩
    have hlt : g < w.heap.size := by
      rcases Nat.lt_or_ge g w.heap.size with k | k
      · exact k
      · rw [Array.getElem?_eq_none k] at hh
        cases hh
    exact (hb.block g (by omega)).trans hh
theorem owns_more {w : World} {B B' e size n : Nat} {v : Value} {xs : List Value} (own : w.ownsRow B e size v n xs) (hB : B' ≤ B) : w.ownsRow B' e size v n xs := by
  refine ⟨own.1, ?_⟩
  rcases own.2 with k | ⟨g, cap, cur, e', hg, r⟩
  · exact .inl k
  · exact .inr ⟨g, cap, cur, e', Nat.le_trans hB hg, r⟩
theorem owns_some {w : World} {B e size n c : Nat} {A : Option Addr} {xs : List Value} (own : w.ownsRow B e size (.slice A n c) n xs) (hn : 0 < n) : ∃ g, A = some ⟨g, 0, none⟩ ∧ B ≤ g ∧ g < w.heap.size := by
  rcases own.2 with ⟨_, h0⟩ | ⟨g, cap, cur, e', hg, hh, _⟩
  · omega
  · injection e' with e1 e2 e3
    refine ⟨g, e1, hg, ?_⟩
    rcases Nat.lt_or_ge g w.heap.size with k | k
    · exact k
    · rw [Array.getElem?_eq_none k] at hh
      cases hh
/-- a part of a slice that reads as f, from its front or from a place on -/
theorem rd_front {w : World} {A : Option Addr} {n : Nat} {f : Nat → Nat} (h : Rd w A n f) (m : Nat) (hm : m ≤ n) : Rd w A m f := by
  rcases h with h | ⟨b, off, hA, hlt, hcell⟩
  · exact .inl (by omega)
  · exact .inr ⟨b, off, hA, hlt, fun i hi => hcell i (by omega)⟩
theorem rd_src {w : World} {b off n : Nat} {f : Nat → Nat} (h : ∀ i, i < n → w.cell? ⟨b, off + i, none⟩ = some (.int .u8 (f i : Nat))) : ∀ (j : Nat) (v : Value), (byteCells f n)[j]? = some v → w.cell? ((⟨b, off, none⟩ : Addr).add j) = some v := by
  intro j v hj
  have hj' : j < n := by
    rcases Nat.lt_or_ge j n with k | k
    · exact k
    · rw [List.getElem?_eq_none (by rw [byteCells_length]; exact k)] at hj
      cases hj
  rw [byteCells_get f n j hj'] at hj
  have h2 := h j hj'
  rw [hj] at h2
  by_cases h0 : j = 0
  · subst h0
    simpa [Addr.add] using h2
  · simpa [Addr.add, h0] using h2
end

end Mem
end Go.Proofs.YtcoppcididemkaaDoor
