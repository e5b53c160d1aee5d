/- 'append(out, more...)' onto a row of the call's own, as a single operation; where the new row lies is told. Nothing of the program. -/
import Derived.Test.YtcoppcididemkaaDoorCat
import Derived.Maps.AppendAt
namespace Go.Proofs.YtcoppcididemkaaDoor
namespace Mem
open Go.RowKit

section
variable {P : Program}

theorem wp_cat {o : Oper} {a : Act} {K : Act → World → Prop} {Q : Exit → Act → World → Prop} {W w : World} {B k c : Nat} {A : Option Addr} {xs : List Value} (s x : Operand) (t e : TypeId) (z : Value) (by_ : Nat)
    (ht : P.underlying t = some (.slice e)) (hinfo : (P.info? e).map (fun i => (i.zero, i.size, i.bytes)) = some (some z, 1, by_)) (hz : z.cells.size = 1)
    (ho : o.op = .call { callee := .builtin .append, args := #[s, x], argTypes := #[t, t] })
    (hs : a.eval s = .slice A k c) (own : w.ownsRow B e 1 (.slice A k c) k xs) (bel : Below B W w) (hB : B ≤ w.heap.size)
    (ad : Addr) (m cx : Nat) (hx : a.eval x = .slice (some ad) m cx) (ys : List Value) (hl : ys.length = m) (hy : ∀ j u, ys[j]? = some u → w.cell? (ad.add j) = some u) (h1 : ∀ u ∈ ys, u.oneCell' = true) (hk : (k + m) * by_ ≤ 140737488355328) (hk2 : k + m ≤ 140737488355328)
    (h : ∀ A' c' w', w'.ownsRow B e 1 (.slice A' (k + m) c') (k + m) (xs ++ ys) → Below B W w' → B ≤ w'.heap.size → w.grownBy w' (Value.slice A k c).ownBlock → ((Value.slice A' (k + m) c').ownBlock = (Value.slice A k c).ownBlock ∨ (Value.slice A' (k + m) c').ownBlock = some w.heap.size) → K (a.put o.dst (.slice A' (k + m) c')) w') :
    o.wp P a w K Q := by
  obtain ⟨i0, hi, hz0, hz1, hz2⟩ := info_parts hinfo
  obtain ⟨v', w', hr, h1, h2, h3, h4⟩ := run_append_own_at (P := P) w B t o.type e i0 z 1 by_ ht hi hz0 hz1 hz2 hz (by decide) (.slice A k c) k xs own ad m cx ys (by rw [hl, Nat.mul_one]) hy h1 (by simp only [maxLen]; omega) hk hB
  unfold Oper.wp execOp
  simp only [ho, resolve, invoke, builtin, Sem.run_bind, Sem.run_pure, Result.andThen_ok, List.map_toArray, List.map_cons, List.map_nil, hs, hx, hr]
  have hs' := Nat.le_trans hB h2.size
  rcases h1.2 with ⟨rfl, h0⟩ | ⟨b, cap, cur, rfl, r⟩
  · rw [h0] at h1 h
    exact h none 0 w' h1 (keeps_row own bel h2 hB) hs' h2 (by simpa [Value.ownBlock] using h4)
  · exact h (some ⟨b, 0, none⟩) cap w' h1 (keeps_row own bel h2 hB) hs' h2 (by simpa [Value.ownBlock] using h4)
end

end Mem
end Go.Proofs.YtcoppcididemkaaDoor
