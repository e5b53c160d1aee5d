/- Appending a piece of a row of routes. -/
import Derived.Test.YtcpfchfhcfdcpaaTlDropAll
import Derived.Maps.AppendAt
namespace Go.Proofs.Ytcpfchfhcfdcpaa
namespace Tri
open Go.ChangeShapes Go.WideShapes Go.ChangeAt Go.RowKit Go.Maps
open Num Mem Words Chacha Aead Poly Quiet Ops Adr RowS

theorem own_lt' {w : World} {B : Nat} {e size n : Nat} {v : Value} {xs : List Value} (h : w.ownsRow B e size v n xs) : ∀ g, v.ownBlock = some g → B ≤ g ∧ g < w.heap.size := by
  intro g hg
  rcases h.2 with ⟨rfl, _⟩ | ⟨b, cap, cur, rfl, hB, hh, _⟩
  · cases hg
  · injection hg with hg
    subst hg
    have hw : Whole w b e cur := hh
    exact ⟨hB, hw.lt⟩
theorem addr_add (b i j : Nat) : (⟨b, i, none⟩ : Addr).add j = ⟨b, i + j, none⟩ := by unfold Addr.add; split <;> simp_all
theorem flatR_append (L M : List Rt) : flatR (L ++ M) = flatR L ++ flatR M := by unfold flatR; rw [List.map_append, List.flatten_append]
theorem flatR_each (L : List Rt) : ∀ u ∈ flatR L, u.oneCell' = true := by
  intro u hu
  unfold flatR at hu
  obtain ⟨l, hl, hu⟩ := List.mem_flatten.1 hu
  obtain ⟨x, _, rfl⟩ := List.mem_map.1 hl
  exact x.each u hu
theorem flatR_get {L : List Rt} {j : Nat} {u : Value} (h : (flatR L)[j]? = some u) : ∃ x, L[j / 19]? = some x ∧ x.cells[j % 19]? = some u := by
  have hl := (List.getElem?_eq_some_iff.1 h).1
  rw [flatR_length] at hl
  have hk : j / 19 < L.length := by omega
  have hx := List.getElem?_eq_getElem hk
  generalize L[j / 19] = x at hx
  have hv : x.cells[j % 19]? = some (x.cells[j % 19]'(by rw [x.len]; omega)) := List.getElem?_eq_getElem _
  refine ⟨x, hx, ?_⟩
  have := flatR_at L (j / 19) x hx (j % 19) _ hv
  rw [show j / 19 * 19 + j % 19 = j by omega, h] at this
  rw [hv]
  exact this.symm
/-- a piece of a row that can be read -/
def RdP (w : World) (b off : Nat) (M : List Rt) : Prop := b < w.heap.size ∧ ∀ j u, (flatR M)[j]? = some u → w.cell? ⟨b, off + j, none⟩ = some u
theorem rdp_of {w : World} {b : Nat} {L : List Rt} (i n : Nat) (h : RdQ w (some ⟨b, 0, none⟩) L) (hb : b < w.heap.size) : RdP w b (i * 19) ((L.drop i).take n) := by
  refine ⟨hb, fun j u hu => ?_⟩
  obtain ⟨x, hx, hu⟩ := flatR_get hu
  have hx2 : L[i + j / 19]? = some x := by
    rw [List.getElem?_take] at hx
    split at hx
    · rwa [List.getElem?_drop] at hx
    · cases hx
  obtain ⟨g, e, _, hr⟩ := h.out _ x hx2
  cases e
  have := hr (j % 19) u hu
  rw [show (i + j / 19) * 19 + j % 19 = i * 19 + j by omega] at this
  exact this
theorem wpList_catR {ops : Array Oper} {rest : List Oper} {o : Oper} {a : Act} {Q : Exit → Act → World → Prop} {w : World} {B b off : Nat} {G M : List Rt} {Ag : Option Addr} {n m cg c1 : Nat} (hgd : o.guard = none) (s x : Operand)
    (ho : o.op = .call { callee := .builtin .append, args := #[s, x], argTypes := #[24, 24] }) (hs : a.eval s = .slice Ag n cg) (hx : a.eval x = .slice (some ⟨b, off, none⟩) m c1)
    (hn : G.length = n) (hm : M.length = m) (own : w.ownsRow B 41 19 (.slice Ag G.length cg) G.length (flatR G)) (hr : RdP w b off M) (hB : B ≤ w.heap.size) (hlen : n + m ≤ 1000000)
    (h : ∀ A' c' w', w'.ownsRow B 41 19 (.slice A' (G ++ M).length c') (G ++ M).length (flatR (G ++ M)) → Below B w w' → wpList Try.prog ops Q rest (a.put o.dst (.slice A' (n + m) c')) w') :
    wpList Try.prog ops Q (o :: rest) a w := by
  subst hn hm
  obtain ⟨i0, hi0, hz0, hz1, hz2⟩ := info_parts info_refr
  rw [← List.length_append] at h
  obtain ⟨hl, hc⟩ := hr
  refine wpList_append_own_at _ hgd s x 24 ho B 41 i0 (.agg (routeL false nought 0 0).toArray) 19 40 Try.underlying24 hi0 hz0 hz1 hz2 (by show (routeL false nought 0 0).toArray.size = 19; rw [List.size_toArray, routeL_length]) (by decide) (.slice Ag G.length cg) G.length (flatR G) hs own ⟨b, off, none⟩ M.length c1 (flatR M) hx (flatR_length M) (fun j u hj => by rw [addr_add]; exact hc j u hj) (flatR_each M) (by unfold maxLen; omega) (by omega) hB ?_
  intro v' w' q1 q2 q3 q4
  rw [← flatR_append, ← List.length_append] at q1
  have hb : Below B w w' := ⟨q2.os, q2.tape, q2.output, q2.size, fun i hi => q2.block i (by omega) (fun e => by
    have := (own_lt' own i e.symm).1
    omega)⟩
  obtain ⟨A', c', rfl⟩ : ∃ A' c', v' = .slice A' (G ++ M).length c' := by
    rcases q1.2 with ⟨e, e0⟩ | ⟨g, cap, cur, e, _⟩
    · exact ⟨none, 0, by rw [e, e0]⟩
    · exact ⟨_, _, e⟩
  exact h A' c' w' q1 hb
end Tri
end Go.Proofs.Ytcpfchfhcfdcpaa
