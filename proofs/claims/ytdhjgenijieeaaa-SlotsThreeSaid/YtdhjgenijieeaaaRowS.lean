/- Rows of one's own of elements of several cells. Nothing of the program. -/
import Derived.Test.YtdhjgenijieeaaaRowV
import Derived.Maps.AppendAt
namespace Go.Proofs.Ytdhjgenijieeaaa
namespace RowS
open Go.RowKit Mem Words Chacha Aead Poly Quiet RowV

theorem own_cells {w : World} {B e size n c : Nat} {A : Option Addr} {xs : List Value} (h : w.ownsRow B e size (.slice A n c) n xs) (hn : 0 < n) :
    ∃ g, A = some ⟨g, 0, none⟩ ∧ B ≤ g ∧ g < w.heap.size ∧ ∀ i v, xs[i]? = some v → w.cell? ⟨g, i, none⟩ = some v ∧ w.frozen? ⟨g, i, none⟩ = false := by
  rcases h.2 with ⟨_, h0⟩ | ⟨g, cap, cur, e1, hB, hh, _, _, _, ht⟩
  · omega
  · injection e1 with e1 e2 e3
    have hw : Whole w g e cur := hh
    refine ⟨g, e1, hB, hw.lt, fun i v hv => ⟨?_, hw.free i⟩⟩
    rw [hw.cell, ← Array.getElem?_toList]
    rw [← ht, List.getElem?_take] at hv
    split at hv
    · exact hv
    · cases hv
theorem own_put {w : World} {B e size n c g : Nat} {xs : List Value} (h : w.ownsRow B e size (.slice (some ⟨g, 0, none⟩) n c) n xs) (i : Nat) (u : Value) : (w.setCell ⟨g, i, none⟩ u).ownsRow B e size (.slice (some ⟨g, 0, none⟩) n c) n (xs.set i u) := by
  refine ⟨by rw [List.length_set]; exact h.1, ?_⟩
  rcases h.2 with ⟨e1, _⟩ | ⟨g', cap, cur, e1, hB, hh, h1, h2, h3, ht⟩
  · cases e1
  · injection e1 with e1 e2 e3
    injection e1 with e1
    injection e1 with e1
    subst e1
    have hw : Whole w g e cur := hh
    refine Or.inr ⟨g, cap, cur.setIfInBounds i u, by rw [e3], hB, hw.put i u, h1, h2, by rw [Array.size_setIfInBounds]; exact h3, ?_⟩
    rw [← ht, Array.toList_setIfInBounds, List.take_set]
theorem own_keep {w w' : World} {B : Nat} {e size : Nat} {v : Value} {n : Nat} {xs : List Value} (h : w.ownsRow B e size v n xs) (hb : Below w.heap.size w w') : w'.ownsRow B e size v n xs := by
  refine ⟨h.1, ?_⟩
  rcases h.2 with h0 | ⟨c, cap, cur, hv, hB, hh, rest⟩
  · exact Or.inl h0
  · refine Or.inr ⟨c, cap, cur, hv, hB, ?_, rest⟩
    have hw : Whole w c e cur := hh
    rw [hb.block c hw.lt]
    exact hh
theorem own_more' {w : World} {B B' e size n : Nat} {v : Value} {xs : List Value} (h : w.ownsRow B e size v n xs) (hB : B' ≤ B) : w.ownsRow B' e size v n xs := by
  refine ⟨h.1, ?_⟩
  rcases h.2 with h0 | ⟨c, cap, cur, hv, hb, rest⟩
  · exact Or.inl h0
  · exact Or.inr ⟨c, cap, cur, hv, Nat.le_trans hB hb, rest⟩
theorem fold_set : ∀ (Q : List Value) (zs : List Value) (k : Nat) (pre : List Value), pre.length = k → Q.length = zs.length → List.foldl (fun (cs : Array Value) (x : Value × Nat) => cs.setIfInBounds x.2 x.1) (pre ++ zs).toArray (Q.zipIdx k) = (pre ++ Q).toArray
  | [], zs, k, pre, _, h => by
    have : zs = [] := List.eq_nil_of_length_eq_zero h.symm
    rw [this]
    rfl
  | q :: Q, [], k, pre, _, h => by simp at h
  | q :: Q, z :: zs, k, pre, hp, h => by
    rw [List.zipIdx_cons, List.foldl_cons]
    dsimp only
    have e : (pre ++ z :: zs).toArray.setIfInBounds k q = ((pre ++ [q]) ++ zs).toArray := by
      rw [List.setIfInBounds_toArray]
      congr 1
      rw [List.set_append_right _ _ (by omega), hp, Nat.sub_self, List.set_cons_zero, List.append_assoc]
      rfl
    rw [e, fold_set Q zs (k + 1) (pre ++ [q]) (by rw [List.length_append, hp]; rfl) (by simpa using h), List.append_assoc]
    rfl
theorem fold_whole (Q : List Value) (zs : Array Value) (h : Q.length = zs.size) : List.foldl (fun (cs : Array Value) (x : Value × Nat) => cs.setIfInBounds x.2 x.1) zs Q.zipIdx = Q.toArray := by
  have := fold_set Q zs.toList 0 [] rfl (by simpa using h)
  simpa using this
theorem news_new (w : World) (us : List Value) (t : TypeId) : ∀ j x, us[j]? = some x → (w.alloc (.cells us.toArray t)).cell? ((⟨w.heap.size, 0, none⟩ : Addr).add j) = some x := by
  intro j x hj
  have h := (Whole.new w t us.toArray).cell j
  have e : (⟨w.heap.size, 0, none⟩ : Addr).add j = ⟨w.heap.size, j, none⟩ := by unfold Addr.add; split <;> simp_all
  rw [e, h, List.getElem?_toArray]
  exact hj
theorem wpList_pushS {P : Program} {ops : Array Oper} {rest : List Oper} {o : Oper} {a : Act} {Q : Exit → Act → World → Prop} {w : World} {B k c : Nat} {A : Option Addr} {xs : List Value} (us : List Value) (size : Nat) (hgd : o.guard = none) (s x : Operand) (t e : TypeId) (z : Value) (by_ : Nat)
    (ht : P.underlying t = some (.slice e)) (hinfo : (P.info? e).map (fun i => (i.zero, i.size, i.bytes)) = some (some z, size, by_)) (hz : z.cells.size = size) (h0 : 0 < size)
    (ho : o.op = .call { callee := .builtin .append, args := #[s, x], argTypes := #[t, t] })
    (hs : a.eval s = .slice A k c) (hx : a.eval x = .slice (some ⟨w.heap.size, 0, none⟩) 1 1) (own : w.ownsRow B e size (.slice A k c) k xs) (hB : B ≤ w.heap.size)
    (hl : us.length = size) (h1 : ∀ u ∈ us, u.oneCell' = true) (hk : (k + 1) * by_ ≤ 140737488355328) (hk2 : k + 1 ≤ 140737488355328)
    (h : ∀ A' c' w', w'.ownsRow B e size (.slice A' (k + 1) c') (k + 1) (xs ++ us) → Below B w w' → wpList P ops Q rest (a.put o.dst (.slice A' (k + 1) c')) w') :
    wpList P ops Q (o :: rest) a (w.alloc (.cells us.toArray e)) := by
  obtain ⟨i0, hi, hz0, hz1, hz2⟩ := info_parts hinfo
  refine wpList_append_own _ hgd s x t ho B e i0 z size by_ ht hi hz0 hz1 hz2 hz h0 (.slice A k c) k xs hs (World.ownsRow.alloc own _) ⟨w.heap.size, 0, none⟩ 1 1 us hx (by rw [Nat.one_mul]; exact hl) (news_new _ _ _)
    h1 (by simp only [maxLen]; omega) hk (by simp; omega) ?_
  intro v' w' g1 g2 _
  have hbel := keeps_row (World.ownsRow.alloc own (.cells us.toArray e)) ((Below.refl B w).alloc hB _) g2 (Nat.le_trans hB (by simp))
  rcases g1.2 with ⟨_, h0⟩ | ⟨g, cap, cur, rfl, r⟩
  · omega
  · exact h _ _ w' g1 hbel

theorem wp_pushS {P : Program} {o : Oper} {a : Act} {K : Act → World → Prop} {Q : Exit → Act → World → Prop} {w : World} {B k c : Nat} {A : Option Addr} {xs : List Value} (us : List Value) (size : Nat) (s x : Operand) (t e : TypeId) (z : Value) (by_ : Nat)
    (ht : P.underlying t = some (.slice e)) (hinfo : (P.info? e).map (fun i => (i.zero, i.size, i.bytes)) = some (some z, size, by_)) (hz : z.cells.size = size) (h0 : 0 < size)
    (ho : o.op = .call { callee := .builtin .append, args := #[s, x], argTypes := #[t, t] })
    (hs : a.eval s = .slice A k c) (hx : a.eval x = .slice (some ⟨w.heap.size, 0, none⟩) 1 1) (own : w.ownsRow B e size (.slice A k c) k xs) (hB : B ≤ w.heap.size)
    (hl : us.length = size) (h1 : ∀ u ∈ us, u.oneCell' = true) (hk : (k + 1) * by_ ≤ 140737488355328) (hk2 : k + 1 ≤ 140737488355328)
    (h : ∀ A' c' w', w'.ownsRow B e size (.slice A' (k + 1) c') (k + 1) (xs ++ us) → Below B w w' → K (a.put o.dst (.slice A' (k + 1) c')) w') :
    Oper.wp P o a (w.alloc (.cells us.toArray e)) K Q := by
  obtain ⟨i0, hi, hz0, hz1, hz2⟩ := info_parts hinfo
  refine wp_append_own _ s x t ho B e i0 z size by_ ht hi hz0 hz1 hz2 hz h0 (.slice A k c) k xs hs (World.ownsRow.alloc own _) ⟨w.heap.size, 0, none⟩ 1 1 us hx (by rw [Nat.one_mul]; exact hl) (news_new _ _ _)
    h1 (by simp only [maxLen]; omega) hk (by simp; omega) ?_
  intro v' w' g1 g2 _
  have hbel := keeps_row (World.ownsRow.alloc own (.cells us.toArray e)) ((Below.refl B w).alloc hB _) g2 (Nat.le_trans hB (by simp))
  rcases g1.2 with ⟨_, h0⟩ | ⟨g, cap, cur, rfl, r⟩
  · omega
  · exact h _ _ w' g1 hbel
/-- the same, and what is written is that row alone -/
theorem wpList_pushG2 {P : Program} {ops : Array Oper} {rest : List Oper} {o : Oper} {a : Act} {Q : Exit → Act → World → Prop} {w : World} {B k c : Nat} {A : Option Addr} {xs : List Value} (us : List Value) (size : Nat) (hgd : o.guard = none) (s x : Operand) (t e : TypeId) (z : Value) (by_ : Nat)
    (ht : P.underlying t = some (.slice e)) (hinfo : (P.info? e).map (fun i => (i.zero, i.size, i.bytes)) = some (some z, size, by_)) (hz : z.cells.size = size) (h0 : 0 < size)
    (ho : o.op = .call { callee := .builtin .append, args := #[s, x], argTypes := #[t, t] })
    (hs : a.eval s = .slice A k c) (hx : a.eval x = .slice (some ⟨w.heap.size, 0, none⟩) 1 1) (own : w.ownsRow B e size (.slice A k c) k xs) (hB : B ≤ w.heap.size)
    (hl : us.length = size) (h1 : ∀ u ∈ us, u.oneCell' = true) (hk : (k + 1) * by_ ≤ 140737488355328) (hk2 : k + 1 ≤ 140737488355328)
    (h : ∀ A' c' w', w'.ownsRow B e size (.slice A' (k + 1) c') (k + 1) (xs ++ us) → Below B w w' → w.grownBy w' (Value.slice A k c).ownBlock → (∀ i, i < w.heap.size → (Value.slice A k c).ownBlock ≠ some i → (Value.slice A' (k + 1) c').ownBlock ≠ some i) → wpList P ops Q rest (a.put o.dst (.slice A' (k + 1) c')) w') :
    wpList P ops Q (o :: rest) a (w.alloc (.cells us.toArray e)) := by
  obtain ⟨i0, hi, hz0, hz1, hz2⟩ := info_parts hinfo
  refine wpList_append_own_at _ hgd s x t ho B e i0 z size by_ ht hi hz0 hz1 hz2 hz h0 (.slice A k c) k xs hs (World.ownsRow.alloc own _) ⟨w.heap.size, 0, none⟩ 1 1 us hx (by rw [Nat.one_mul]; exact hl) (news_new _ _ _)
    h1 (by simp only [maxLen]; omega) hk (by simp; omega) ?_
  intro v' w' g1 g2 _ g4
  have hbel := keeps_row (World.ownsRow.alloc own (.cells us.toArray e)) ((Below.refl B w).alloc hB _) g2 (Nat.le_trans hB (by simp))
  rcases g1.2 with ⟨_, h0⟩ | ⟨g, cap, cur, rfl, r⟩
  · omega
  · refine h _ _ w' g1 hbel ((World.grownBy_alloc w _ _).trans g2) fun i hi h1 h2 => ?_
    rcases g4 with g4 | g4
    · rw [g4] at h2
      exact h1 h2
    · rw [g4] at h2
      injection h2 with h2
      simp at h2
      omega

end RowS
end Go.Proofs.Ytdhjgenijieeaaa
