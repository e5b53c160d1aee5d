/- The document's limiter in memory: a row of buckets (a place, a level, a time). -/
import Derived.Test.YtlccgplgbokgkaaLimLevel
import Derived.Test.YtlccgplgbokgkaaLimAlive
namespace Go.Proofs.Ytlccgplgbokgkaa
namespace Lim
open Go.ChangeShapes Go.WideShapes Go.ChangeAt Go.RowKit Go.Maps
open Num Mem Words Chacha Aead Poly Adr Ops Quiet Stamp RowV

/-! ### a row of one's own, of elements of any size -/
theorem own_cells {w : World} {B e size n c : Nat} {A : Option Addr} {xs : List Value} (h : w.ownsRow B e size (.slice A n c) n xs) (hn : 0 < n) :
    ∃ g, A = some ⟨g, 0, none⟩ ∧ B ≤ g ∧ g < w.heap.size ∧ ∀ i v, xs[i]? = some v → w.cell? ⟨g, i, none⟩ = some v ∧ w.frozen? ⟨g, i, none⟩ = false := by
  rcases h.2 with ⟨_, h0⟩ | ⟨g, cap, cur, e1, hB, hh, _, _, _, ht⟩
  · omega
  · injection e1 with e1 e2 e3
    have hw : Whole w g e cur := hh
    refine ⟨g, e1, hB, hw.lt, fun i v hv => ⟨?_, hw.free i⟩⟩
    rw [hw.cell, ← Array.getElem?_toList]
    rw [← ht, List.getElem?_take] at hv
    split at hv
    · exact hv
    · cases hv
theorem own_put {w : World} {B e size n c g : Nat} {xs : List Value} (h : w.ownsRow B e size (.slice (some ⟨g, 0, none⟩) n c) n xs) (i : Nat) (u : Value) : (w.setCell ⟨g, i, none⟩ u).ownsRow B e size (.slice (some ⟨g, 0, none⟩) n c) n (xs.set i u) := by
  refine ⟨by rw [List.length_set]; exact h.1, ?_⟩
  rcases h.2 with ⟨e1, _⟩ | ⟨g', cap, cur, e1, hB, hh, h1, h2, h3, ht⟩
  · cases e1
  · injection e1 with e1 e2 e3
    injection e1 with e1
    injection e1 with e1
    subst e1
    have hw : Whole w g e cur := hh
    refine Or.inr ⟨g, cap, cur.setIfInBounds i u, by rw [e3], hB, hw.put i u, h1, h2, by rw [Array.size_setIfInBounds]; exact h3, ?_⟩
    rw [← ht, Array.toList_setIfInBounds, List.take_set]
theorem own_two' {w w' : World} {g b B : Nat} {e size : Nat} {v : Value} {n : Nat} {xs : List Value} (h : w.ownsRow B e size v n xs) (ht : Two g b w w') (hg : g < B) (hb : b < B) : w'.ownsRow B e size v n xs := by
  refine ⟨h.1, ?_⟩
  rcases h.2 with h0 | ⟨c, cap, cur, hv, hB, hh, rest⟩
  · exact Or.inl h0
  · refine Or.inr ⟨c, cap, cur, hv, hB, ?_, rest⟩
    have hw : Whole w c e cur := hh
    rw [ht.block c hw.lt (by omega) (by omega)]
    exact hh
theorem own_keep {w w' : World} {B : Nat} {e size : Nat} {v : Value} {n : Nat} {xs : List Value} (h : w.ownsRow B e size v n xs) (hb : Below w.heap.size w w') : w'.ownsRow B e size v n xs := by
  refine ⟨h.1, ?_⟩
  rcases h.2 with h0 | ⟨c, cap, cur, hv, hB, hh, rest⟩
  · exact Or.inl h0
  · refine Or.inr ⟨c, cap, cur, hv, hB, ?_, rest⟩
    have hw : Whole w c e cur := hh
    rw [hb.block c hw.lt]
    exact hh
theorem own_set' {w : World} {B : Nat} {e size : Nat} {v : Value} {n : Nat} {xs : List Value} (h : w.ownsRow B e size v n xs) {p : Addr} (hp : p.block < B) (u : Value) : (w.setCell p u).ownsRow B e size v n xs := by
  refine ⟨h.1, ?_⟩
  rcases h.2 with k | ⟨b, cap, cur, e, hg, hh, r⟩
  · exact .inl k
  · exact .inr ⟨b, cap, cur, e, hg, (Below.heap_setCell w p u b (by omega)).trans hh, r⟩

/-! ### buckets -/
/-- a place, a level, a time -/
abbrev Ent := Bool × (Nat → Nat) × Int × Int
def cellsE (e : Ent) : List Value := addrL e.1 e.2.1 ++ [.int .i64 e.2.2.1, .int .i64 e.2.2.2]
theorem cellsE_length (e : Ent) : (cellsE e).length = 19 := by simp [cellsE, addrL_length]
theorem cellsE_each (e : Ent) : ∀ v ∈ cellsE e, v.oneCell' = true := by
  intro v hv
  rcases List.mem_append.1 hv with h | h
  · exact addr_each _ _ v h
  · simp only [List.mem_cons, List.not_mem_nil, or_false] at h
    rcases h with rfl | rfl <;> rfl
theorem cellsE_one (e : Ent) : (cellsE e).toArray.all (·.oneCell') = true := by
  rw [List.all_toArray, List.all_eq_true]
  exact cellsE_each e
theorem cellsE_addr (e : Ent) {j : Nat} {v : Value} (h : (addrL e.1 e.2.1)[j]? = some v) : (cellsE e)[j]? = some v := by
  unfold cellsE
  rw [List.getElem?_append_left (List.getElem?_eq_some_iff.1 h).1]
  exact h
theorem cellsE_lev (e : Ent) : (cellsE e)[17]? = some (.int .i64 e.2.2.1) := by
  unfold cellsE
  rw [List.getElem?_append_right (by rw [addrL_length]; omega), addrL_length]
  rfl
theorem cellsE_at (e : Ent) : (cellsE e)[18]? = some (.int .i64 e.2.2.2) := by
  unfold cellsE
  rw [List.getElem?_append_right (by rw [addrL_length]; omega), addrL_length]
  rfl
theorem cellsE_set17 (e : Ent) (x : Int) : (cellsE e).set 17 (.int .i64 x) = cellsE (e.1, e.2.1, x, e.2.2.2) := by
  unfold cellsE
  rw [List.set_append_right _ _ (by rw [addrL_length]; omega), addrL_length]
  rfl
theorem cellsE_set18 (e : Ent) (x : Int) : (cellsE e).set 18 (.int .i64 x) = cellsE (e.1, e.2.1, e.2.2.1, x) := by
  unfold cellsE
  rw [List.set_append_right _ _ (by rw [addrL_length]; omega), addrL_length]
  rfl
def flat : List Ent → List Value
  | [] => []
  | e :: E => cellsE e ++ flat E
theorem flat_length : ∀ E : List Ent, (flat E).length = E.length * 19
  | [] => rfl
  | e :: E => by show (cellsE e ++ flat E).length = _; rw [List.length_append, cellsE_length, flat_length E, List.length_cons]; omega
theorem flat_snoc : ∀ (E : List Ent) (e : Ent), flat (E ++ [e]) = flat E ++ cellsE e
  | [], e => by show cellsE e ++ [] = [] ++ cellsE e; simp
  | d :: E, e => by show cellsE d ++ flat (E ++ [e]) = (cellsE d ++ flat E) ++ cellsE e; rw [flat_snoc E e, List.append_assoc]
theorem flat_get : ∀ (E : List Ent) (i j : Nat) (e : Ent), E[i]? = some e → j < 19 → (flat E)[i * 19 + j]? = (cellsE e)[j]?
  | [], i, j, e, h, _ => by simp at h
  | d :: E, 0, j, e, h, hj => by
    simp only [List.getElem?_cons_zero, Option.some.injEq] at h
    subst h
    show (cellsE d ++ flat E)[0 * 19 + j]? = _
    rw [Nat.zero_mul, Nat.zero_add, List.getElem?_append_left (by rw [cellsE_length]; exact hj)]
  | d :: E, i + 1, j, e, h, hj => by
    rw [List.getElem?_cons_succ] at h
    show (cellsE d ++ flat E)[(i + 1) * 19 + j]? = _
    rw [List.getElem?_append_right (by rw [cellsE_length]; omega), cellsE_length, show (i + 1) * 19 + j - 19 = i * 19 + j by omega]
    exact flat_get E i j e h hj
theorem flat_set : ∀ (E : List Ent) (i j : Nat) (e e' : Ent) (u : Value), E[i]? = some e → j < 19 → (cellsE e).set j u = cellsE e' → (flat E).set (i * 19 + j) u = flat (E.set i e')
  | [], i, j, e, e', u, h, _, _ => by simp at h
  | d :: E, 0, j, e, e', u, h, hj, hs => by
    simp only [List.getElem?_cons_zero, Option.some.injEq] at h
    subst h
    show (cellsE d ++ flat E).set (0 * 19 + j) u = cellsE e' ++ flat E
    rw [Nat.zero_mul, Nat.zero_add, List.set_append_left _ _ (by rw [cellsE_length]; exact hj), hs]
  | d :: E, i + 1, j, e, e', u, h, hj, hs => by
    rw [List.getElem?_cons_succ] at h
    show (cellsE d ++ flat E).set ((i + 1) * 19 + j) u = cellsE d ++ flat (E.set i e')
    rw [List.set_append_right _ _ (by rw [cellsE_length]; omega), cellsE_length, show (i + 1) * 19 + j - 19 = i * 19 + j by omega, flat_set E i j e e' u h hj hs]

/-- a bucket as the mathematics has it -/
def toBk (P : Program) (T : TypeId) (e : Ent) : Bk := (klit P T e.1 e.2.1 (bitsOf e.1), e.2.2.1, e.2.2.2)
def bksE (P : Program) (T : TypeId) (E : List Ent) : List Bk := E.map (toBk P T)
def okE (E : List Ent) : Prop := ∀ e ∈ E, ∀ i, e.2.1 i < 256
/-- an entry of that place -/
def sameE (s : Bool) (f : Nat → Nat) (e : Ent) : Prop := e.1 = s ∧ ∀ i, i < 16 → e.2.1 i = f i
theorem same_key {s : Bool} {f : Nat → Nat} (hf : ∀ i, f i < 256) {e : Ent} (he : ∀ i, e.2.1 i < 256) : (toBk Try.prog 57 e).1 = klit Try.prog 57 s f (bitsOf s) ↔ sameE s f e := by
  unfold toBk sameE
  constructor
  · intro h
    have := klit_inj he hf (bits_lo _) (bits_hi _) (bits_lo _) (bits_hi _) h
    exact ⟨this.1, this.2.1⟩
  · rintro ⟨h1, h2⟩
    dsimp only
    rw [h1]
    exact klit_congr h2
theorem lk_at {s : Bool} {f : Nat → Nat} (hf : ∀ i, f i < 256) : ∀ {E : List Ent}, okE E → ∀ {i : Nat} {e : Ent}, E[i]? = some e → sameE s f e → (∀ j d, j < i → E[j]? = some d → ¬ sameE s f d) → lk (bksE Try.prog 57 E) (klit Try.prog 57 s f (bitsOf s)) = some (e.2.2.1, e.2.2.2)
  | [], _, _, _, h, _, _ => by simp at h
  | d :: E, hE, 0, e, h, hs, _ => by
    simp only [List.getElem?_cons_zero, Option.some.injEq] at h
    subst h
    show lk (toBk _ _ d :: _) _ = _
    rw [lk_cons, if_pos ((same_key hf (hE d List.mem_cons_self)).2 hs)]
    rfl
  | d :: E, hE, i + 1, e, h, hs, hn => by
    rw [List.getElem?_cons_succ] at h
    show lk (toBk _ _ d :: _) _ = _
    rw [lk_cons, if_neg (fun k => hn 0 d (by omega) rfl ((same_key hf (hE d List.mem_cons_self)).1 k))]
    exact lk_at hf (fun x hx => hE x (List.mem_cons_of_mem _ hx)) h hs (fun j x hj hx => hn (j + 1) x (by omega) (by rw [List.getElem?_cons_succ]; exact hx))
theorem lk_not {s : Bool} {f : Nat → Nat} (hf : ∀ i, f i < 256) : ∀ {E : List Ent}, okE E → (∀ e ∈ E, ¬ sameE s f e) → lk (bksE Try.prog 57 E) (klit Try.prog 57 s f (bitsOf s)) = none
  | [], _, _ => rfl
  | d :: E, hE, hn => by
    show lk (toBk _ _ d :: _) _ = _
    rw [lk_cons, if_neg (fun k => hn d List.mem_cons_self ((same_key hf (hE d List.mem_cons_self)).1 k))]
    exact lk_not hf (fun x hx => hE x (List.mem_cons_of_mem _ hx)) (fun x hx => hn x (List.mem_cons_of_mem _ hx))
theorem put_at {s : Bool} {f : Nat → Nat} (hf : ∀ i, f i < 256) {E : List Ent} (hE : okE E) (hnd : (keysL (bksE Try.prog 57 E)).Nodup) {i : Nat} {e : Ent} (h : E[i]? = some e) (hs : sameE s f e) (x t : Int) :
    putL (bksE Try.prog 57 E) (klit Try.prog 57 s f (bitsOf s)) (x, t) = bksE Try.prog 57 (E.set i (e.1, e.2.1, x, t)) := by
  have hil := (List.getElem?_eq_some_iff.1 h).1
  have hk := (same_key hf (hE e (List.mem_of_getElem? h))).2 hs
  have hin : (lk (bksE Try.prog 57 E) (klit Try.prog 57 s f (bitsOf s))).isSome = true := by
    rw [lk_isSome]
    exact List.mem_map.2 ⟨_, List.mem_map.2 ⟨e, List.mem_of_getElem? h, rfl⟩, hk⟩
  unfold putL
  rw [if_pos hin]
  apply List.ext_getElem?
  intro j
  unfold bksE
  rw [List.getElem?_map, List.getElem?_map, List.getElem?_map]
  by_cases hj : j = i
  · subst hj
    rw [h, List.getElem?_set_self hil]
    show some (if (toBk _ _ e).1 == _ then _ else _) = some (toBk _ _ (e.1, e.2.1, x, t))
    rw [hk]
    simp only [beq_self_eq_true, if_true]
    rw [← hk]
    rfl
  · rw [List.getElem?_set_ne (fun h => hj h.symm)]
    cases hd : E[j]? with
    | none => rfl
    | some d =>
      show some (if (toBk _ _ d).1 == _ then _ else _) = some (toBk _ _ d)
      rw [if_neg]
      intro hb
      have hb := eq_of_beq hb
      have hjl := (List.getElem?_eq_some_iff.1 hd).1
      have e1 : (keysL (bksE Try.prog 57 E))[j]? = (keysL (bksE Try.prog 57 E))[i]? := by
        unfold keysL bksE
        rw [List.getElem?_map, List.getElem?_map, List.getElem?_map, List.getElem?_map, h, hd]
        show some (toBk _ _ d).1 = some (toBk _ _ e).1
        rw [hb, hk]
      have hlen : (keysL (bksE Try.prog 57 E)).length = E.length := by simp [keysL, bksE]
      rw [List.getElem?_eq_getElem (by rw [hlen]; exact hjl), List.getElem?_eq_getElem (by rw [hlen]; exact hil)] at e1
      have e1 := Option.some.inj e1
      rcases Nat.lt_or_gt_of_ne hj with c | c
      · exact List.pairwise_iff_getElem.1 hnd j i (by rw [hlen]; exact hjl) (by rw [hlen]; exact hil) c e1
      · exact List.pairwise_iff_getElem.1 hnd i j (by rw [hlen]; exact hil) (by rw [hlen]; exact hjl) c e1.symm
theorem left_bks (t : Int) (E : List Ent) : left1000 t (bksE Try.prog 57 E) = bksE Try.prog 57 (E.filter fun e => decide (t - e.2.2.2 < 1000)) := by
  unfold left1000 bksE
  rw [List.filter_map]
  rfl
end Lim
end Go.Proofs.Ytlccgplgbokgkaa
