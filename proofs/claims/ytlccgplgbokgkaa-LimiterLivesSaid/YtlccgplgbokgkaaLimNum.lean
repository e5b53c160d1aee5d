/- The limiter as a list of buckets (key, level, time): what it answers, and when a map agrees with such a list. Nothing of the program. -/
import Derived.Test.YtlccgplgbokgkaaKit
import Derived.Maps.RangeWalk
import Derived.Maps.Ext
namespace Go.Proofs.Ytlccgplgbokgkaa
namespace Lim
open Go.Maps

def litEq : (a b : Lit) → Decidable (a = b)
  | .bool x, .bool y => if h : x = y then isTrue (by rw [h]) else isFalse (by intro e; injection e with e; exact h e)
  | .int k x, .int q y => if h : k = q ∧ x = y then isTrue (by rw [h.1, h.2]) else isFalse (by intro e; injection e with e1 e2; exact h ⟨e1, e2⟩)
  | .float k x, .float q y => if h : k = q ∧ x = y then isTrue (by rw [h.1, h.2]) else isFalse (by intro e; injection e with e1 e2; exact h ⟨e1, e2⟩)
  | .string x, .string y => if h : x = y then isTrue (by rw [h]) else isFalse (by intro e; injection e with e; exact h e)
  | .nil, .nil => isTrue rfl
  | .bool _, .int _ _ => isFalse (by intro e; cases e)
  | .bool _, .float _ _ => isFalse (by intro e; cases e)
  | .bool _, .string _ => isFalse (by intro e; cases e)
  | .bool _, .nil  => isFalse (by intro e; cases e)
  | .int _ _, .bool _ => isFalse (by intro e; cases e)
  | .int _ _, .float _ _ => isFalse (by intro e; cases e)
  | .int _ _, .string _ => isFalse (by intro e; cases e)
  | .int _ _, .nil  => isFalse (by intro e; cases e)
  | .float _ _, .bool _ => isFalse (by intro e; cases e)
  | .float _ _, .int _ _ => isFalse (by intro e; cases e)
  | .float _ _, .string _ => isFalse (by intro e; cases e)
  | .float _ _, .nil  => isFalse (by intro e; cases e)
  | .string _, .bool _ => isFalse (by intro e; cases e)
  | .string _, .int _ _ => isFalse (by intro e; cases e)
  | .string _, .float _ _ => isFalse (by intro e; cases e)
  | .string _, .nil  => isFalse (by intro e; cases e)
  | .nil, .bool _ => isFalse (by intro e; cases e)
  | .nil, .int _ _ => isFalse (by intro e; cases e)
  | .nil, .float _ _ => isFalse (by intro e; cases e)
  | .nil, .string _ => isFalse (by intro e; cases e)
instance : DecidableEq Lit := litEq
/-- a bucket -/
abbrev Bk := Lit × Int × Int
def lk (L : List Bk) (k : Lit) : Option (Int × Int) := (L.find? (fun b => b.1 == k)).map (·.2)
def keysL (L : List Bk) : List Lit := L.map (·.1)
/-- a bucket's level, looked at -/
def lev (v : Int × Int) (t : Int) : Int := min (v.1 + max (t - v.2) 0) 250
def okT (t : Int) : Prop := 0 ≤ t ∧ t ≤ 1099511627776
instance (t : Int) : Decidable (okT t) := by unfold okT; infer_instance
def left1000 (t : Int) (L : List Bk) : List Bk := L.filter fun b => decide (t - b.2.2 < 1000)
def putL (L : List Bk) (k : Lit) (v : Int × Int) : List Bk := if (lk L k).isSome then L.map (fun b => if b.1 == k then (k, v) else b) else L ++ [(k, v)]
/-- what a limiter answers: through, the error, and its state behind it -/
def ask (L : List Bk) (last : Int) (p : Option Lit) (t : Int) : Bool × Nat × List Bk × Int :=
  match p with
  | none => (false, 40, L, last)
  | some k =>
    if ¬ okT t ∨ t < last then (false, 1, L, last)
    else
      match lk (left1000 t L) k with
      | some v => if lev v t < 50 then (false, 0, putL (left1000 t L) k (lev v t, t), t) else (true, 0, putL (left1000 t L) k (lev v t - 50, t), t)
      | none => if 32 ≤ (left1000 t L).length then (false, 5, left1000 t L, t) else (true, 0, putL (left1000 t L) k (200, t), t)

theorem lk_nil (k : Lit) : lk [] k = none := rfl
theorem lk_cons (b : Bk) (L : List Bk) (k : Lit) : lk (b :: L) k = if b.1 = k then some b.2 else lk L k := by
  unfold lk
  rw [List.find?_cons]
  by_cases h : b.1 = k
  · rw [if_pos h, show (b.1 == k) = true by simp [h]]; rfl
  · rw [if_neg h, show (b.1 == k) = false by simp [h]]
theorem lk_some {L : List Bk} {k : Lit} {v : Int × Int} (h : lk L k = some v) : (k, v) ∈ L := by
  induction L with
  | nil => cases h
  | cons b L ih =>
    rw [lk_cons] at h
    by_cases e : b.1 = k
    · rw [if_pos e] at h
      have : b = (k, v) := by rw [← e, ← Option.some.inj h]
      rw [this]; exact List.mem_cons_self
    · rw [if_neg e] at h
      exact List.mem_cons_of_mem _ (ih h)
theorem lk_mem {L : List Bk} (hn : (keysL L).Nodup) {b : Bk} (h : b ∈ L) : lk L b.1 = some b.2 := by
  induction L with
  | nil => cases h
  | cons c L ih =>
    rw [lk_cons]
    have hn' := List.nodup_cons.1 (show (c.1 :: keysL L).Nodup from hn)
    rcases List.mem_cons.1 h with rfl | h'
    · rw [if_pos rfl]
    · rw [if_neg, ih hn'.2 h']
      intro e
      exact hn'.1 (e ▸ List.mem_map.2 ⟨b, h', rfl⟩)
theorem lk_isSome {L : List Bk} {k : Lit} : (lk L k).isSome = true ↔ k ∈ keysL L := by
  induction L with
  | nil => simp [lk, keysL]
  | cons b L ih =>
    rw [lk_cons]
    by_cases e : b.1 = k
    · rw [if_pos e]; simp [keysL, e]
    · rw [if_neg e, ih]
      simp only [keysL, List.map_cons, List.mem_cons]
      constructor
      · exact Or.inr
      · rintro (h | h)
        · exact absurd h.symm e
        · exact h
theorem lk_none {L : List Bk} {k : Lit} : lk L k = none ↔ k ∉ keysL L := by
  rw [← lk_isSome]
  cases lk L k <;> simp
theorem lk_filter {L : List Bk} (hn : (keysL L).Nodup) (f : Bk → Bool) (k : Lit) : lk (L.filter f) k = (lk L k).bind fun v => if f (k, v) then some v else none := by
  induction L with
  | nil => rfl
  | cons b L ih =>
    have hn' := List.nodup_cons.1 (show (b.1 :: keysL L).Nodup from hn)
    have ih := ih hn'.2
    rw [lk_cons]
    by_cases e : b.1 = k
    · rw [if_pos e, Option.bind_some]
      have hb : b = (k, b.2) := by rw [← e]
      by_cases hf : f b
      · rw [List.filter_cons_of_pos hf, lk_cons, if_pos e, if_pos (hb ▸ hf)]
      · rw [List.filter_cons_of_neg hf, ih, if_neg (hb ▸ hf), lk_none.2 (e ▸ hn'.1)]
        rfl
    · rw [if_neg e]
      by_cases hf : f b
      · rw [List.filter_cons_of_pos hf, lk_cons, if_neg e, ih]
      · rw [List.filter_cons_of_neg hf, ih]
theorem nodup_filter {L : List Bk} (hn : (keysL L).Nodup) (f : Bk → Bool) : (keysL (L.filter f)).Nodup :=
  (List.Sublist.map (fun b : Bk => b.1) (List.filter_sublist (p := f) (l := L))).nodup hn
theorem keys_upd (L : List Bk) (k : Lit) (v : Int × Int) : keysL (L.map (fun b => if b.1 == k then (k, v) else b)) = keysL L := by
  unfold keysL
  rw [List.map_map]
  apply List.map_congr_left
  intro b _
  by_cases h : b.1 = k
  · simp [h]
  · simp [h]
theorem nodup_put {L : List Bk} (hn : (keysL L).Nodup) (k : Lit) (v : Int × Int) : (keysL (putL L k v)).Nodup := by
  unfold putL
  split
  · rw [keys_upd]; exact hn
  · rename_i h
    unfold keysL
    rw [List.map_append]
    refine List.nodup_append.2 ⟨hn, by simp, ?_⟩
    intro a ha b hb e
    simp only [List.map_cons, List.map_nil, List.mem_singleton] at hb
    subst hb
    subst e
    exact h (lk_isSome.2 ha)
theorem lk_put {L : List Bk} (k : Lit) (v : Int × Int) (k' : Lit) : lk (putL L k v) k' = if k' = k then some v else lk L k' := by
  unfold putL
  split
  · rename_i h
    have hk := lk_isSome.1 h
    clear h
    induction L with
    | nil => cases hk
    | cons b L ih =>
      rw [List.map_cons, lk_cons, lk_cons]
      by_cases e : b.1 = k
      · rw [show (if (b.1 == k) = true then (k, v) else b) = (k, v) by simp [e]]
        by_cases e' : k' = k
        · subst e'; simp
        · rw [if_neg (fun h => e' h.symm), if_neg e', if_neg (fun h => e' (by rw [← h, e]))]
          clear ih hk
          induction L with
          | nil => rfl
          | cons c L ih2 =>
            rw [List.map_cons, lk_cons, lk_cons, ih2]
            by_cases e2 : c.1 = k
            · rw [show (if (c.1 == k) = true then (k, v) else c) = (k, v) by simp [e2], if_neg (fun h => e' h.symm), if_neg (fun h => e' (by rw [← h, e2]))]
            · rw [show (if (c.1 == k) = true then (k, v) else c) = c by simp [e2]]
      · rw [show (if (b.1 == k) = true then (k, v) else b) = b by simp [e]]
        have hk' : k ∈ keysL L := by
          rcases List.mem_cons.1 (show k ∈ b.1 :: keysL L from hk) with h | h
          · exact absurd h.symm e
          · exact h
        rw [ih hk']
        by_cases e' : k' = k
        · subst e'
          rw [if_neg e, if_pos rfl, if_pos rfl]
        · rw [if_neg e', if_neg e']
  · rename_i h
    have hk : lk L k = none := by
      cases hh : lk L k
      · rfl
      · rw [hh] at h; exact absurd rfl h
    clear h
    induction L with
    | nil =>
      rw [List.nil_append, lk_cons, lk_nil]
      by_cases e' : k' = k
      · rw [if_pos e'.symm, if_pos e']
      · rw [if_neg (fun h => e' h.symm), if_neg e']
    | cons b L ih =>
      rw [lk_cons] at hk
      have hb : ¬ b.1 = k := by
        intro e
        rw [if_pos e] at hk
        cases hk
      rw [if_neg hb] at hk
      rw [List.cons_append, lk_cons, lk_cons, ih hk]
      by_cases e' : k' = k
      · subst e'
        rw [if_neg hb, if_pos rfl, if_pos rfl]
      · rw [if_neg e', if_neg e']
theorem length_put (L : List Bk) (k : Lit) (v : Int × Int) : (putL L k v).length = if (lk L k).isSome then L.length else L.length + 1 := by
  unfold putL
  split <;> simp

section
variable {H : Type}
def pairD (v : Int × Int) : DataW H := .agg [.lit (.int .i64 v.1), .lit (.int .i64 v.2)]
theorem pairD_inj {v u : Int × Int} (h : pairD (H := H) v = pairD u) : v = u := by
  unfold pairD at h
  injection h with h
  injection h with h1 h2
  injection h2 with h2 _
  injection h1 with h1
  injection h2 with h2
  injection h1 with _ h1
  injection h2 with _ h2
  exact Prod.ext h1 h2
/-- the map's datum and the list agree -/
structure Ag (D : DataW H) (L : List Bk) : Prop where
  nd : (keysL L).Nodup
  key : ∀ b ∈ L, WideAt.IsKeyLit b.1
  hs : ∀ k, Maps.has D k = (lk L k).isSome
  at_ : ∀ k v z, lk L k = some v → D.atKey k z = pairD v

theorem ag_empty : Ag (.map [] : DataW H) [] := ⟨by simp [keysL], by simp, fun k => rfl, fun k v z h => by cases h⟩
theorem Ag.put {D : DataW H} {L : List Bk} (h : Ag D L) (hm : Maps.IsMap D) {k : Lit} (hk : WideAt.IsKeyLit k) (v : Int × Int) : Ag (D.put k (pairD v)) (putL L k v) where
  nd := nodup_put h.nd k v
  key := by
    intro b hb
    unfold putL at hb
    split at hb
    · obtain ⟨c, hc, rfl⟩ := List.mem_map.1 hb
      by_cases e : c.1 = k
      · rw [show (if (c.1 == k) = true then (k, v) else c) = (k, v) by simp [e]]; exact hk
      · rw [show (if (c.1 == k) = true then (k, v) else c) = c by simp [e]]; exact h.key c hc
    · rcases List.mem_append.1 hb with hb | hb
      · exact h.key b hb
      · rw [List.mem_singleton.1 hb]; exact hk
  hs := by
    intro k'
    rw [lk_put]
    by_cases e : k' = k
    · subst e; rw [if_pos rfl, Maps.has_put_same hm hk]; rfl
    · rw [if_neg e, Maps.has_put_other e, h.hs]
  at_ := by
    intro k' u z hl
    rw [lk_put] at hl
    by_cases e : k' = k
    · subst e; rw [if_pos rfl] at hl; rw [Maps.atKey_put_same hm hk, Option.some.inj hl]
    · rw [if_neg e] at hl; rw [Maps.atKey_put_other e]; exact h.at_ k' u z hl
theorem size_of_keys {D : DataW H} (ht : Maps.Tidy D) (hk : ∀ es, D = .map es → ∀ p ∈ es, WideAt.IsKeyLit p.1) {l : List Lit} (hn : l.Nodup) (hs : ∀ k, Maps.has D k = true ↔ k ∈ l) : Maps.size D = l.length := by
  obtain ⟨es, rfl, hp⟩ := ht
  have hn2 : (es.map (·.1)).Nodup := List.pairwise_map.2 hp
  rw [Maps.size_eq, ← List.length_map (f := fun p : Lit × DataW H => p.1)]
  apply List.Perm.length_eq
  refine (List.perm_ext_iff_of_nodup hn2 hn).2 fun k => ?_
  rw [← hs k, Maps.has_eq, List.any_eq_true, List.mem_map]
  constructor
  · rintro ⟨p, hp1, rfl⟩
    exact ⟨p, hp1, WideAt.sameKey_self (hk es rfl p hp1)⟩
  · rintro ⟨p, hp1, e⟩
    exact ⟨p, hp1, WideAt.sameKey_eq e⟩
theorem Ag.size {D : DataW H} {L : List Bk} (h : Ag D L) (ht : Maps.Tidy D) (hk : ∀ es, D = .map es → ∀ p ∈ es, WideAt.IsKeyLit p.1) : Maps.size D = L.length := by
  rw [size_of_keys ht hk h.nd (fun k => by rw [h.hs, lk_isSome])]
  simp [keysL]
/-- on the way through the map: what is idle and has been met is gone -/
structure Drop (D0 : DataW H) (L : List Bk) (t : Int) (D : DataW H) (left : Lit → Bool) : Prop where
  hl : ∀ k, left k = true → Maps.has D0 k = true
  hs : ∀ k, Maps.has D k = (Maps.has D0 k && (left k || ((lk (left1000 t L) k)).isSome))
  at_ : ∀ k z, Maps.has D k = true → D.atKey k z = D0.atKey k z
theorem drop_start (D0 : DataW H) (L : List Bk) (t : Int) : Drop D0 L t D0 (Maps.has D0) where
  hl := fun k h => h
  hs := fun k => by cases Maps.has D0 k <;> simp
  at_ := fun k z _ => rfl
theorem sameKey_iff {k kl : Lit} (hk : WideAt.IsKeyLit kl) : k.sameKey kl = true ↔ k = kl := by
  constructor
  · exact WideAt.sameKey_eq
  · rintro rfl; exact WideAt.sameKey_self hk
theorem Drop.keep {D0 D : DataW H} {L : List Bk} {t : Int} {left : Lit → Bool} (h : Drop D0 L t D left) {kl : Lit} (hk : WideAt.IsKeyLit kl) (hin : (lk (left1000 t L) kl).isSome = true) : Drop D0 L t D (fun z => left z && !z.sameKey kl) where
  hl := fun k hk' => h.hl k (by simp only [Bool.and_eq_true] at hk'; exact hk'.1)
  hs := fun k => by
    rw [h.hs k]
    by_cases e : k = kl
    · subst e; rw [hin]; simp
    · have : k.sameKey kl = false := by
        cases hh : k.sameKey kl
        · rfl
        · exact absurd ((sameKey_iff hk).1 hh) e
      simp [this]
  at_ := h.at_
theorem Drop.del {D0 D : DataW H} {L : List Bk} {t : Int} {left : Lit → Bool} (h : Drop D0 L t D left) {kl : Lit} (hk : WideAt.IsKeyLit kl) (hin : (lk (left1000 t L) kl).isSome = false) : Drop D0 L t (D.del kl) (fun z => left z && !z.sameKey kl) where
  hl := fun k hk' => h.hl k (by simp only [Bool.and_eq_true] at hk'; exact hk'.1)
  hs := fun k => by
    by_cases e : k = kl
    · subst e
      rw [Maps.has_del_same, hin, (sameKey_iff hk).2 rfl]
      simp
    · have : k.sameKey kl = false := by
        cases hh : k.sameKey kl
        · rfl
        · exact absurd ((sameKey_iff hk).1 hh) e
      rw [Maps.has_del_other e, h.hs k]
      simp [this]
  at_ := fun k z hh => by
    by_cases e : k = kl
    · subst e; rw [Maps.has_del_same] at hh; cases hh
    · rw [Maps.has_del_other e] at hh
      rw [Maps.atKey_del_other e]
      exact h.at_ k z hh
theorem lk_left {L : List Bk} (hn : (keysL L).Nodup) (t : Int) (k : Lit) : lk (left1000 t L) k = (lk L k).bind fun v => if t - v.2 < 1000 then some v else none := by
  unfold left1000
  rw [lk_filter hn]
  simp only [decide_eq_true_eq]
theorem Drop.done {D0 D : DataW H} {L : List Bk} {t : Int} {left : Lit → Bool} (h : Drop D0 L t D left) (hA : Ag D0 L) (hl : ∀ k, left k = false) : Ag D (left1000 t L) where
  nd := nodup_filter hA.nd _
  key := fun b hb => hA.key b ((List.mem_filter.1 hb).1)
  hs := fun k => by
    rw [h.hs k, hl k, Bool.false_or, hA.hs k, lk_left hA.nd]
    cases lk L k <;> simp
  at_ := fun k v z hv => by
    have h1 : lk L k = some v := by
      rw [lk_left hA.nd] at hv
      cases hh : lk L k with
      | none => rw [hh] at hv; cases hv
      | some u =>
        rw [hh, Option.bind_some] at hv
        split at hv
        · exact hv
        · cases hv
    rw [h.at_ k z (by rw [h.hs k, hl k, hA.hs k, h1, hv]; rfl)]
    exact hA.at_ k v z h1
end
end Lim
end Go.Proofs.Ytlccgplgbokgkaa
