/- What follows of the limiter's list of buckets. Nothing of the program. -/
import Derived.Test.YtlccgplgbokgkaaLimNum
namespace Go.Proofs.Ytlccgplgbokgkaa
namespace Lim

structure Good (L : List Bk) (last : Int) : Prop where
  nd : (keysL L).Nodup
  key : ∀ b ∈ L, WideAt.IsKeyLit b.1
  ok : ∀ b ∈ L, 0 ≤ b.2.1 ∧ b.2.1 ≤ 250 ∧ okT b.2.2 ∧ b.2.2 ≤ last
  room : L.length ≤ 32
  last0 : okT last
theorem good_new : Good [] 0 := ⟨by simp [keysL], by simp, by simp, by simp, by unfold okT; omega⟩
theorem Good.lk {L : List Bk} {last : Int} (h : Good L last) {k : Lit} {v : Int × Int} (hv : lk L k = some v) : 0 ≤ v.1 ∧ v.1 ≤ 250 ∧ okT v.2 ∧ v.2 ≤ last := h.ok _ (lk_some hv)
theorem lev_bounds {v : Int × Int} (h0 : 0 ≤ v.1) (t : Int) : 0 ≤ lev v t ∧ lev v t ≤ 250 := by unfold lev; omega

theorem good_left {L : List Bk} {last t : Int} (h : Good L last) (ht : okT t) (hl : last ≤ t) : Good (left1000 t L) t where
  nd := nodup_filter h.nd _
  key := fun b hb => h.key b ((List.mem_filter.1 hb).1)
  ok := fun b hb => by
    have := h.ok b ((List.mem_filter.1 hb).1)
    exact ⟨this.1, this.2.1, this.2.2.1, by omega⟩
  room := Nat.le_trans (List.length_filter_le _ _) h.room
  last0 := ht
theorem good_put {L : List Bk} {t : Int} (h : Good L t) {k : Lit} (hk : WideAt.IsKeyLit k) {x : Int} (h0 : 0 ≤ x) (h1 : x ≤ 250) (hr : (lk L k).isSome = true ∨ L.length < 32) : Good (putL L k (x, t)) t where
  nd := nodup_put h.nd k _
  key := by
    intro b hb
    unfold putL at hb
    split at hb
    · obtain ⟨c, hc, rfl⟩ := List.mem_map.1 hb
      by_cases e : c.1 = k
      · rw [show (if (c.1 == k) = true then (k, (x, t)) else c) = (k, (x, t)) by simp [e]]; exact hk
      · rw [show (if (c.1 == k) = true then (k, (x, t)) else c) = c by simp [e]]; exact h.key c hc
    · rcases List.mem_append.1 hb with hb | hb
      · exact h.key b hb
      · rw [List.mem_singleton.1 hb]; exact hk
  ok := by
    intro b hb
    have hn : ∀ c : Bk, c = (k, (x, t)) → 0 ≤ c.2.1 ∧ c.2.1 ≤ 250 ∧ okT c.2.2 ∧ c.2.2 ≤ t := by
      rintro c rfl
      exact ⟨h0, h1, h.last0, Int.le_refl _⟩
    unfold putL at hb
    split at hb
    · obtain ⟨c, hc, rfl⟩ := List.mem_map.1 hb
      by_cases e : c.1 = k
      · exact hn _ (by simp [e])
      · rw [show (if (c.1 == k) = true then (k, (x, t)) else c) = c by simp [e]]; exact h.ok c hc
    · rcases List.mem_append.1 hb with hb | hb
      · exact h.ok b hb
      · exact hn _ (List.mem_singleton.1 hb)
  room := by
    rw [length_put]
    split
    · exact h.room
    · rename_i hh
      rcases hr with hr | hr
      · exact absurd hr hh
      · omega
  last0 := h.last0
theorem good_ask {L : List Bk} {last : Int} (h : Good L last) {p : Option Lit} (hp : ∀ k, p = some k → WideAt.IsKeyLit k) (t : Int) : Good (ask L last p t).2.2.1 (ask L last p t).2.2.2 := by
  unfold ask
  cases p with
  | none => exact h
  | some k =>
    have hk := hp k rfl
    dsimp only
    by_cases c : ¬ okT t ∨ t < last
    · rw [if_pos c]; exact h
    · rw [if_neg c]
      have hg := good_left h (Decidable.not_not.1 (not_or.1 c).1) (Int.not_lt.1 (not_or.1 c).2)
      cases hv : Lim.lk (left1000 t L) k with
      | some v =>
        have hb := hg.lk hv
        have hlev := lev_bounds hb.1 t
        dsimp only
        split
        · exact good_put hg hk hlev.1 hlev.2 (Or.inl (by rw [hv]; rfl))
        · exact good_put hg hk (by omega) (by omega) (Or.inl (by rw [hv]; rfl))
      | none =>
        dsimp only
        split
        · exact hg
        · exact good_put hg hk (by omega) (by omega) (Or.inr (by omega))

/-- what a bucket, or none, comes to at a time -/
def eff (u : Option (Int × Int)) (t : Int) : Int := match u with | none => 250 | some v => lev v t
theorem lev_idle {v : Int × Int} (h0 : 0 ≤ v.1) {t : Int} (h : 1000 ≤ t - v.2) : lev v t = 250 := by unfold lev; omega
theorem ask_at {L : List Bk} {last : Int} (h : Good L last) {k : Lit} {t : Int} (ht : okT t) (hl : last ≤ t) (hr : (lk (left1000 t L) k).isSome = true ∨ L.length < 32) :
    ask L last (some k) t = (decide (50 ≤ eff (lk L k) t), 0, putL (left1000 t L) k (if 50 ≤ eff (lk L k) t then eff (lk L k) t - 50 else eff (lk L k) t, t), t) := by
  have hE : eff (lk (left1000 t L) k) t = eff (lk L k) t := by
    rw [lk_left h.nd]
    cases hv : lk L k with
    | none => rfl
    | some v =>
      rw [Option.bind_some]
      split
      · rfl
      · rename_i hh
        show 250 = lev v t
        rw [lev_idle (h.lk hv).1 (by omega)]
  unfold ask
  dsimp only
  rw [if_neg (by rintro (c | c); exact c ht; omega), ← hE]
  cases hv : lk (left1000 t L) k with
  | some v =>
    dsimp only
    by_cases c : lev v t < 50
    · rw [if_pos c]
      have : ¬ 50 ≤ eff (some v) t := by show ¬ 50 ≤ lev v t; omega
      rw [decide_eq_false this, if_neg this]
      rfl
    · rw [if_neg c]
      have : 50 ≤ eff (some v) t := by show 50 ≤ lev v t; omega
      rw [decide_eq_true this, if_pos this]
      rfl
  | none =>
    dsimp only
    have : (left1000 t L).length < 32 := by
      rcases hr with hr | hr
      · rw [hv] at hr; cases hr
      · exact Nat.lt_of_le_of_lt (List.length_filter_le _ _) hr
    rw [if_neg (by omega)]
    rfl

theorem nodup_len : ∀ {xs l : List Lit}, xs.Nodup → (∀ k ∈ xs, k ∈ l) → xs.length ≤ l.length
  | [], _, _, _ => Nat.zero_le _
  | a :: xs, l, hn, h => by
    obtain ⟨h1, h2⟩ := List.nodup_cons.1 hn
    have ha : a ∈ l := h a List.mem_cons_self
    have ih := nodup_len (l := l.erase a) h2 (fun k hk => (List.mem_erase_of_ne (show k ≠ a from fun e => h1 (by rw [← e]; exact hk))).2 (h k (List.mem_cons_of_mem _ hk)))
    rw [List.length_erase_of_mem ha] at ih
    have : 0 < l.length := List.length_pos_of_mem ha
    rw [List.length_cons]
    omega
/-- keys of a few kinds alone -/
theorem few {L : List Bk} (hn : (keysL L).Nodup) {l : List Lit} (h : ∀ k ∈ keysL L, k ∈ l) : L.length ≤ l.length := by
  have : (keysL L).length ≤ l.length := nodup_len hn h
  simpa [keysL] using this
theorem keys_put {L : List Bk} {k : Lit} {v : Int × Int} {l : List Lit} (h : ∀ k ∈ keysL L, k ∈ l) (hk : k ∈ l) : ∀ k' ∈ keysL (putL L k v), k' ∈ l := by
  intro k' hk'
  unfold putL at hk'
  split at hk'
  · rw [keys_upd] at hk'; exact h k' hk'
  · unfold keysL at hk'
    rw [List.map_append] at hk'
    rcases List.mem_append.1 hk' with h1 | h1
    · exact h k' h1
    · simp only [List.map_cons, List.map_nil, List.mem_singleton] at h1
      rw [h1]; exact hk
theorem keys_left {L : List Bk} {t : Int} {l : List Lit} (h : ∀ k ∈ keysL L, k ∈ l) : ∀ k' ∈ keysL (left1000 t L), k' ∈ l := by
  intro k' hk'
  obtain ⟨b, hb, rfl⟩ := List.mem_map.1 hk'
  exact h _ (List.mem_map.2 ⟨b, (List.mem_filter.1 hb).1, rfl⟩)

/-! ### at a rate -/
structure Rate (K : Lit) (cnt : Nat) (th : List Int) (L : List Bk) (last : Int) : Prop where
  good : Good L last
  one : ∀ k ∈ keysL L, k ∈ [K]
  hk : WideAt.IsKeyLit K
  none_ : lk L K = none → cnt = 0 ∧ th = []
  some_ : ∀ v, lk L K = some v → v.2 = last ∧ 250 - 50 * (cnt : Int) ≤ v.1 ∧ ∀ (i : Nat) (x : Int), th[i]? = some x → 50 * ((th.length : Int) - i) ≤ 250 + (last - x) - v.1
  pairs : ∀ (i k : Nat) (x y : Int), i ≤ k → th[i]? = some x → th[k]? = some y → 50 * ((k : Int) - i + 1) ≤ 250 + (y - x)
theorem rate_new {K : Lit} (hk : WideAt.IsKeyLit K) : Rate K 0 [] [] 0 := ⟨good_new, by simp [keysL], hk, fun _ => ⟨rfl, rfl⟩, fun v h => (by cases h), fun i k x y _ h => (by simp at h)⟩
theorem Rate.room {K : Lit} {cnt : Nat} {th : List Int} {L : List Bk} {last : Int} (h : Rate K cnt th L last) : L.length < 32 := by
  have := few h.good.nd h.one
  simp at this
  omega
theorem Rate.step {K : Lit} {cnt : Nat} {th : List Int} {L : List Bk} {last : Int} (h : Rate K cnt th L last) {t : Int} (ht : okT t) (hl : last ≤ t) :
    ∃ L', ask L last (some K) t = (decide (50 ≤ eff (lk L K) t), 0, L', t) ∧ (cnt < 5 → 50 ≤ eff (lk L K) t) ∧ Rate K (cnt + 1) (if 50 ≤ eff (lk L K) t then th ++ [t] else th) L' t := by
  refine ⟨_, ask_at h.good ht hl (Or.inr h.room), ?_, ?_⟩
  · intro hc
    cases hv : lk L K with
    | none => show (50 : Int) ≤ 250; omega
    | some v =>
      have h1 := h.some_ v hv
      have h2 := h.good.lk hv
      show 50 ≤ lev v t
      unfold lev
      omega
  · have hE : eff (lk L K) t ≤ 250 ∧ 0 ≤ eff (lk L K) t ∧ 250 - 50 * (cnt : Int) ≤ eff (lk L K) t ∧ ∀ (i : Nat) (x : Int), th[i]? = some x → 50 * ((th.length : Int) - i) ≤ 250 + (t - x) - eff (lk L K) t := by
      cases hv : lk L K with
      | none =>
        obtain ⟨rfl, rfl⟩ := h.none_ hv
        exact ⟨Int.le_refl _, by show (0 : Int) ≤ 250; omega, by show _ ≤ (250 : Int); omega, fun i x hx => by simp at hx⟩
      | some v =>
        have h1 := h.some_ v hv
        have h2 := h.good.lk hv
        have h3 : lev v t ≤ 250 ∧ 0 ≤ lev v t ∧ v.1 ≤ lev v t ∧ lev v t ≤ v.1 + (t - last) := by unfold lev; omega
        refine ⟨h3.1, h3.2.1, ?_, fun i x hx => ?_⟩
        · show _ ≤ lev v t
          omega
        · have := h1.2.2 i x hx
          show _ ≤ 250 + (t - x) - lev v t
          omega
    obtain ⟨e1, e0, e2, e3⟩ := hE
    generalize eff (lk L K) t = E at e1 e0 e2 e3 ⊢
    have hg := good_left h.good ht hl
    refine ⟨good_put hg h.hk (by split <;> omega) (by split <;> omega) (Or.inr (Nat.lt_of_le_of_lt (List.length_filter_le _ _) h.room)), keys_put (keys_left h.one) (by simp), h.hk, ?_, ?_, ?_⟩
    · intro hn; rw [lk_put, if_pos rfl] at hn; cases hn
    · intro v hv
      rw [lk_put, if_pos rfl] at hv
      obtain rfl := Option.some.inj hv
      refine ⟨rfl, ?_, ?_⟩
      · show _ ≤ (if 50 ≤ E then E - 50 else E)
        split <;> omega
      · intro i x hx
        show _ ≤ 250 + (t - x) - (if 50 ≤ E then E - 50 else E)
        by_cases c : 50 ≤ E
        · rw [if_pos c] at hx ⊢
          rw [if_pos c, List.length_append]
          by_cases hi : i < th.length
          · rw [List.getElem?_append_left hi] at hx
            have := e3 i x hx
            simp only [List.length_cons, List.length_nil]
            omega
          · rw [List.getElem?_append_right (by omega)] at hx
            have hi2 : i = th.length := by
              by_cases h2 : i - th.length = 0
              · omega
              · rw [List.getElem?_eq_none (by simp; omega)] at hx; cases hx
            subst hi2
            simp at hx
            subst hx
            simp only [List.length_cons, List.length_nil]
            omega
        · rw [if_neg c] at hx ⊢
          rw [if_neg c]
          exact e3 i x hx
    · intro i k x y hik hx hy
      by_cases c : 50 ≤ E
      · rw [if_pos c] at hx hy
        by_cases hk : k < th.length
        · rw [List.getElem?_append_left hk] at hy
          rw [List.getElem?_append_left (by omega)] at hx
          exact h.pairs i k x y hik hx hy
        · have hk2 : k = th.length := by
            rw [List.getElem?_append_right (by omega)] at hy
            by_cases h2 : k - th.length = 0
            · omega
            · rw [List.getElem?_eq_none (by simp; omega)] at hy; cases hy
          subst hk2
          rw [List.getElem?_append_right (by omega)] at hy
          simp at hy
          subst hy
          by_cases hi : i < th.length
          · rw [List.getElem?_append_left hi] at hx
            have := e3 i x hx
            omega
          · have : i = th.length := by omega
            subst this
            rw [List.getElem?_append_right (by omega)] at hx
            simp at hx
            subst hx
            omega
      · rw [if_neg c] at hx hy
        exact h.pairs i k x y hik hx hy

/-! ### who waits -/
theorem waits {K : Lit} {cnt : Nat} {th : List Int} {L : List Bk} {last : Int} (h : Rate K cnt th L last) {t : Int} (hl : last + 50 ≤ t) : 50 ≤ eff (lk L K) t := by
  cases hv : lk L K with
  | none => show (50 : Int) ≤ 250; omega
  | some v =>
    have h1 := h.some_ v hv
    have h2 := h.good.lk hv
    show 50 ≤ lev v t
    unfold lev
    omega

/-! ### apart -/
/-- at a key both come to the same from a time on -/
def Same (last : Int) (u u' : Option (Int × Int)) : Prop := ∀ t, last ≤ t → eff u t = eff u' t
theorem same_left {L : List Bk} {last t : Int} (h : Good L last) {k : Lit} {u : Option (Int × Int)} (hs : Same last (lk L k) u) (hl : last ≤ t) : Same t (lk (left1000 t L) k) u := by
  intro t' ht'
  rw [← hs t' (by omega), lk_left h.nd]
  cases hv : lk L k with
  | none => rfl
  | some v =>
    rw [Option.bind_some]
    split
    · rfl
    · rename_i hh
      show 250 = lev v t'
      rw [lev_idle (h.lk hv).1 (by omega)]

/-! ### room -/
def filled (key : Nat → Lit) (t : Int) (n : Nat) : List Bk := (List.range n).map fun j => (key j, 200, t)
theorem filled_left (key : Nat → Lit) (t : Int) (n : Nat) : left1000 t (filled key t n) = filled key t n := by
  unfold left1000
  refine List.filter_eq_self.2 fun b hb => ?_
  obtain ⟨j, _, rfl⟩ := List.mem_map.1 hb
  simp
theorem filled_keys (key : Nat → Lit) (t : Int) (n : Nat) : keysL (filled key t n) = (List.range n).map key := by
  unfold filled keysL
  rw [List.map_map]
  rfl
theorem filled_none (key : Nat → Lit) (hinj : ∀ i j, i < 256 → j < 256 → key i = key j → i = j) (t : Int) (n i : Nat) (hi : i < 256) (hn : n ≤ i) : lk (filled key t n) (key i) = none := by
  rw [lk_none, filled_keys, List.mem_map]
  rintro ⟨j, hj, e⟩
  have := List.mem_range.1 hj
  have := hinj j i (by omega) hi e
  omega
theorem ask_filled (key : Nat → Lit) (hinj : ∀ i j, i < 256 → j < 256 → key i = key j → i = j) (t last : Int) (ht : okT t) (hl : last ≤ t) (i : Nat) (hi : i < 256) :
    ask (filled key t (min i 32)) last (some (key i)) t = if i < 32 then (true, 0, filled key t (min (i + 1) 32), t) else (false, 5, filled key t (min (i + 1) 32), t) := by
  unfold ask
  dsimp only
  rw [if_neg (by rintro (c | c); exact c ht; omega), filled_left, filled_none key hinj t _ i hi (Nat.min_le_left _ _)]
  dsimp only
  have hlen : (filled key t (min i 32)).length = min i 32 := by simp [filled]
  rw [hlen]
  by_cases c : i < 32
  · rw [if_neg (by omega), if_pos c, Nat.min_eq_left (by omega), Nat.min_eq_left (by omega)]
    unfold putL
    rw [filled_none key hinj t i i hi (Nat.le_refl _), if_neg (by simp)]
    unfold filled
    rw [List.range_succ, List.map_append]
    rfl
  · rw [if_pos (by omega), if_neg c, Nat.min_eq_right (by omega), Nat.min_eq_right (by omega)]
theorem ask_late (key : Nat → Lit) (t last : Int) (n : Nat) (K : Lit) (ht : okT (t + 1000)) (hl : last ≤ t + 1000) : ask (filled key t n) last (some K) (t + 1000) = (true, 0, [(K, 200, t + 1000)], t + 1000) := by
  have e : left1000 (t + 1000) (filled key t n) = [] := by
    unfold left1000
    refine List.filter_eq_nil_iff.2 fun b hb => ?_
    obtain ⟨j, _, rfl⟩ := List.mem_map.1 hb
    simp
    omega
  unfold ask
  dsimp only
  rw [if_neg (by rintro (c | c); exact c ht; omega), e, lk_nil]
  rfl
theorem good_filled (key : Nat → Lit) (hinj : ∀ i j, i < 256 → j < 256 → key i = key j → i = j) (hkey : ∀ i, WideAt.IsKeyLit (key i)) (t : Int) (ht : okT t) (n : Nat) (hn : n ≤ 32) : Good (filled key t n) t where
  nd := by
    rw [filled_keys]
    exact List.pairwise_map.2 (List.Pairwise.imp_of_mem (fun {a b} ha hb hne e => hne (hinj a b (by have := List.mem_range.1 ha; omega) (by have := List.mem_range.1 hb; omega) e)) (List.nodup_range (n := n)))
  key := fun b hb => by
    obtain ⟨j, _, rfl⟩ := List.mem_map.1 hb
    exact hkey j
  ok := fun b hb => by
    obtain ⟨j, _, rfl⟩ := List.mem_map.1 hb
    exact ⟨by show (0 : Int) ≤ 200; omega, by show (200 : Int) ≤ 250; omega, ht, Int.le_refl _⟩
  room := by simp [filled]; exact hn
  last0 := ht
end Lim
end Go.Proofs.Ytlccgplgbokgkaa
