/- Windows of numbers as plain arithmetic: what a window knows is just what was taken. Nothing of the program. -/
namespace Go.Proofs.Ytdhjgenijieeaaa
namespace WinT
/-- a digit of two words -/
def bit (d0 d1 k : Nat) : Bool := if k < 64 then d0.testBit k else d1.testBit (k - 64)
/-- a window's state: the next number, and two words of digits -/
structure St where
  n : Nat
  a : Nat
  b : Nat
def St.ok (s : St) : Prop := s.n < 2 ^ 64 ∧ s.a < 2 ^ 64 ∧ s.b < 2 ^ 64
def has0 (s : St) (m : Nat) : Bool := decide (m < s.n) && (decide (s.n - 1 - m < 128) && bit s.a s.b (s.n - 1 - m))
def spent : Nat := 18446744073709543423
def check (s : St) (m : Nat) : Nat := if spent ≤ m then 81 else if m < s.n ∧ (128 ≤ s.n - 1 - m ∨ has0 s m = true) then 80 else 0
def mov0 (a step : Nat) : Nat := if step < 64 then a * 2 ^ step % 2 ^ 64 else 0
def mov1 (a b step : Nat) : Nat := if step < 64 then (b * 2 ^ step % 2 ^ 64) ||| (a / 2 ^ (64 - step)) else if step < 128 then a * 2 ^ (step - 64) % 2 ^ 64 else 0
def with0 (a k : Nat) : Nat := if k < 64 then a ||| 2 ^ k else a
def with1 (b k : Nat) : Nat := if k < 64 then b else b ||| 2 ^ (k - 64)
/-- a window that takes m -/
def put (s : St) (m : Nat) : St :=
  if s.n ≤ m then ⟨m + 1, with0 (mov0 s.a (m + 1 - s.n)) 0, with1 (mov1 s.a s.b (m + 1 - s.n)) 0⟩
  else ⟨s.n, with0 s.a (s.n - 1 - m), with1 s.b (s.n - 1 - m)⟩
def take (s : St) (m : Nat) : St := if check s m = 0 then put s m else s
theorem bit_with (a b k j : Nat) : bit (with0 a k) (with1 b k) j = (bit a b j || decide (j = k)) := by
  unfold bit with0 with1
  by_cases hk : k < 64
  · rw [if_pos hk, if_pos hk]
    by_cases hj : j < 64
    · rw [if_pos hj, if_pos hj, Nat.testBit_or, Nat.testBit_two_pow]
      congr 1
      by_cases h : j = k
      · rw [decide_eq_true h, decide_eq_true h.symm]
      · rw [decide_eq_false h, decide_eq_false (fun e => h e.symm)]
    · rw [if_neg hj, if_neg hj, decide_eq_false (show ¬ j = k by omega), Bool.or_false]
  · rw [if_neg hk, if_neg hk]
    by_cases hj : j < 64
    · rw [if_pos hj, if_pos hj, decide_eq_false (show ¬ j = k by omega), Bool.or_false]
    · rw [if_neg hj, if_neg hj, Nat.testBit_or, Nat.testBit_two_pow]
      congr 1
      by_cases h : j = k
      · subst h; simp
      · rw [decide_eq_false h, decide_eq_false (by omega)]
theorem bit_mov (a b s j : Nat) (ha : a < 2 ^ 64) (hj : j < 128) : bit (mov0 a s) (mov1 a b s) j = (decide (s ≤ j) && bit a b (j - s)) := by
  have big : ∀ i, 64 ≤ i → a.testBit i = false := fun i hi => Nat.testBit_lt_two_pow (Nat.lt_of_lt_of_le ha (Nat.pow_le_pow_right (by omega) hi))
  unfold bit mov0 mov1
  by_cases h1 : s < 64
  · rw [if_pos h1, if_pos h1]
    by_cases hj : j < 64
    · rw [if_pos hj, Nat.testBit_mod_two_pow, Nat.testBit_mul_two_pow, decide_eq_true hj, Bool.true_and, if_pos (show j - s < 64 by omega)]
    · rw [if_neg hj, Nat.testBit_or, Nat.testBit_mod_two_pow, Nat.testBit_mul_two_pow, Nat.testBit_div_two_pow, decide_eq_true (show j - 64 < 64 by omega), Bool.true_and, decide_eq_true (show s ≤ j by omega), Bool.true_and]
      by_cases h2 : j - s < 64
      · rw [if_pos h2, decide_eq_false (show ¬ s ≤ j - 64 by omega), Bool.false_and, Bool.false_or]
        congr 1; omega
      · rw [if_neg h2, decide_eq_true (show s ≤ j - 64 by omega), Bool.true_and, big _ (by omega), Bool.or_false]
        congr 1; omega
  · rw [if_neg h1, if_neg h1]
    by_cases hj : j < 64
    · rw [if_pos hj, decide_eq_false (show ¬ s ≤ j by omega)]; simp
    · rw [if_neg hj]
      by_cases h2 : s < 128
      · rw [if_pos h2, Nat.testBit_mod_two_pow, Nat.testBit_mul_two_pow, decide_eq_true (show j - 64 < 64 by omega), Bool.true_and]
        by_cases h3 : s ≤ j
        · rw [decide_eq_true h3, decide_eq_true (show s - 64 ≤ j - 64 by omega), Bool.true_and, Bool.true_and, if_pos (show j - s < 64 by omega)]
          congr 1; omega
        · rw [decide_eq_false h3, decide_eq_false (show ¬ s - 64 ≤ j - 64 by omega), Bool.false_and, Bool.false_and]
      · rw [if_neg h2, decide_eq_false (show ¬ s ≤ j by omega)]; simp
theorem two_or {a k : Nat} (ha : a < 2 ^ 64) (hk : k < 64) : a ||| 2 ^ k < 2 ^ 64 := Nat.or_lt_two_pow ha (Nat.pow_lt_pow_right (by omega) hk)
theorem with0_lt {a k : Nat} (ha : a < 2 ^ 64) : with0 a k < 2 ^ 64 := by
  unfold with0; split
  · exact two_or ha ‹_›
  · exact ha
theorem with1_lt {b k : Nat} (hb : b < 2 ^ 64) (hk : k < 128) : with1 b k < 2 ^ 64 := by
  unfold with1; split
  · exact hb
  · exact two_or hb (by omega)
theorem mov0_lt (a s : Nat) : mov0 a s < 2 ^ 64 := by
  unfold mov0; split
  · exact Nat.mod_lt _ (by decide)
  · decide
theorem mov1_lt {a : Nat} (b s : Nat) (ha : a < 2 ^ 64) : mov1 a b s < 2 ^ 64 := by
  unfold mov1; split
  · exact Nat.or_lt_two_pow (Nat.mod_lt _ (by decide)) (Nat.lt_of_le_of_lt (Nat.div_le_self _ _) ha)
  · split
    · exact Nat.mod_lt _ (by decide)
    · decide
theorem check_zero {s : St} {m : Nat} : check s m = 0 ↔ m < spent ∧ (s.n ≤ m ∨ (s.n - 1 - m < 128 ∧ bit s.a s.b (s.n - 1 - m) = false)) := by
  unfold check has0
  by_cases h1 : spent ≤ m
  · rw [if_pos h1]; simp; omega
  · rw [if_neg h1]
    by_cases h2 : m < s.n
    · by_cases h3 : s.n - 1 - m < 128
      · cases h4 : bit s.a s.b (s.n - 1 - m) <;> simp [h2, h3] <;> omega
      · simp [h2, h3]; try omega
    · simp [h2]; omega
theorem put_ok {s : St} {m : Nat} (hs : s.ok) (hc : check s m = 0) : (put s m).ok := by
  obtain ⟨h1, h2, h3⟩ := hs
  have hc := check_zero.1 hc
  have hsp : spent = 18446744073709543423 := rfl
  unfold put
  split
  · refine ⟨?_, show with0 (mov0 s.a (m + 1 - s.n)) 0 < 2 ^ 64 from with0_lt (mov0_lt _ _), show with1 (mov1 s.a s.b (m + 1 - s.n)) 0 < 2 ^ 64 from with1_lt (mov1_lt _ _ h2) (by decide)⟩
    show m + 1 < 2 ^ 64
    omega
  · exact ⟨h1, with0_lt h2, with1_lt h3 (by omega)⟩
theorem take_ok {s : St} (m : Nat) (hs : s.ok) : (take s m).ok := by
  unfold take; split
  · exact put_ok hs ‹_›
  · exact hs
/-- a window knows just what was taken -/
structure Is (s : St) (l : List Nat) : Prop where
  ok : s.ok
  le : ∀ m ∈ l, m < s.n
  top : s.n = 0 ∧ l = [] ∨ 0 < s.n ∧ s.n - 1 ∈ l
  bits : ∀ k, k < 128 → (bit s.a s.b k = true ↔ k < s.n ∧ s.n - 1 - k ∈ l)
theorem bit_zero (k : Nat) : bit 0 0 k = false := by unfold bit; split <;> simp
theorem is_nil : Is ⟨0, 0, 0⟩ [] := ⟨⟨by decide, by decide, by decide⟩, by simp, .inl ⟨rfl, rfl⟩, fun k _ => by simp [bit_zero]⟩
theorem has_is {s : St} {l : List Nat} (h : Is s l) (m : Nat) : has0 s m = true ↔ m ∈ l ∧ ¬ (m < s.n ∧ 128 ≤ s.n - 1 - m) := by
  unfold has0
  rw [Bool.and_eq_true, Bool.and_eq_true, decide_eq_true_eq, decide_eq_true_eq]
  constructor
  · rintro ⟨h1, h2, h3⟩
    have := ((h.bits _ h2).1 h3).2
    rw [show s.n - 1 - (s.n - 1 - m) = m by omega] at this
    exact ⟨this, by omega⟩
  · rintro ⟨h1, h2⟩
    have h3 := h.le _ h1
    refine ⟨h3, by omega, (h.bits _ (by omega)).2 ⟨by omega, ?_⟩⟩
    rwa [show s.n - 1 - (s.n - 1 - m) = m by omega]
theorem check_is {s : St} {l : List Nat} (h : Is s l) (m : Nat) : check s m = if spent ≤ m then 81 else if m ∈ l ∨ (m < s.n ∧ 128 ≤ s.n - 1 - m) then 80 else 0 := by
  unfold check
  have hh := has_is h m
  by_cases h1 : spent ≤ m
  · rw [if_pos h1, if_pos h1]
  · rw [if_neg h1, if_neg h1]
    by_cases h2 : m ∈ l
    · have := h.le _ h2
      rw [if_pos (show m ∈ l ∨ _ from .inl h2), if_pos]
      refine ⟨this, ?_⟩
      by_cases h3 : 128 ≤ s.n - 1 - m
      · exact .inl h3
      · exact .inr (hh.2 ⟨h2, by omega⟩)
    · by_cases h3 : m < s.n ∧ 128 ≤ s.n - 1 - m
      · rw [if_pos (show m < s.n ∧ (_ ∨ _) from ⟨h3.1, .inl h3.2⟩), if_pos (show m ∈ l ∨ _ from .inr h3)]
      · rw [if_neg, if_neg]
        · rintro (h | h)
          · exact h2 h
          · exact h3 h
        · rintro ⟨ha, hb | hb⟩
          · exact h3 ⟨ha, hb⟩
          · exact h2 (hh.1 hb).1
theorem put_is {s : St} {l : List Nat} (h : Is s l) {m : Nat} (hc : check s m = 0) : Is (put s m) (l ++ [m]) := by
  have hz := check_zero.1 hc
  have hok := put_ok h.ok hc
  by_cases h1 : s.n ≤ m
  · have e : put s m = ⟨m + 1, with0 (mov0 s.a (m + 1 - s.n)) 0, with1 (mov1 s.a s.b (m + 1 - s.n)) 0⟩ := by unfold put; rw [if_pos h1]
    rw [e] at hok ⊢
    refine ⟨hok, ?_, ?_, ?_⟩
    · intro j hj
      simp only [List.mem_append, List.mem_singleton] at hj
      show j < m + 1
      rcases hj with hj | hj
      · have := h.le _ hj; omega
      · omega
    · right; exact ⟨Nat.succ_pos _, by simp⟩
    · intro k hk
      show bit (with0 (mov0 s.a (m + 1 - s.n)) 0) (with1 (mov1 s.a s.b (m + 1 - s.n)) 0) k = true ↔ k < m + 1 ∧ m + 1 - 1 - k ∈ l ++ [m]
      rw [bit_with, bit_mov _ _ _ _ h.ok.2.1 hk, Bool.or_eq_true, Bool.and_eq_true, decide_eq_true_eq, decide_eq_true_eq, h.bits _ (show k - (m + 1 - s.n) < 128 by omega), List.mem_append, List.mem_singleton]
      constructor
      · rintro (⟨h2, h3, h4⟩ | rfl)
        · rw [show s.n - 1 - (k - (m + 1 - s.n)) = m + 1 - 1 - k by omega] at h4
          exact ⟨by omega, .inl h4⟩
        · exact ⟨by omega, .inr (by omega)⟩
      · rintro ⟨h2, h3 | h3⟩
        · have h4 := h.le _ h3
          refine .inl ⟨by omega, by omega, ?_⟩
          rw [show s.n - 1 - (k - (m + 1 - s.n)) = m + 1 - 1 - k by omega]
          exact h3
        · exact .inr (by omega)
  · have e : put s m = ⟨s.n, with0 s.a (s.n - 1 - m), with1 s.b (s.n - 1 - m)⟩ := by unfold put; rw [if_neg h1]
    rw [e] at hok ⊢
    refine ⟨hok, ?_, ?_, ?_⟩
    · intro j hj
      simp only [List.mem_append, List.mem_singleton] at hj
      show j < s.n
      rcases hj with hj | hj
      · exact h.le _ hj
      · omega
    · rcases h.top with h2 | h2
      · omega
      · exact .inr ⟨h2.1, List.mem_append_left _ h2.2⟩
    · intro k hk
      show bit (with0 s.a (s.n - 1 - m)) (with1 s.b (s.n - 1 - m)) k = true ↔ k < s.n ∧ s.n - 1 - k ∈ l ++ [m]
      rw [bit_with, Bool.or_eq_true, decide_eq_true_eq, h.bits _ hk, List.mem_append, List.mem_singleton]
      constructor
      · rintro (⟨h2, h3⟩ | rfl)
        · exact ⟨h2, .inl h3⟩
        · exact ⟨by omega, .inr (by omega)⟩
      · rintro ⟨h2, h3 | h3⟩
        · exact .inl ⟨h2, h3⟩
        · exact .inr (by omega)
theorem eq_of_bits {a b c d : Nat} (ha : a < 2 ^ 64) (hb : b < 2 ^ 64) (hc : c < 2 ^ 64) (hd : d < 2 ^ 64) (h : ∀ k, k < 128 → bit a b k = bit c d k) : a = c ∧ b = d := by
  have big : ∀ x i, x < 2 ^ 64 → 64 ≤ i → x.testBit i = false := fun x i hx hi => Nat.testBit_lt_two_pow (Nat.lt_of_lt_of_le hx (Nat.pow_le_pow_right (by omega) hi))
  constructor
  · refine Nat.eq_of_testBit_eq fun i => ?_
    by_cases hi : i < 64
    · have := h i (by omega)
      unfold bit at this
      rwa [if_pos hi, if_pos hi] at this
    · rw [big _ _ ha (by omega), big _ _ hc (by omega)]
  · refine Nat.eq_of_testBit_eq fun i => ?_
    by_cases hi : i < 64
    · have := h (i + 64) (by omega)
      unfold bit at this
      rwa [if_neg (by omega), if_neg (by omega), Nat.add_sub_cancel] at this
    · rw [big _ _ hb (by omega), big _ _ hd (by omega)]
/-- windows that took the same are the same -/
theorem is_eq {s t : St} {l k : List Nat} (h : Is s l) (g : Is t k) (e : ∀ m, m ∈ l ↔ m ∈ k) : s = t := by
  have hn : s.n = t.n := by
    rcases h.top with h1 | h1 <;> rcases g.top with h2 | h2
    · omega
    · have := (e _).2 h2.2; rw [h1.2] at this; simp at this
    · have := (e _).1 h1.2; rw [h2.2] at this; simp at this
    · have a := g.le _ ((e _).1 h1.2)
      have b := h.le _ ((e _).2 h2.2)
      omega
  have hb := eq_of_bits h.ok.2.1 h.ok.2.2 g.ok.2.1 g.ok.2.2 fun k hk => by
    rw [Bool.eq_iff_iff, h.bits k hk, g.bits k hk, hn, e]
  obtain ⟨n, a, b⟩ := s
  obtain ⟨n', a', b'⟩ := t
  simp_all
end WinT
end Go.Proofs.Ytdhjgenijieeaaa
