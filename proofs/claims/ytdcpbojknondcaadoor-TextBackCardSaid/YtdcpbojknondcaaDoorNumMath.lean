/- Decimal numerals as lists of bytes: there and back, and their order. -/
import Derived.Lib.ItoaNum
import GoSem.Op.String
namespace Go.Proofs.YtdcpbojknondcaaDoor
namespace Dec
open Go.Lib

/-- the number of digits' bytes, the greatest first -/
def nL (l : List UInt8) : Nat := l.foldl (fun a c => a * 10 + (c.toNat - 48)) 0
theorem nL_snoc (l : List UInt8) (c : UInt8) : nL (l ++ [c]) = nL l * 10 + (c.toNat - 48) := by simp [nL]
theorem fold_cons (l : List UInt8) : ∀ a, l.foldl (fun a (c : UInt8) => a * 10 + (c.toNat - 48)) a = a * 10 ^ l.length + nL l := by
  induction l with
  | nil => intro a; simp [nL]
  | cons c l ih =>
    intro a
    simp only [nL, List.foldl_cons, List.length_cons]
    rw [ih, ih (0 * 10 + (c.toNat - 48))]
    simp only [nL, Nat.pow_succ]
    grind
theorem nL_cons (c : UInt8) (l : List UInt8) : nL (c :: l) = (c.toNat - 48) * 10 ^ l.length + nL l := by
  rw [nL, List.foldl_cons, fold_cons]
  simp

def isDig (c : UInt8) : Prop := 48 ≤ c.toNat ∧ c.toNat ≤ 57

theorem dig_byte (d : Nat) (h : d < 10) : (UInt8.ofNat (48 + d)).toNat = 48 + d := by
  rw [UInt8.toNat_ofNat']
  omega
theorem byte_dig (c : UInt8) (h : isDig c) : UInt8.ofNat (48 + (c.toNat - 48)) = c := by
  obtain ⟨h1, h2⟩ := h
  rw [show 48 + (c.toNat - 48) = c.toNat by omega]
  exact UInt8.ofNat_toNat

theorem nL_dec (u : Nat) : nL (decDigits u) = u := by
  induction u using Nat.strongRecOn with
  | _ u ih =>
    rw [decDigits]
    split
    · next h => rw [nL_cons, dig_byte u h]; simp [nL]
    · next h => rw [nL_snoc, ih (u / 10) (by omega), dig_byte _ (by omega)]; omega
theorem dec_digs (u : Nat) : ∀ c ∈ decDigits u, isDig c := by
  induction u using Nat.strongRecOn with
  | _ u ih =>
    rw [decDigits]
    split
    · next h =>
      intro c hc
      rw [List.mem_singleton] at hc
      rw [hc]
      unfold isDig
      rw [dig_byte u h]
      omega
    · next h =>
      intro c hc
      rcases List.mem_append.1 hc with k | k
      · exact ih (u / 10) (by omega) c k
      · rw [List.mem_singleton] at k
        rw [k]
        unfold isDig
        rw [dig_byte _ (by omega)]
        omega
theorem dec_ne (u : Nat) : decDigits u ≠ [] := by
  rw [decDigits]
  split <;> simp
/-- no nought ahead, but for the number 0 -/
theorem dec_head (u : Nat) : u = 0 ∨ ∃ c l, decDigits u = c :: l ∧ c.toNat ≠ 48 := by
  induction u using Nat.strongRecOn with
  | _ u ih =>
    rw [decDigits]
    split
    · next h =>
      by_cases h0 : u = 0
      · exact .inl h0
      · exact .inr ⟨_, _, rfl, by rw [dig_byte u h]; omega⟩
    · next h =>
      rcases ih (u / 10) (by omega) with h0 | ⟨c, l, e, hc⟩
      · omega
      · exact .inr ⟨c, l ++ [_], by rw [e]; rfl, hc⟩
theorem dec_first (u : Nat) : (decDigits u).length ≤ 1 ∨ ∃ c l, decDigits u = c :: l ∧ c.toNat ≠ 48 := by
  rcases dec_head u with h | h
  · left
    rw [h, decDigits]
    simp
  · exact .inr h

/-- in one way alone -/
theorem dec_nL (l : List UInt8) : l ≠ [] → (∀ c ∈ l, isDig c) → (l.length ≤ 1 ∨ ∃ c r, l = c :: r ∧ c.toNat ≠ 48) → decDigits (nL l) = l := by
  generalize hn : l.length = n
  induction n generalizing l with
  | zero => intro h; exact absurd (List.length_eq_zero_iff.1 hn) h
  | succ n ih =>
    intro h hd hf
    obtain ⟨r, c, rfl⟩ : ∃ r c, l = r ++ [c] := ⟨l.dropLast, l.getLast h, (List.dropLast_concat_getLast h).symm⟩
    have hc : isDig c := hd c (by simp)
    have hr : r.length = n := by simpa using hn
    cases r with
    | nil =>
      have : nL ([] ++ [c]) = c.toNat - 48 := by rw [nL_snoc]; simp [nL]
      rw [this, decDigits, dif_pos (by have := hc.2; omega), byte_dig c hc]
      rfl
    | cons a t =>
      have ha : a.toNat ≠ 48 := by
        rcases hf with h1 | ⟨c', r', e, h'⟩
        · simp at h1
          simp at hr
          omega
        · rw [List.cons_append, List.cons.injEq] at e
          rw [e.1]
          exact h'
      have hdig : isDig a := hd a (by simp)
      have hpos : 1 ≤ nL (a :: t) := by
        rw [nL_cons]
        have h1 : 1 ≤ a.toNat - 48 := by have := hdig.1; omega
        have h2 : 1 ≤ 10 ^ t.length := Nat.pow_pos (by omega)
        have := Nat.mul_le_mul h1 h2
        omega
      have hih := ih (a :: t) hr (by simp) (fun x hx => hd x (List.mem_append_left _ hx)) (.inr ⟨a, t, rfl, ha⟩)
      have hl : nL (a :: t ++ [c]) = nL (a :: t) * 10 + (c.toNat - 48) := nL_snoc _ _
      have hc1 := hc.1
      have hc2 := hc.2
      rw [hl, decDigits, dif_neg (by omega), show (nL (a :: t) * 10 + (c.toNat - 48)) / 10 = nL (a :: t) by omega, show (nL (a :: t) * 10 + (c.toNat - 48)) % 10 = c.toNat - 48 by omega, hih, byte_dig c hc]

theorem nL_lt (l : List UInt8) (h : ∀ c ∈ l, isDig c) : nL l < 10 ^ l.length := by
  induction l with
  | nil => simp [nL]
  | cons c l ih =>
    rw [nL_cons, List.length_cons, Nat.pow_succ]
    have h1 := ih (fun x hx => h x (by simp [hx]))
    have h2 : c.toNat - 48 ≤ 9 := by have := (h c (by simp)).2; omega
    have h3 := Nat.mul_le_mul_right (10 ^ l.length) h2
    omega

theorem less_iff (a b : List UInt8) (hl : a.length = b.length) (ha : ∀ c ∈ a, isDig c) (hb : ∀ c ∈ b, isDig c) : Op.bytesLess a b = decide (nL a < nL b) := by
  induction a generalizing b with
  | nil =>
    cases b with
    | nil => rfl
    | cons _ _ => simp at hl
  | cons x a ih =>
    cases b with
    | nil => simp at hl
    | cons y b =>
      have hl' : a.length = b.length := by simpa using hl
      have h1 := ih b hl' (fun z hz => ha z (by simp [hz])) (fun z hz => hb z (by simp [hz]))
      have hx := ha x (by simp)
      have hy := hb y (by simp)
      have la := nL_lt a (fun z hz => ha z (by simp [hz]))
      have lb := nL_lt b (fun z hz => hb z (by simp [hz]))
      rw [nL_cons, nL_cons, hl']
      rw [hl'] at la
      show (decide (x < y) || (x == y && Op.bytesLess a b)) = _
      rw [h1]
      have hxy : x < y ↔ x.toNat < y.toNat := UInt8.lt_iff_toNat_lt
      obtain ⟨hx1, hx2⟩ := hx
      obtain ⟨hy1, hy2⟩ := hy
      generalize 10 ^ b.length = M at la lb ⊢
      rcases Nat.lt_trichotomy x.toNat y.toNat with h | h | h
      · rw [decide_eq_true (hxy.2 h), Bool.true_or]
        symm
        rw [decide_eq_true_eq]
        have : (x.toNat - 48) + 1 ≤ y.toNat - 48 := by omega
        have := Nat.mul_le_mul_right M this
        rw [Nat.add_mul, Nat.one_mul] at this
        omega
      · have e : x = y := UInt8.toNat_inj.1 h
        rw [e]
        have : ¬ y < y := by rw [UInt8.lt_iff_toNat_lt]; omega
        rw [decide_eq_false this, Bool.false_or, beq_self_eq_true, Bool.true_and]
        congr 1
        apply propext
        omega
      · have n1 : ¬ x < y := by rw [hxy]; omega
        have n2 : (x == y) = false := by
          rw [beq_eq_false_iff_ne]
          intro e
          rw [e] at h
          omega
        rw [decide_eq_false n1, n2, Bool.false_or, Bool.false_and]
        symm
        rw [decide_eq_false_iff_not]
        have : (y.toNat - 48) + 1 ≤ x.toNat - 48 := by omega
        have := Nat.mul_le_mul_right M this
        rw [Nat.add_mul, Nat.one_mul] at this
        omega
end Dec
end Go.Proofs.YtdcpbojknondcaaDoor
