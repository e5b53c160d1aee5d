/- Primes: Euclid's and Fermat's little theorems, and Pocklington's test. Nothing of the program. -/
import Derived.Test.YtnopjjkijedpeaaNum
namespace Go.Proofs.Ytnopjjkijedpeaa
namespace Primes

def IsPrime (p : Nat) : Prop := 2 ≤ p ∧ ∀ d, d ∣ p → d = 1 ∨ d = p

theorem IsPrime.coprime {p : Nat} (hp : IsPrime p) (a : Nat) (h : ¬ p ∣ a) : Nat.Coprime p a := by
  rcases hp.2 (Nat.gcd p a) (Nat.gcd_dvd_left p a) with e | e
  · exact e
  · exact absurd (e ▸ Nat.gcd_dvd_right p a) h

theorem IsPrime.euclid {p : Nat} (hp : IsPrime p) {a b : Nat} (h : p ∣ a * b) : p ∣ a ∨ p ∣ b := by
  by_cases k : p ∣ a
  · exact .inl k
  · exact .inr ((hp.coprime a k).dvd_of_dvd_mul_left h)

theorem IsPrime.euclid_pow {p : Nat} (hp : IsPrime p) {a : Nat} : ∀ n, p ∣ a ^ n → p ∣ a
  | 0, h => by
    rw [Nat.pow_zero, Nat.dvd_one] at h
    have := hp.1
    omega
  | n + 1, h => by
    rw [Nat.pow_succ] at h
    exact (hp.euclid h).elim (hp.euclid_pow n) id

/-! ### Fermat -/
def ch : Nat → Nat → Nat
  | _, 0 => 1
  | 0, _ + 1 => 0
  | n + 1, k + 1 => ch n k + ch n (k + 1)
def bs (x n : Nat) : Nat → Nat
  | 0 => 0
  | k + 1 => bs x n k + ch n k * x ^ k

theorem ch_zero (n : Nat) : ch n 0 = 1 := by cases n <;> rfl
theorem ch_over : ∀ n k, n < k → ch n k = 0
  | 0, k + 1, _ => rfl
  | n + 1, k + 1, h => by rw [ch, ch_over n k (by omega), ch_over n (k + 1) (by omega)]
theorem ch_full : ∀ n, ch n n = 1
  | 0 => rfl
  | n + 1 => by rw [ch, ch_full n, ch_over n (n + 1) (by omega)]
theorem absorb : ∀ n k, (k + 1) * ch (n + 1) (k + 1) = (n + 1) * ch n k
  | 0, 0 => rfl
  | 0, k + 1 => by simp [ch]
  | n + 1, 0 => by
    have h := absorb n 0
    show (0 + 1) * (ch (n + 1) 0 + ch (n + 1) (0 + 1)) = (n + 1 + 1) * ch (n + 1) 0
    rw [ch_zero, Nat.mul_add, h, ch_zero]
    omega
  | n + 1, k + 1 => by
    have h1 := absorb n (k + 1)
    have h2 := absorb n k
    rw [ch, Nat.mul_add, h1, show (k + 1 + 1) * ch (n + 1) (k + 1) = (k + 1) * ch (n + 1) (k + 1) + ch (n + 1) (k + 1) by rw [Nat.add_mul, Nat.one_mul], h2]
    rw [show ch (n + 1) (k + 1) = ch n k + ch n (k + 1) from rfl]
    grind

theorem bs_step (x n : Nat) : ∀ k, bs x (n + 1) (k + 1) = bs x n (k + 1) + x * bs x n k
  | 0 => by simp [bs, ch_zero]
  | k + 1 => by
    have ih := bs_step x n k
    rw [show bs x (n + 1) (k + 1 + 1) = bs x (n + 1) (k + 1) + ch (n + 1) (k + 1) * x ^ (k + 1) from rfl, ih, show bs x n (k + 1 + 1) = bs x n (k + 1) + ch n (k + 1) * x ^ (k + 1) from rfl,
      show bs x n (k + 1) = bs x n k + ch n k * x ^ k from rfl, show ch (n + 1) (k + 1) = ch n k + ch n (k + 1) from rfl, Nat.pow_succ]
    grind
theorem binomial (x : Nat) : ∀ n, bs x n (n + 1) = (x + 1) ^ n
  | 0 => by simp [bs, ch_zero]
  | n + 1 => by
    rw [bs_step, show bs x n (n + 1 + 1) = bs x n (n + 1) + ch n (n + 1) * x ^ (n + 1) from rfl, ch_over n (n + 1) (by omega), binomial x n, Nat.pow_succ]
    grind

theorem bs_mod {p : Nat} (hp : IsPrime p) (x : Nat) : ∀ k, k < p → bs x p (k + 1) % p = 1 % p
  | 0, _ => by simp [bs, ch_zero]
  | k + 1, hk => by
    have ih := bs_mod hp x k (by omega)
    have h := absorb (p - 1) k
    rw [show p - 1 + 1 = p by omega] at h
    have hd : p ∣ ch p (k + 1) := by
      rcases hp.euclid (show p ∣ (k + 1) * ch p (k + 1) from h ▸ Nat.dvd_mul_right p _) with e | e
      · exact absurd (Nat.le_of_dvd (by omega) e) (by omega)
      · exact e
    obtain ⟨m, hm⟩ := hd
    rw [bs, hm, Nat.mul_assoc, Nat.add_mul_mod_self_left, ih]

theorem freshman {p : Nat} (hp : IsPrime p) (x : Nat) : (x + 1) ^ p % p = (x ^ p + 1) % p := by
  have h2 := hp.1
  rw [← binomial x p, bs, ch_full, Nat.one_mul]
  obtain ⟨q, hq⟩ : ∃ q, p = q + 1 := ⟨p - 1, by omega⟩
  have h := bs_mod hp x q (by omega)
  rw [← hq] at h
  rw [Nat.add_mod, h, ← Nat.add_mod, Nat.add_comm]

theorem fermat_self {p : Nat} (hp : IsPrime p) : ∀ x, x ^ p % p = x % p
  | 0 => by rw [Nat.zero_pow (by have := hp.1; omega)]
  | x + 1 => by rw [freshman hp, Nat.add_mod, fermat_self hp x, ← Nat.add_mod]

theorem fermat {p : Nat} (hp : IsPrime p) {x : Nat} (hx : ¬ p ∣ x) : x ^ (p - 1) % p = 1 := by
  have h2 := hp.1
  have h := fermat_self hp x
  have hx0 : 0 < x := Nat.pos_of_ne_zero fun e => hx (e ▸ Nat.dvd_zero p)
  obtain ⟨q, hq⟩ : ∃ q, p = q + 1 := ⟨p - 1, by omega⟩
  have e : x ^ p = x * x ^ (p - 1) := by
    conv => lhs; rw [hq]
    rw [Nat.pow_succ, Nat.mul_comm, show p - 1 = q by omega]
  have hpos : 1 ≤ x ^ (p - 1) := Nat.pow_pos hx0
  have hd : p ∣ x * (x ^ (p - 1) - 1) := by
    rw [Nat.mul_sub, Nat.mul_one, ← e]
    have hle : x ≤ x ^ p := by rw [e]; exact Nat.le_mul_of_pos_right _ hpos
    exact Nat.dvd_of_mod_eq_zero (Nat.sub_mod_eq_zero_of_mod_eq h)
  rcases hp.euclid hd with k | k
  · exact absurd k hx
  · obtain ⟨m, hm⟩ := k
    rw [show x ^ (p - 1) = 1 + p * m by omega, Nat.add_mul_mod_self_left, Nat.mod_eq_of_lt (by omega)]

/-! ### every number from 2 on has a prime divisor -/
theorem prime_divisor (n : Nat) (h : 2 ≤ n) : ∃ p, IsPrime p ∧ p ∣ n := by
  induction n using Nat.strongRecOn with
  | ind n ih =>
    by_cases hp : ∀ d, d ∣ n → d = 1 ∨ d = n
    · exact ⟨n, ⟨h, hp⟩, Nat.dvd_refl n⟩
    · have : ∃ d, d ∣ n ∧ d ≠ 1 ∧ d ≠ n := by
        apply Classical.byContradiction
        intro hn
        apply hp
        intro d hd
        by_cases e : d = 1
        · exact .inl e
        · by_cases e2 : d = n
          · exact .inr e2
          · exact absurd ⟨d, hd, e, e2⟩ hn
      obtain ⟨d, hd, h1, h2⟩ := this
      have hle := Nat.le_of_dvd (by omega) hd
      have hd0 : d ≠ 0 := fun e => by
        subst e
        rw [Nat.zero_dvd] at hd
        omega
      obtain ⟨p, hp1, hp2⟩ := ih d (by omega) (by omega)
      exact ⟨p, hp1, Nat.dvd_trans hp2 hd⟩

theorem prime_of_small (n : Nat) (h : 2 ≤ n) (hs : ∀ p, IsPrime p → p ∣ n → n < p * p) : IsPrime n := by
  refine ⟨h, fun d hd => ?_⟩
  by_cases e1 : d = 1
  · exact .inl e1
  · by_cases e2 : d = n
    · exact .inr e2
    · exfalso
      obtain ⟨c, hc⟩ := hd
      have hc1 : 2 ≤ c := by
        rcases c with _ | _ | c
        · omega
        · omega
        · omega
      have hd1 : 2 ≤ d := by
        rcases d with _ | _ | d
        · omega
        · omega
        · omega
      obtain ⟨p, p1, p2⟩ := prime_divisor c hc1
      obtain ⟨q, q1, q2⟩ := prime_divisor d hd1
      have h1 := hs p p1 (Nat.dvd_trans p2 (hc ▸ Nat.dvd_mul_left c d))
      have h2 := hs q q1 (Nat.dvd_trans q2 (hc ▸ Nat.dvd_mul_right d c))
      have l1 := Nat.le_of_dvd (by omega) p2
      have l2 := Nat.le_of_dvd (by omega) q2
      have m1 : p * p ≤ c * c := Nat.mul_le_mul l1 l1
      have m2 : q * q ≤ d * d := Nat.mul_le_mul l2 l2
      rcases Nat.le_total c d with k | k
      · have := Nat.mul_le_mul_right c k
        omega
      · have := Nat.mul_le_mul_left d k
        omega

/-- trial division -/
def trial (n : Nat) : Nat → Nat → Bool
  | 0, _ => true
  | k + 1, d => n % d != 0 && trial n k (d + 1)
theorem trial_spec (n : Nat) : ∀ k d, trial n k d = true → ∀ e, d ≤ e → e < d + k → ¬ e ∣ n
  | 0, d, _, e, h1, h2 => by omega
  | k + 1, d, h, e, h1, h2 => by
    rw [trial, Bool.and_eq_true] at h
    by_cases he : e = d
    · subst he
      intro hd
      have := Nat.mod_eq_zero_of_dvd hd
      simp [this] at h
    · exact trial_spec n k (d + 1) h.2 e (by omega) (by omega)
theorem prime_of_trial (n k : Nat) (h : 2 ≤ n) (hk : n < (k + 2) * (k + 2)) (ht : trial n k 2 = true) : IsPrime n := by
  refine prime_of_small n h fun p hp hd => ?_
  have h2 := hp.1
  rcases Nat.lt_or_ge p (2 + k) with l | l
  · exact absurd hd (trial_spec n k 2 ht p h2 l)
  · exact Nat.lt_of_lt_of_le hk (Nat.mul_le_mul (by omega) (by omega))

/-- powers modulo n, halving the exponent -/
def pm (n a : Nat) : Nat → Nat → Nat
  | 0, _ => 1 % n
  | k + 1, e => let h := pm n a k (e / 2); let s := h * h % n; if e % 2 = 1 then s * a % n else s
theorem pm_eq (n a : Nat) : ∀ k e, e < 2 ^ k → pm n a k e = a ^ e % n
  | 0, e, h => by
    obtain rfl : e = 0 := by simpa using h
    simp [pm]
  | k + 1, e, h => by
    have ih := pm_eq n a k (e / 2) (by rw [Nat.pow_succ] at h; omega)
    simp only [pm, ih]
    split
    · rename_i h1
      have he : e = 2 * (e / 2) + 1 := by omega
      conv => rhs; rw [he, Nat.pow_succ, Nat.two_mul, Nat.pow_add]
      rw [Nat.mod_mul_mod, Nat.mul_assoc, Nat.mod_mul_mod, Nat.mul_left_comm, Nat.mod_mul_mod, Nat.mul_assoc]
    · rename_i h1
      have he : e = 2 * (e / 2) := by omega
      conv => rhs; rw [he, Nat.two_mul, Nat.pow_add]
      rw [← Nat.mul_mod]

/-- Pocklington: a prime q with n - 1 = q r divides what is below each prime divisor of n -/
theorem pock {n q r a p : Nat} (hq : IsPrime q) (hn : n = q * r + 1) (h1 : a ^ (q * r) % n = 1 % n) (g : Nat) (hg : a ^ r % n = g + 1) (hc : Nat.gcd g n = 1) (hp : IsPrime p) (hd : p ∣ n) : q ∣ p - 1 := by
  apply Classical.byContradiction
  intro hno
  have hp2 := hp.1
  have hmod : ∀ x y, x % n = y % n → x % p = y % p := fun x y h => by
    obtain ⟨c, rfl⟩ := hd
    rw [← Nat.mod_mul_right_mod x p c, h, Nat.mod_mul_right_mod]
  have hpa : ¬ p ∣ a := fun h => by
    have h3 := hmod _ _ h1
    have h4 : p ∣ a ^ (q * r) := by
      rcases Nat.eq_zero_or_pos (q * r) with e | e
      · rw [e] at hn
        have := Nat.le_of_dvd (by omega) hd
        omega
      · obtain ⟨m, hm⟩ : ∃ m, q * r = m + 1 := ⟨q * r - 1, by omega⟩
        rw [hm, Nat.pow_succ]
        exact Nat.dvd_mul_left_of_dvd h _
    rw [Nat.mod_eq_zero_of_dvd h4, Nat.mod_eq_of_lt (by omega)] at h3
    omega
  have hb : ¬ p ∣ a ^ r := fun h => hpa (hp.euclid_pow r h)
  have f1 : (a ^ r) ^ q % p = 1 := by
    rw [← Nat.pow_mul, Nat.mul_comm r q, hmod _ _ h1, Nat.mod_eq_of_lt (by omega)]
  have f2 := fermat hp hb
  have hcop : Nat.Coprime q (p - 1) := hq.coprime _ hno
  have f3 : a ^ r % p = 1 := by
    generalize a ^ r = b at f1 f2
    have key : ∀ m, m ∣ q → True := fun _ _ => trivial
    -- the exponents that give 1 are closed under the greatest common divisor
    have main : ∀ x y, b ^ x % p = 1 → b ^ y % p = 1 → b ^ (Nat.gcd x y) % p = 1 := by
      intro x y
      induction x, y using Nat.gcd.induction with
      | H0 y => intro _ h; rwa [Nat.gcd_zero_left]
      | H1 x y hx ih =>
        intro h1 h2
        rw [Nat.gcd_rec]
        refine ih ?_ h1
        have e := Nat.div_add_mod y x
        have h3 : b ^ y % p = b ^ (y % x) % p := by
          conv => lhs; rw [← e, Nat.pow_add, Nat.pow_mul, Nat.mul_mod, Nat.pow_mod, h1, Nat.one_pow, Nat.mod_eq_of_lt (show 1 < p by omega), Nat.one_mul, Nat.mod_mod]
        rw [← h3, h2]
    have h := main q (p - 1) f1 f2
    rwa [hcop, Nat.pow_one] at h
  have f4 : (g + 1) % p = 1 := by
    have : a ^ r % p = (g + 1) % p := hmod _ _ (by rw [← hg, Nat.mod_mod])
    rw [← this, f3]
  have hdg : p ∣ g := by
    refine Nat.dvd_of_mod_eq_zero ?_
    have := Nat.add_mod g 1 p
    rw [f4, Nat.mod_eq_of_lt (show 1 < p by omega)] at this
    have hlt := Nat.mod_lt g (show 0 < p by omega)
    rcases Nat.lt_or_ge (g % p + 1) p with l | l
    · rw [Nat.mod_eq_of_lt l] at this
      omega
    · rw [show g % p + 1 = p by omega, Nat.mod_self] at this
      omega
  have := Nat.dvd_gcd hdg hd
  rw [hc, Nat.dvd_one] at this
  omega

end Primes
end Go.Proofs.Ytnopjjkijedpeaa
