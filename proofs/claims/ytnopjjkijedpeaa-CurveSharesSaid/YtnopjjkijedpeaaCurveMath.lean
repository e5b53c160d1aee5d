/- The curve's mathematics: primes, sums of points, ladders, places, the order of the place 9. Nothing of the program. -/
import Derived.Test.YtnopjjkijedpeaaNum
import Derived.Test.YtnopjjkijedpeaaFieldNum
namespace Go.Proofs.Ytnopjjkijedpeaa
namespace Primes

def IsPrime (p : Nat) : Prop := 2 ≤ p ∧ ∀ d, d ∣ p → d = 1 ∨ d = p

theorem IsPrime.coprime {p : Nat} (hp : IsPrime p) (a : Nat) (h : ¬ p ∣ a) : Nat.Coprime p a := by
  rcases hp.2 (Nat.gcd p a) (Nat.gcd_dvd_left p a) with e | e
  · exact e
  · exact absurd (e ▸ Nat.gcd_dvd_right p a) h

theorem IsPrime.euclid {p : Nat} (hp : IsPrime p) {a b : Nat} (h : p ∣ a * b) : p ∣ a ∨ p ∣ b := by
  by_cases k : p ∣ a
  · exact .inl k
  · exact .inr ((hp.coprime a k).dvd_of_dvd_mul_left h)

theorem IsPrime.euclid_pow {p : Nat} (hp : IsPrime p) {a : Nat} : ∀ n, p ∣ a ^ n → p ∣ a
  | 0, h => by
    rw [Nat.pow_zero, Nat.dvd_one] at h
    have := hp.1
    omega
  | n + 1, h => by
    rw [Nat.pow_succ] at h
    exact (hp.euclid h).elim (hp.euclid_pow n) id

/-! ### Fermat -/
def ch : Nat → Nat → Nat
  | _, 0 => 1
  | 0, _ + 1 => 0
  | n + 1, k + 1 => ch n k + ch n (k + 1)
def bs (x n : Nat) : Nat → Nat
  | 0 => 0
  | k + 1 => bs x n k + ch n k * x ^ k

theorem ch_zero (n : Nat) : ch n 0 = 1 := by cases n <;> rfl
theorem ch_over : ∀ n k, n < k → ch n k = 0
  | 0, k + 1, _ => rfl
  | n + 1, k + 1, h => by rw [ch, ch_over n k (by omega), ch_over n (k + 1) (by omega)]
theorem ch_full : ∀ n, ch n n = 1
  | 0 => rfl
  | n + 1 => by rw [ch, ch_full n, ch_over n (n + 1) (by omega)]
theorem absorb : ∀ n k, (k + 1) * ch (n + 1) (k + 1) = (n + 1) * ch n k
  | 0, 0 => rfl
  | 0, k + 1 => by simp [ch]
  | n + 1, 0 => by
    have h := absorb n 0
    show (0 + 1) * (ch (n + 1) 0 + ch (n + 1) (0 + 1)) = (n + 1 + 1) * ch (n + 1) 0
    rw [ch_zero, Nat.mul_add, h, ch_zero]
    omega
  | n + 1, k + 1 => by
    have h1 := absorb n (k + 1)
    have h2 := absorb n k
    rw [ch, Nat.mul_add, h1, show (k + 1 + 1) * ch (n + 1) (k + 1) = (k + 1) * ch (n + 1) (k + 1) + ch (n + 1) (k + 1) by rw [Nat.add_mul, Nat.one_mul], h2]
    rw [show ch (n + 1) (k + 1) = ch n k + ch n (k + 1) from rfl]
    grind

theorem bs_step (x n : Nat) : ∀ k, bs x (n + 1) (k + 1) = bs x n (k + 1) + x * bs x n k
  | 0 => by simp [bs, ch_zero]
  | k + 1 => by
    have ih := bs_step x n k
    rw [show bs x (n + 1) (k + 1 + 1) = bs x (n + 1) (k + 1) + ch (n + 1) (k + 1) * x ^ (k + 1) from rfl, ih, show bs x n (k + 1 + 1) = bs x n (k + 1) + ch n (k + 1) * x ^ (k + 1) from rfl,
      show bs x n (k + 1) = bs x n k + ch n k * x ^ k from rfl, show ch (n + 1) (k + 1) = ch n k + ch n (k + 1) from rfl, Nat.pow_succ]
    grind
theorem binomial (x : Nat) : ∀ n, bs x n (n + 1) = (x + 1) ^ n
  | 0 => by simp [bs, ch_zero]
  | n + 1 => by
    rw [bs_step, show bs x n (n + 1 + 1) = bs x n (n + 1) + ch n (n + 1) * x ^ (n + 1) from rfl, ch_over n (n + 1) (by omega), binomial x n, Nat.pow_succ]
    grind

theorem bs_mod {p : Nat} (hp : IsPrime p) (x : Nat) : ∀ k, k < p → bs x p (k + 1) % p = 1 % p
  | 0, _ => by simp [bs, ch_zero]
  | k + 1, hk => by
    have ih := bs_mod hp x k (by omega)
    have h := absorb (p - 1) k
    rw [show p - 1 + 1 = p by omega] at h
    have hd : p ∣ ch p (k + 1) := by
      rcases hp.euclid (show p ∣ (k + 1) * ch p (k + 1) from h ▸ Nat.dvd_mul_right p _) with e | e
      · exact absurd (Nat.le_of_dvd (by omega) e) (by omega)
      · exact e
    obtain ⟨m, hm⟩ := hd
    rw [bs, hm, Nat.mul_assoc, Nat.add_mul_mod_self_left, ih]

theorem freshman {p : Nat} (hp : IsPrime p) (x : Nat) : (x + 1) ^ p % p = (x ^ p + 1) % p := by
  have h2 := hp.1
  rw [← binomial x p, bs, ch_full, Nat.one_mul]
  obtain ⟨q, hq⟩ : ∃ q, p = q + 1 := ⟨p - 1, by omega⟩
  have h := bs_mod hp x q (by omega)
  rw [← hq] at h
  rw [Nat.add_mod, h, ← Nat.add_mod, Nat.add_comm]

theorem fermat_self {p : Nat} (hp : IsPrime p) : ∀ x, x ^ p % p = x % p
  | 0 => by rw [Nat.zero_pow (by have := hp.1; omega)]
  | x + 1 => by rw [freshman hp, Nat.add_mod, fermat_self hp x, ← Nat.add_mod]

theorem fermat {p : Nat} (hp : IsPrime p) {x : Nat} (hx : ¬ p ∣ x) : x ^ (p - 1) % p = 1 := by
  have h2 := hp.1
  have h := fermat_self hp x
  have hx0 : 0 < x := Nat.pos_of_ne_zero fun e => hx (e ▸ Nat.dvd_zero p)
  obtain ⟨q, hq⟩ : ∃ q, p = q + 1 := ⟨p - 1, by omega⟩
  have e : x ^ p = x * x ^ (p - 1) := by
    conv => lhs; rw [hq]
    rw [Nat.pow_succ, Nat.mul_comm, show p - 1 = q by omega]
  have hpos : 1 ≤ x ^ (p - 1) := Nat.pow_pos hx0
  have hd : p ∣ x * (x ^ (p - 1) - 1) := by
    rw [Nat.mul_sub, Nat.mul_one, ← e]
    have hle : x ≤ x ^ p := by rw [e]; exact Nat.le_mul_of_pos_right _ hpos
    exact Nat.dvd_of_mod_eq_zero (Nat.sub_mod_eq_zero_of_mod_eq h)
  rcases hp.euclid hd with k | k
  · exact absurd k hx
  · obtain ⟨m, hm⟩ := k
    rw [show x ^ (p - 1) = 1 + p * m by omega, Nat.add_mul_mod_self_left, Nat.mod_eq_of_lt (by omega)]

/-! ### every number from 2 on has a prime divisor -/
theorem prime_divisor (n : Nat) (h : 2 ≤ n) : ∃ p, IsPrime p ∧ p ∣ n := by
  induction n using Nat.strongRecOn with
  | ind n ih =>
    by_cases hp : ∀ d, d ∣ n → d = 1 ∨ d = n
    · exact ⟨n, ⟨h, hp⟩, Nat.dvd_refl n⟩
    · have : ∃ d, d ∣ n ∧ d ≠ 1 ∧ d ≠ n := by
        apply Classical.byContradiction
        intro hn
        apply hp
        intro d hd
        by_cases e : d = 1
        · exact .inl e
        · by_cases e2 : d = n
          · exact .inr e2
          · exact absurd ⟨d, hd, e, e2⟩ hn
      obtain ⟨d, hd, h1, h2⟩ := this
      have hle := Nat.le_of_dvd (by omega) hd
      have hd0 : d ≠ 0 := fun e => by
        subst e
        rw [Nat.zero_dvd] at hd
        omega
      obtain ⟨p, hp1, hp2⟩ := ih d (by omega) (by omega)
      exact ⟨p, hp1, Nat.dvd_trans hp2 hd⟩

theorem prime_of_small (n : Nat) (h : 2 ≤ n) (hs : ∀ p, IsPrime p → p ∣ n → n < p * p) : IsPrime n := by
  refine ⟨h, fun d hd => ?_⟩
  by_cases e1 : d = 1
  · exact .inl e1
  · by_cases e2 : d = n
    · exact .inr e2
    · exfalso
      obtain ⟨c, hc⟩ := hd
      have hc1 : 2 ≤ c := by
        rcases c with _ | _ | c
        · omega
        · omega
        · omega
      have hd1 : 2 ≤ d := by
        rcases d with _ | _ | d
        · omega
        · omega
        · omega
      obtain ⟨p, p1, p2⟩ := prime_divisor c hc1
      obtain ⟨q, q1, q2⟩ := prime_divisor d hd1
      have h1 := hs p p1 (Nat.dvd_trans p2 (hc ▸ Nat.dvd_mul_left c d))
      have h2 := hs q q1 (Nat.dvd_trans q2 (hc ▸ Nat.dvd_mul_right d c))
      have l1 := Nat.le_of_dvd (by omega) p2
      have l2 := Nat.le_of_dvd (by omega) q2
      have m1 : p * p ≤ c * c := Nat.mul_le_mul l1 l1
      have m2 : q * q ≤ d * d := Nat.mul_le_mul l2 l2
      rcases Nat.le_total c d with k | k
      · have := Nat.mul_le_mul_right c k
        omega
      · have := Nat.mul_le_mul_left d k
        omega

/-- trial division -/
def trial (n : Nat) : Nat → Nat → Bool
  | 0, _ => true
  | k + 1, d => n % d != 0 && trial n k (d + 1)
theorem trial_spec (n : Nat) : ∀ k d, trial n k d = true → ∀ e, d ≤ e → e < d + k → ¬ e ∣ n
  | 0, d, _, e, h1, h2 => by omega
  | k + 1, d, h, e, h1, h2 => by
    rw [trial, Bool.and_eq_true] at h
    by_cases he : e = d
    · subst he
      intro hd
      have := Nat.mod_eq_zero_of_dvd hd
      simp [this] at h
    · exact trial_spec n k (d + 1) h.2 e (by omega) (by omega)
theorem prime_of_trial (n k : Nat) (h : 2 ≤ n) (hk : n < (k + 2) * (k + 2)) (ht : trial n k 2 = true) : IsPrime n := by
  refine prime_of_small n h fun p hp hd => ?_
  have h2 := hp.1
  rcases Nat.lt_or_ge p (2 + k) with l | l
  · exact absurd hd (trial_spec n k 2 ht p h2 l)
  · exact Nat.lt_of_lt_of_le hk (Nat.mul_le_mul (by omega) (by omega))

/-- powers modulo n, halving the exponent -/
def pm (n a : Nat) : Nat → Nat → Nat
  | 0, _ => 1 % n
  | k + 1, e => let h := pm n a k (e / 2); let s := h * h % n; if e % 2 = 1 then s * a % n else s
theorem pm_eq (n a : Nat) : ∀ k e, e < 2 ^ k → pm n a k e = a ^ e % n
  | 0, e, h => by
    obtain rfl : e = 0 := by simpa using h
    simp [pm]
  | k + 1, e, h => by
    have ih := pm_eq n a k (e / 2) (by rw [Nat.pow_succ] at h; omega)
    simp only [pm, ih]
    split
    · rename_i h1
      have he : e = 2 * (e / 2) + 1 := by omega
      conv => rhs; rw [he, Nat.pow_succ, Nat.two_mul, Nat.pow_add]
      rw [Nat.mod_mul_mod, Nat.mul_assoc, Nat.mod_mul_mod, Nat.mul_left_comm, Nat.mod_mul_mod, Nat.mul_assoc]
    · rename_i h1
      have he : e = 2 * (e / 2) := by omega
      conv => rhs; rw [he, Nat.two_mul, Nat.pow_add]
      rw [← Nat.mul_mod]

/-- Pocklington: a prime q with n - 1 = q r divides what is below each prime divisor of n -/
theorem pock {n q r a p : Nat} (hq : IsPrime q) (hn : n = q * r + 1) (h1 : a ^ (q * r) % n = 1 % n) (g : Nat) (hg : a ^ r % n = g + 1) (hc : Nat.gcd g n = 1) (hp : IsPrime p) (hd : p ∣ n) : q ∣ p - 1 := by
  apply Classical.byContradiction
  intro hno
  have hp2 := hp.1
  have hmod : ∀ x y, x % n = y % n → x % p = y % p := fun x y h => by
    obtain ⟨c, rfl⟩ := hd
    rw [← Nat.mod_mul_right_mod x p c, h, Nat.mod_mul_right_mod]
  have hpa : ¬ p ∣ a := fun h => by
    have h3 := hmod _ _ h1
    have h4 : p ∣ a ^ (q * r) := by
      rcases Nat.eq_zero_or_pos (q * r) with e | e
      · rw [e] at hn
        have := Nat.le_of_dvd (by omega) hd
        omega
      · obtain ⟨m, hm⟩ : ∃ m, q * r = m + 1 := ⟨q * r - 1, by omega⟩
        rw [hm, Nat.pow_succ]
        exact Nat.dvd_mul_left_of_dvd h _
    rw [Nat.mod_eq_zero_of_dvd h4, Nat.mod_eq_of_lt (by omega)] at h3
    omega
  have hb : ¬ p ∣ a ^ r := fun h => hpa (hp.euclid_pow r h)
  have f1 : (a ^ r) ^ q % p = 1 := by
    rw [← Nat.pow_mul, Nat.mul_comm r q, hmod _ _ h1, Nat.mod_eq_of_lt (by omega)]
  have f2 := fermat hp hb
  have hcop : Nat.Coprime q (p - 1) := hq.coprime _ hno
  have f3 : a ^ r % p = 1 := by
    generalize a ^ r = b at f1 f2
    have key : ∀ m, m ∣ q → True := fun _ _ => trivial
    -- the exponents that give 1 are closed under the greatest common divisor
    have main : ∀ x y, b ^ x % p = 1 → b ^ y % p = 1 → b ^ (Nat.gcd x y) % p = 1 := by
      intro x y
      induction x, y using Nat.gcd.induction with
      | H0 y => intro _ h; rwa [Nat.gcd_zero_left]
      | H1 x y hx ih =>
        intro h1 h2
        rw [Nat.gcd_rec]
        refine ih ?_ h1
        have e := Nat.div_add_mod y x
        have h3 : b ^ y % p = b ^ (y % x) % p := by
          conv => lhs; rw [← e, Nat.pow_add, Nat.pow_mul, Nat.mul_mod, Nat.pow_mod, h1, Nat.one_pow, Nat.mod_eq_of_lt (show 1 < p by omega), Nat.one_mul, Nat.mod_mod]
        rw [← h3, h2]
    have h := main q (p - 1) f1 f2
    rwa [hcop, Nat.pow_one] at h
  have f4 : (g + 1) % p = 1 := by
    have : a ^ r % p = (g + 1) % p := hmod _ _ (by rw [← hg, Nat.mod_mod])
    rw [← this, f3]
  have hdg : p ∣ g := by
    refine Nat.dvd_of_mod_eq_zero ?_
    have := Nat.add_mod g 1 p
    rw [f4, Nat.mod_eq_of_lt (show 1 < p by omega)] at this
    have hlt := Nat.mod_lt g (show 0 < p by omega)
    rcases Nat.lt_or_ge (g % p + 1) p with l | l
    · rw [Nat.mod_eq_of_lt l] at this
      omega
    · rw [show g % p + 1 = p by omega, Nat.mod_self] at this
      omega
  have := Nat.dvd_gcd hdg hd
  rw [hc, Nat.dvd_one] at this
  omega

end Primes
end Go.Proofs.Ytnopjjkijedpeaa

namespace Go.Proofs.Ytnopjjkijedpeaa
namespace PrimeP
open Primes FieldN

/-- the test, computed: n = q r + 1, a's powers modulo n -/
def cert (n q r a k : Nat) : Bool := n == q * r + 1 && decide (q * r < 2 ^ k) && pm n a k (q * r) == 1 % n && decide (1 ≤ pm n a k r) && Nat.gcd (pm n a k r - 1) n == 1
theorem cert_spec {n q r a k p : Nat} (hq : IsPrime q) (h : cert n q r a k = true) (hp : IsPrime p) (hd : p ∣ n) : q ∣ p - 1 := by
  simp only [cert, Bool.and_eq_true, beq_iff_eq, decide_eq_true_eq] at h
  obtain ⟨⟨⟨⟨h1, h2⟩, h3⟩, h4⟩, h5⟩ := h
  have hr : r < 2 ^ k := Nat.lt_of_le_of_lt (Nat.le_mul_of_pos_left r (by have := hq.1; omega)) h2
  rw [pm_eq n a k _ h2] at h3
  rw [pm_eq n a k _ hr] at h4 h5
  exact pock hq h1 h3 (a ^ r % n - 1) (by omega) h5 hp hd

theorem both_divide {q1 q2 m : Nat} (hc : Nat.gcd q1 q2 = 1) (h1 : q1 ∣ m) (h2 : q2 ∣ m) : q1 * q2 ∣ m := Nat.Coprime.mul_dvd_of_dvd_of_dvd hc h1 h2

theorem of_two {n q1 r1 a1 q2 r2 a2 k : Nat} (h2 : 2 ≤ n) (hq1 : IsPrime q1) (hq2 : IsPrime q2) (c1 : cert n q1 r1 a1 k = true) (c2 : cert n q2 r2 a2 k = true) (hc : Nat.gcd q1 q2 = 1) (hb : n < (q1 * q2 + 1) * (q1 * q2 + 1)) : IsPrime n := by
  refine prime_of_small n h2 fun p hp hd => ?_
  have h := both_divide hc (cert_spec hq1 c1 hp hd) (cert_spec hq2 c2 hp hd)
  have hp2 := hp.1
  have hle := Nat.le_of_dvd (by omega) h
  exact Nat.lt_of_lt_of_le hb (Nat.mul_le_mul (by omega) (by omega))
theorem of_one {n q r a k : Nat} (h2 : 2 ≤ n) (hq : IsPrime q) (c : cert n q r a k = true) (hb : n < (q + 1) * (q + 1)) : IsPrime n := by
  refine prime_of_small n h2 fun p hp hd => ?_
  have h := cert_spec hq c hp hd
  have hp2 := hp.1
  have hle := Nat.le_of_dvd (by omega) h
  exact Nat.lt_of_lt_of_le hb (Nat.mul_le_mul (by omega) (by omega))

theorem p127 : IsPrime 127 := prime_of_trial _ 20 (by omega) (by omega) (by decide +kernel)
theorem p57467 : IsPrime 57467 := prime_of_trial _ 300 (by omega) (by omega) (by decide +kernel)
theorem p75707 : IsPrime 75707 := prime_of_trial _ 300 (by omega) (by omega) (by decide +kernel)
theorem p8574133 : IsPrime 8574133 := prime_of_trial _ 3000 (by omega) (by omega) (by decide +kernel)
theorem p51 : IsPrime 1919519569386763 := of_two (by decide +kernel) p8574133 p127 (c1 := (by decide +kernel : cert 1919519569386763 8574133 223873314 2 60 = true)) (c2 := (by decide +kernel : cert 1919519569386763 127 15114327318006 2 60 = true)) (by decide +kernel) (by decide +kernel)
theorem p116 : IsPrime 75445702479781427272750846543864801 := of_two (by decide +kernel) p51 p75707 (c1 := (by decide +kernel : cert 75445702479781427272750846543864801 1919519569386763 39304471641247389600 2 120 = true)) (c2 := (by decide +kernel : cert 75445702479781427272750846543864801 75707 996548568557483816196003626400 2 120 = true)) (by decide +kernel) (by decide +kernel)
theorem p236 : IsPrime 74058212732561358302231226437062788676166966415465897661863160754340907 := of_two (by decide +kernel) p116 p57467 (c1 := (by decide +kernel : cert 74058212732561358302231226437062788676166966415465897661863160754340907 75445702479781427272750846543864801 981609426360740691344999861639072106 2 240 = true)) (c2 := (by decide +kernel : cert 74058212732561358302231226437062788676166966415465897661863160754340907 57467 1288708523719027586305727224964984924846728842909250485702458119518 2 240 = true)) (by decide +kernel) (by decide +kernel)
theorem prime_lit : IsPrime 57896044618658097711785492504343953926634992332820282019728792003956564819949 := of_one (by decide +kernel) p236 (by decide +kernel : cert 57896044618658097711785492504343953926634992332820282019728792003956564819949 74058212732561358302231226437062788676166966415465897661863160754340907 781764 2 256 = true) (by decide +kernel)
theorem prime_P : IsPrime P := by
  unfold P
  exact prime_lit

/-- what is not 0 times its inverse is 1 -/
theorem inv_mul {a : Nat} (ha : a < P) (h0 : a ≠ 0) : a * (a ^ (P - 2) % P) % P = 1 := by
  have h := fermat prime_P (x := a) (fun h => by
    have := Nat.le_of_dvd (by omega) h
    omega)
  rw [Nat.mul_mod_mod, Nat.mul_comm, ← Nat.pow_succ, show (P - 2).succ = P - 1 by have := P_big; omega, h]

theorem inv_ne {a : Nat} (ha : a < P) (h0 : a ≠ 0) : a ^ (P - 2) % P ≠ 0 := fun e => by
  have h := inv_mul ha h0
  rw [e, Nat.mul_zero, Nat.zero_mod] at h
  omega

theorem inv_inv {a : Nat} (ha : a < P) (h0 : a ≠ 0) : (a ^ (P - 2) % P) ^ (P - 2) % P = a := by
  have h1 := inv_mul ha h0
  have hne := inv_ne ha h0
  have hlt : a ^ (P - 2) % P < P := Nat.mod_lt _ P_pos
  generalize a ^ (P - 2) % P = u at h1 hne hlt
  have h2 := inv_mul hlt hne
  have ht : u ^ (P - 2) % P < P := Nat.mod_lt _ P_pos
  generalize u ^ (P - 2) % P = t at h2 ht
  have h4 : u * t * a % P = a := by rw [Nat.mul_mod, h2, Nat.one_mul, Nat.mod_mod, Nat.mod_eq_of_lt ha]
  have h5 : u * t * a % P = t := by rw [show u * t * a = t * (a * u) by ac_rfl, ← Nat.mul_mod_mod t (a * u), h1, Nat.mul_one, Nat.mod_eq_of_lt ht]
  rw [← h5, h4]

end PrimeP
end Go.Proofs.Ytnopjjkijedpeaa

namespace Go.Proofs.Ytnopjjkijedpeaa
namespace PrimeP
open Primes

theorem p1224481 : IsPrime 1224481 := prime_of_trial _ 1200 (by omega) (by omega) (by decide +kernel)
theorem p531581 : IsPrime 531581 := prime_of_trial _ 800 (by omega) (by omega) (by decide +kernel)
theorem p50 : IsPrime 1257559732178653 := of_two (by decide +kernel) p1224481 p531581 (c1 := (by decide +kernel : cert 1257559732178653 1224481 1027014492 2 60 = true)) (c2 := (by decide +kernel : cert 1257559732178653 531581 2365697292 2 60 = true)) (by decide +kernel) (by decide +kernel)
theorem p62 : IsPrime 4434155615661930479 := of_one (by decide +kernel) p50 (by decide +kernel : cert 4434155615661930479 1257559732178653 3526 2 70 = true) (by decide +kernel)
theorem p87 : IsPrime 172054593956031949258510691 := of_one (by decide +kernel) p62 (by decide +kernel : cert 172054593956031949258510691 4434155615661930479 38802110 2 100 = true) (by decide +kernel)
theorem p134 : IsPrime 19757330305831588566944191468367130476339 := of_one (by decide +kernel) p87 (by decide +kernel : cert 19757330305831588566944191468367130476339 172054593956031949258510691 114831751082918 2 140 = true) (by decide +kernel)
theorem p138 : IsPrime 276602624281642239937218680557139826668747 := of_one (by decide +kernel) p134 (by decide +kernel : cert 276602624281642239937218680557139826668747 19757330305831588566944191468367130476339 14 2 150 = true) (by decide +kernel)
theorem prime_l : IsPrime 7237005577332262213973186563042994240857116359379907606001950938285454250989 := of_one (by decide +kernel) p138 (by decide +kernel : cert 7237005577332262213973186563042994240857116359379907606001950938285454250989 276602624281642239937218680557139826668747 26163907866482859529727157400808004 2 256 = true) (by decide +kernel)

end PrimeP
end Go.Proofs.Ytnopjjkijedpeaa

namespace Go.Proofs.Ytnopjjkijedpeaa
namespace Edwards

/-- what a field of p numbers has, and a number d that is no square in it -/
structure Ctx (p : Nat) [NeZero p] where
  d : Fin p
  iv : Fin p → Fin p
  dom : ∀ a b : Fin p, a * b = 0 → a = 0 ∨ b = 0
  inv : ∀ a : Fin p, a ≠ 0 → a * iv a = 1
  one : (1 : Fin p) ≠ 0
  two : (2 : Fin p) ≠ 0
  non : ∀ x y : Fin p, x * x = d * (y * y) → y = 0

structure Pt (p : Nat) where
  x : Fin p
  y : Fin p

/-! ### identities -/
section
variable {p : Nat} [NeZero p]

def OnE (d x y : Fin p) : Prop := x * x + y * y = 1 + d * (x * x) * (y * y)

theorem id_plus (d x1 y1 x2 y2 e : Fin p) (h1 : x1 * x1 + y1 * y1 = 1 + d * (x1 * x1) * (y1 * y1)) (h2 : x2 * x2 + y2 * y2 = 1 + d * (x2 * x2) * (y2 * y2)) (he : e * e = 1) (h : d * x1 * x2 * y1 * y2 = e) :
    (x1 + e * y1) * (x1 + e * y1) = d * ((x1 * y1 * (x2 + y2)) * (x1 * y1 * (x2 + y2))) := by grind
theorem id_minus (d x1 y1 x2 y2 e : Fin p) (h1 : x1 * x1 + y1 * y1 = 1 + d * (x1 * x1) * (y1 * y1)) (h2 : x2 * x2 + y2 * y2 = 1 + d * (x2 * x2) * (y2 * y2)) (he : e * e = 1) (h : d * x1 * x2 * y1 * y2 = e) :
    (x1 - e * y1) * (x1 - e * y1) = d * ((x1 * y1 * (x2 - y2)) * (x1 * y1 * (x2 - y2))) := by grind
theorem id_closed (d x1 y1 x2 y2 : Fin p) (h1 : x1 * x1 + y1 * y1 = 1 + d * (x1 * x1) * (y1 * y1)) (h2 : x2 * x2 + y2 * y2 = 1 + d * (x2 * x2) * (y2 * y2)) :
    (x1 * y2 + x2 * y1) * (x1 * y2 + x2 * y1) * ((1 - d * x1 * x2 * y1 * y2) * (1 - d * x1 * x2 * y1 * y2)) + (y1 * y2 - x1 * x2) * (y1 * y2 - x1 * x2) * ((1 + d * x1 * x2 * y1 * y2) * (1 + d * x1 * x2 * y1 * y2)) =
    (1 + d * x1 * x2 * y1 * y2) * (1 + d * x1 * x2 * y1 * y2) * ((1 - d * x1 * x2 * y1 * y2) * (1 - d * x1 * x2 * y1 * y2)) + d * ((x1 * y2 + x2 * y1) * (x1 * y2 + x2 * y1)) * ((y1 * y2 - x1 * x2) * (y1 * y2 - x1 * x2)) := by grind
theorem id_assoc_x (d x1 y1 x2 y2 x3 y3 : Fin p) (h1 : x1 * x1 + y1 * y1 = 1 + d * (x1 * x1) * (y1 * y1)) (h2 : x2 * x2 + y2 * y2 = 1 + d * (x2 * x2) * (y2 * y2)) (h3 : x3 * x3 + y3 * y3 = 1 + d * (x3 * x3) * (y3 * y3)) :
    ((x1 * y2 + x2 * y1) * (1 - d * x1 * x2 * y1 * y2) * y3 + x3 * ((y1 * y2 - x1 * x2) * (1 + d * x1 * x2 * y1 * y2))) * ((1 + d * x2 * x3 * y2 * y3) * (1 - d * x2 * x3 * y2 * y3) + d * x1 * y1 * ((x2 * y3 + x3 * y2) * (y2 * y3 - x2 * x3))) =
    (x1 * ((y2 * y3 - x2 * x3) * (1 + d * x2 * x3 * y2 * y3)) + (x2 * y3 + x3 * y2) * (1 - d * x2 * x3 * y2 * y3) * y1) * ((1 + d * x1 * x2 * y1 * y2) * (1 - d * x1 * x2 * y1 * y2) + d * x3 * y3 * ((x1 * y2 + x2 * y1) * (y1 * y2 - x1 * x2))) := by grind
theorem id_assoc_y (d x1 y1 x2 y2 x3 y3 : Fin p) (h1 : x1 * x1 + y1 * y1 = 1 + d * (x1 * x1) * (y1 * y1)) (h2 : x2 * x2 + y2 * y2 = 1 + d * (x2 * x2) * (y2 * y2)) (h3 : x3 * x3 + y3 * y3 = 1 + d * (x3 * x3) * (y3 * y3)) :
    ((y1 * y2 - x1 * x2) * (1 + d * x1 * x2 * y1 * y2) * y3 - (x1 * y2 + x2 * y1) * (1 - d * x1 * x2 * y1 * y2) * x3) * ((1 + d * x2 * x3 * y2 * y3) * (1 - d * x2 * x3 * y2 * y3) - d * x1 * y1 * ((x2 * y3 + x3 * y2) * (y2 * y3 - x2 * x3))) =
    (y1 * ((y2 * y3 - x2 * x3) * (1 + d * x2 * x3 * y2 * y3)) - x1 * ((x2 * y3 + x3 * y2) * (1 - d * x2 * x3 * y2 * y3))) * ((1 + d * x1 * x2 * y1 * y2) * (1 - d * x1 * x2 * y1 * y2) - d * x3 * y3 * ((x1 * y2 + x2 * y1) * (y1 * y2 - x1 * x2))) := by grind
theorem id_diff (d x1 y1 x2 y2 : Fin p) (h1 : x1 * x1 + y1 * y1 = 1 + d * (x1 * x1) * (y1 * y1)) (h2 : x2 * x2 + y2 * y2 = 1 + d * (x2 * x2) * (y2 * y2)) :
    ((1 - d * x1 * x2 * y1 * y2) + (y1 * y2 - x1 * x2)) * ((1 + d * x1 * x2 * y1 * y2) + (y1 * y2 + x1 * x2)) * ((y1 - y2) * (y1 - y2)) =
    ((1 - d * x1 * x2 * y1 * y2) - (y1 * y2 - x1 * x2)) * ((1 + d * x1 * x2 * y1 * y2) - (y1 * y2 + x1 * x2)) * ((y1 + y2) * (y1 + y2)) := by grind
theorem id_frac_closed (d x1 y1 x2 y2 x3 y3 s t : Fin p) (hx : x3 * s = x1 * y2 + x2 * y1) (hy : y3 * t = y1 * y2 - x1 * x2)
    (h : (x1 * y2 + x2 * y1) * (x1 * y2 + x2 * y1) * (t * t) + (y1 * y2 - x1 * x2) * (y1 * y2 - x1 * x2) * (s * s) = s * s * (t * t) + d * ((x1 * y2 + x2 * y1) * (x1 * y2 + x2 * y1)) * ((y1 * y2 - x1 * x2) * (y1 * y2 - x1 * x2))) :
    (x3 * x3 + y3 * y3) * (s * s * (t * t)) = (1 + d * (x3 * x3) * (y3 * y3)) * (s * s * (t * t)) := by
  rw [← hx, ← hy] at h
  clear hx hy
  grind
end

section
variable {p : Nat} [NeZero p]

def On (C : Ctx p) (P : Pt p) : Prop := P.x * P.x + P.y * P.y = 1 + C.d * (P.x * P.x) * (P.y * P.y)

theorem Ctx.dom3 (C : Ctx p) {a b : Fin p} (h : a * b = 0) (hb : b ≠ 0) : a = 0 := (C.dom a b h).elim id (fun e => absurd e hb)
theorem sub_mul' (a b c : Fin p) (h : a * c = b * c) : (a - b) * c = 0 := by grind
theorem eq_of_sub (a b : Fin p) (h : a - b = 0) : a = b := by grind
theorem Ctx.cancel (C : Ctx p) {a b c : Fin p} (hc : c ≠ 0) (h : a * c = b * c) : a = b := eq_of_sub a b (C.dom3 (sub_mul' a b c h) hc)
theorem Ctx.mul_ne (C : Ctx p) {a b : Fin p} (ha : a ≠ 0) (hb : b ≠ 0) : a * b ≠ 0 := fun h => (C.dom a b h).elim ha hb

theorem no_e (x1 y1 e d x2 y2 : Fin p) (h0 : x1 * y1 = 0) (h : d * x1 * x2 * y1 * y2 = e) (he : e * e = 1) : (1 : Fin p) = 0 := by
  have : e = 0 := by
    rw [← h, show d * x1 * x2 * y1 * y2 = d * x2 * y2 * (x1 * y1) by grind, h0]
    grind
  rw [← he, this]
  grind
theorem both_zero (x y : Fin p) (h1 : x + y = 0) (h2 : x - y = 0) : 2 * x = 0 ∧ y = -x := by
  constructor <;> grind
theorem one_zero (d : Fin p) (h2 : (0 : Fin p) * 0 + 0 * 0 = 1 + d * (0 * 0) * (0 * 0)) : (1 : Fin p) = 0 := by grind

/-- both denominators are not 0 -/
theorem complete (C : Ctx p) {P Q : Pt p} (hP : On C P) (hQ : On C Q) (e : Fin p) (he : e * e = 1) : C.d * P.x * Q.x * P.y * Q.y ≠ e := by
  intro h
  obtain ⟨x1, y1⟩ := P
  obtain ⟨x2, y2⟩ := Q
  simp only [On] at hP hQ h
  have h3 := C.non _ _ (id_plus C.d x1 y1 x2 y2 e hP hQ he h)
  have h4 := C.non _ _ (id_minus C.d x1 y1 x2 y2 e hP hQ he h)
  have hxy : x1 * y1 ≠ 0 := fun h0 => C.one (no_e x1 y1 e C.d x2 y2 h0 h he)
  have h5 : x2 + y2 = 0 := (C.dom _ _ h3).elim (fun e => absurd e hxy) id
  have h6 : x2 - y2 = 0 := (C.dom _ _ h4).elim (fun e => absurd e hxy) id
  obtain ⟨h7, h8⟩ := both_zero x2 y2 h5 h6
  have h9 : x2 = 0 := (C.dom _ _ h7).elim (fun e => absurd e C.two) id
  have h10 : y2 = 0 := by
    rw [h8, h9]
    grind
  rw [h9, h10] at hQ
  exact C.one (one_zero C.d hQ)

def add (C : Ctx p) (P Q : Pt p) : Pt p :=
  ⟨(P.x * Q.y + Q.x * P.y) * C.iv (1 + C.d * P.x * Q.x * P.y * Q.y), (P.y * Q.y - P.x * Q.x) * C.iv (1 - C.d * P.x * Q.x * P.y * Q.y)⟩
def O : Pt p := ⟨0, 1⟩
def neg (P : Pt p) : Pt p := ⟨-P.x, P.y⟩

theorem neg_one_sq : (-1 : Fin p) * -1 = 1 := by grind
theorem one_sq : (1 : Fin p) * 1 = 1 := by grind
theorem of_plus (a : Fin p) (h : 1 + a = 0) : a = -1 := by grind
theorem of_minus (a : Fin p) (h : 1 - a = 0) : a = 1 := by grind
theorem den_plus (C : Ctx p) {P Q : Pt p} (hP : On C P) (hQ : On C Q) : 1 + C.d * P.x * Q.x * P.y * Q.y ≠ 0 := fun h => complete C hP hQ (-1) neg_one_sq (of_plus _ h)
theorem den_minus (C : Ctx p) {P Q : Pt p} (hP : On C P) (hQ : On C Q) : 1 - C.d * P.x * Q.x * P.y * Q.y ≠ 0 := fun h => complete C hP hQ 1 one_sq (of_minus _ h)

theorem frac (n s i : Fin p) (h : s * i = 1) : n * i * s = n := by
  rw [show n * i * s = n * (s * i) by grind, h]
  grind
theorem add_x (C : Ctx p) {P Q : Pt p} (hP : On C P) (hQ : On C Q) : (add C P Q).x * (1 + C.d * P.x * Q.x * P.y * Q.y) = P.x * Q.y + Q.x * P.y := frac _ _ _ (C.inv _ (den_plus C hP hQ))
theorem add_y (C : Ctx p) {P Q : Pt p} (hP : On C P) (hQ : On C Q) : (add C P Q).y * (1 - C.d * P.x * Q.x * P.y * Q.y) = P.y * Q.y - P.x * Q.x := frac _ _ _ (C.inv _ (den_minus C hP hQ))

theorem on_O (C : Ctx p) : On C (O : Pt p) := by simp only [On, O]; grind
theorem on_neg (C : Ctx p) {P : Pt p} (h : On C P) : On C (neg P) := by
  obtain ⟨x, y⟩ := P
  simp only [On, neg] at *
  rw [show -x * -x = x * x by grind]
  exact h

theorem on_add (C : Ctx p) {P Q : Pt p} (hP : On C P) (hQ : On C Q) : On C (add C P Q) := by
  have hx := add_x C hP hQ
  have hy := add_y C hP hQ
  have h1 := den_plus C hP hQ
  have h2 := den_minus C hP hQ
  generalize add C P Q = R at hx hy ⊢
  obtain ⟨x1, y1⟩ := P
  obtain ⟨x2, y2⟩ := Q
  obtain ⟨x3, y3⟩ := R
  exact C.cancel (C.mul_ne (C.mul_ne h1 h1) (C.mul_ne h2 h2)) (id_frac_closed C.d x1 y1 x2 y2 x3 y3 _ _ hx hy (id_closed C.d x1 y1 x2 y2 hP hQ))

theorem add_comm (C : Ctx p) (P Q : Pt p) : add C P Q = add C Q P := by
  simp only [add]
  rw [show P.x * Q.y + Q.x * P.y = Q.x * P.y + P.x * Q.y by grind, show C.d * P.x * Q.x * P.y * Q.y = C.d * Q.x * P.x * Q.y * P.y by grind, show P.y * Q.y - P.x * Q.x = Q.y * P.y - Q.x * P.x by grind]

theorem add_zero (C : Ctx p) (P : Pt p) : add C P O = P := by
  have h := C.inv 1 C.one
  obtain ⟨x, y⟩ := P
  simp only [add, O, Pt.mk.injEq]
  rw [show 1 + C.d * x * 0 * y * 1 = 1 by grind, show 1 - C.d * x * 0 * y * 1 = 1 by grind, show x * 1 + 0 * y = x by grind, show y * 1 - x * 0 = y by grind]
  generalize C.iv 1 = i at h
  constructor <;> grind

/-- the sum of three, put together either way: the numerators over common denominators -/
theorem three_x (d x1 y1 x2 y2 x3 y3 u v X s t S : Fin p) (hu : u * s = x1 * y2 + x2 * y1) (hv : v * t = y1 * y2 - x1 * x2) (hX : X * (1 + d * u * x3 * v * y3) = u * y3 + x3 * v) (hS : S = s * t + d * x3 * y3 * ((x1 * y2 + x2 * y1) * (y1 * y2 - x1 * x2))) :
    X * S = (x1 * y2 + x2 * y1) * t * y3 + x3 * ((y1 * y2 - x1 * x2) * s) ∧ S = s * t * (1 + d * u * x3 * v * y3) := by
  subst hS
  rw [← hu, ← hv]
  have e : X * (s * t + d * x3 * y3 * (u * s * (v * t))) = X * (1 + d * u * x3 * v * y3) * (s * t) := by grind
  rw [e, hX]
  clear e hX hu hv
  constructor <;> grind
theorem three_y (d x1 y1 x2 y2 x3 y3 u v Y s t S : Fin p) (hu : u * s = x1 * y2 + x2 * y1) (hv : v * t = y1 * y2 - x1 * x2) (hY : Y * (1 - d * u * x3 * v * y3) = v * y3 - u * x3) (hS : S = s * t - d * x3 * y3 * ((x1 * y2 + x2 * y1) * (y1 * y2 - x1 * x2))) :
    Y * S = (y1 * y2 - x1 * x2) * s * y3 - (x1 * y2 + x2 * y1) * t * x3 ∧ S = s * t * (1 - d * u * x3 * v * y3) := by
  subst hS
  rw [← hu, ← hv]
  have e : Y * (s * t - d * x3 * y3 * (u * s * (v * t))) = Y * (1 - d * u * x3 * v * y3) * (s * t) := by grind
  rw [e, hY]
  clear e hY hu hv
  constructor <;> grind

theorem cross (X X' S S' n n' : Fin p) (h1 : X * S = n) (h2 : X' * S' = n') (h : n * S' = n' * S) : X * (S * S') = X' * (S * S') := by
  rw [← h1, ← h2] at h
  rw [show X * (S * S') = X * S * S' by grind, h]
  grind
theorem sum_comm (a b : Fin p) : a + b = b + a := by grind

theorem add_assoc (C : Ctx p) {P Q R : Pt p} (hP : On C P) (hQ : On C Q) (hR : On C R) : add C (add C P Q) R = add C P (add C Q R) := by
  have hPQ := on_add C hP hQ
  have hQR := on_add C hQ hR
  have ax := add_x C hP hQ
  have ay := add_y C hP hQ
  have bx := add_x C hQ hR
  have by_ := add_y C hQ hR
  have cx := add_x C hPQ hR
  have cy := add_y C hPQ hR
  have dx := add_x C hQR hP
  have dy := add_y C hQR hP
  have s1 := den_plus C hP hQ
  have t1 := den_minus C hP hQ
  have s2 := den_plus C hQ hR
  have t2 := den_minus C hQ hR
  have p1 := den_plus C hPQ hR
  have m1 := den_minus C hPQ hR
  have p2 := den_plus C hQR hP
  have m2 := den_minus C hQR hP
  rw [add_comm C P (add C Q R)]
  generalize add C P Q = U at *
  generalize add C Q R = V at *
  generalize add C U R = L at *
  generalize add C V P = M at *
  obtain ⟨x1, y1⟩ := P
  obtain ⟨x2, y2⟩ := Q
  obtain ⟨x3, y3⟩ := R
  obtain ⟨u, v⟩ := U
  obtain ⟨u', v'⟩ := V
  obtain ⟨X, Y⟩ := L
  obtain ⟨X', Y'⟩ := M
  obtain ⟨h1, h2⟩ := three_x C.d x1 y1 x2 y2 x3 y3 u v X _ _ _ ax ay cx rfl
  obtain ⟨h3, h4⟩ := three_x C.d x2 y2 x3 y3 x1 y1 u' v' X' _ _ _ bx by_ dx rfl
  obtain ⟨k1, k2⟩ := three_y C.d x1 y1 x2 y2 x3 y3 u v Y _ _ _ ax ay cy rfl
  obtain ⟨k3, k4⟩ := three_y C.d x2 y2 x3 y3 x1 y1 u' v' Y' _ _ _ bx by_ dy rfl
  have ix := id_assoc_x C.d x1 y1 x2 y2 x3 y3 hP hQ hR
  have iy := id_assoc_y C.d x1 y1 x2 y2 x3 y3 hP hQ hR
  simp only [Pt.mk.injEq]
  constructor
  · refine C.cancel ?_ (cross X X' _ _ _ _ h1 h3 ?_)
    · refine C.mul_ne ?_ ?_
      · rw [h2]; exact C.mul_ne (C.mul_ne s1 t1) p1
      · rw [h4]; exact C.mul_ne (C.mul_ne s2 t2) p2
    · rw [sum_comm ((x2 * y3 + x3 * y2) * (1 - C.d * x2 * x3 * y2 * y3) * y1)]
      exact ix
  · refine C.cancel ?_ (cross Y Y' _ _ _ _ k1 k3 ?_)
    · refine C.mul_ne ?_ ?_
      · rw [k2]; exact C.mul_ne (C.mul_ne s1 t1) m1
      · rw [k4]; exact C.mul_ne (C.mul_ne s2 t2) m2
    · rw [show (y2 * y3 - x2 * x3) * (1 + C.d * x2 * x3 * y2 * y3) * y1 - (x2 * y3 + x3 * y2) * (1 - C.d * x2 * x3 * y2 * y3) * x1 = y1 * ((y2 * y3 - x2 * x3) * (1 + C.d * x2 * x3 * y2 * y3)) - x1 * ((x2 * y3 + x3 * y2) * (1 - C.d * x2 * x3 * y2 * y3)) by grind]
      exact iy

/-! ### multiples -/
def mu (C : Ctx p) (P : Pt p) : Nat → Pt p
  | 0 => O
  | n + 1 => add C (mu C P n) P
theorem on_mu (C : Ctx p) {P : Pt p} (h : On C P) : ∀ n, On C (mu C P n)
  | 0 => on_O C
  | n + 1 => on_add C (on_mu C h n) h
theorem mu_add (C : Ctx p) {P : Pt p} (h : On C P) (m : Nat) : ∀ n, mu C P (m + n) = add C (mu C P m) (mu C P n)
  | 0 => (add_zero C _).symm
  | n + 1 => by
    rw [show m + (n + 1) = m + n + 1 from rfl, mu, mu_add C h m n, add_assoc C (on_mu C h m) (on_mu C h n) h]
    rfl
theorem zero_add (C : Ctx p) (P : Pt p) : add C O P = P := by rw [add_comm, add_zero]
theorem mu_one (C : Ctx p) (P : Pt p) : mu C P 1 = P := zero_add C P
theorem mu_mul (C : Ctx p) {P : Pt p} (h : On C P) (m : Nat) : ∀ n, mu C (mu C P m) n = mu C P (m * n)
  | 0 => rfl
  | n + 1 => by rw [mu, mu_mul C h m n, Nat.mul_succ, mu_add C h]
theorem mu_O (C : Ctx p) : ∀ n, mu C (O : Pt p) n = O
  | 0 => rfl
  | n + 1 => by rw [mu, mu_O C n, add_zero]

end
end Edwards
end Go.Proofs.Ytnopjjkijedpeaa

namespace Go.Proofs.Ytnopjjkijedpeaa
namespace Edwards

section
variable {p : Nat} [NeZero p]

/-! ### points of one y -/
theorem Ctx.one_dy (C : Ctx p) (y : Fin p) : 1 - C.d * (y * y) ≠ 0 := fun h => by
  have h1 : (1 : Fin p) * 1 = C.d * (y * y) := by
    rw [show (1 : Fin p) * 1 = 1 - C.d * (y * y) + C.d * (y * y) by grind, h]
    grind
  have h2 := C.non 1 y h1
  rw [h2] at h
  exact C.one (by
    rw [show (1 : Fin p) = 1 - C.d * (0 * 0) by grind]
    exact h)
theorem sq_id (d x y : Fin p) (h : x * x + y * y = 1 + d * (x * x) * (y * y)) : x * x * (1 - d * (y * y)) = 1 - y * y := by grind
theorem sq_of (C : Ctx p) {P : Pt p} (h : On C P) : P.x * P.x * (1 - C.d * (P.y * P.y)) = 1 - P.y * P.y := sq_id C.d P.x P.y h
theorem diff_sq (a b : Fin p) (h : a * a = b * b) : (a - b) * (a + b) = 0 := by grind
theorem neg_of_add (a b : Fin p) (h : a + b = 0) : a = -b := by grind
theorem same_y (C : Ctx p) {P Q : Pt p} (hP : On C P) (hQ : On C Q) (h : P.y = Q.y) : P = Q ∨ P = neg Q := by
  have h1 := sq_of C hP
  have h2 := sq_of C hQ
  obtain ⟨x, y⟩ := P
  obtain ⟨x', y'⟩ := Q
  simp only at h h1 h2
  subst h
  have h3 : x * x = x' * x' := C.cancel (C.one_dy y) (by rw [h1, h2])
  rcases C.dom _ _ (diff_sq x x' h3) with e | e
  · left
    rw [eq_of_sub _ _ e]
  · right
    simp only [neg, Pt.mk.injEq]
    exact ⟨neg_of_add _ _ e, trivial⟩

theorem neg_mul_iv (a b i : Fin p) (h : a = -b) : a * i = -(b * i) := by grind
theorem add_neg_neg (C : Ctx p) (P Q : Pt p) : add C (neg P) (neg Q) = neg (add C P Q) := by
  obtain ⟨x1, y1⟩ := P
  obtain ⟨x2, y2⟩ := Q
  simp only [add, neg, Pt.mk.injEq]
  rw [show C.d * -x1 * -x2 * y1 * y2 = C.d * x1 * x2 * y1 * y2 by grind, show -x1 * -x2 = x1 * x2 by grind]
  exact ⟨neg_mul_iv _ _ _ (by grind), rfl⟩
theorem neg_O : neg (O : Pt p) = O := by
  simp only [neg, O, Pt.mk.injEq]
  exact ⟨by grind, trivial⟩
theorem mu_neg (C : Ctx p) (P : Pt p) : ∀ n, mu C (neg P) n = neg (mu C P n)
  | 0 => neg_O.symm
  | n + 1 => by rw [mu, mu_neg C P n, add_neg_neg]; rfl
theorem mu_y (C : Ctx p) {P Q : Pt p} (hP : On C P) (hQ : On C Q) (h : P.y = Q.y) (n : Nat) : (mu C P n).y = (mu C Q n).y := by
  rcases same_y C hP hQ h with e | e
  · rw [e]
  · rw [e, mu_neg]
    rfl
theorem add_neg (C : Ctx p) {P : Pt p} (h : On C P) : add C P (neg P) = O := by
  have h1 := C.inv _ (den_minus C h (on_neg C h))
  have hc := h
  obtain ⟨x, y⟩ := P
  simp only [add, neg, O, Pt.mk.injEq, On] at *
  have e : y * y - x * -x = 1 - C.d * x * -x * y * y := by
    rw [show y * y - x * -x = x * x + y * y by grind, hc]
    grind
  rw [e, h1, show x * y + -x * y = 0 by grind]
  exact ⟨by grind, rfl⟩

/-! ### what X and Z tell -/
def Rep (X Z y : Fin p) : Prop := X - Z = y * (X + Z) ∧ X + Z ≠ 0

theorem dbl_ne (d k x y w : Fin p) (hx : x * x = (1 - y * y) * w) (hw : w * (1 - d * (y * y)) = 1) (hk : (k + 1) * d = k) :
    1 + k * ((1 - y * y) * (1 - y * y)) = (k + 1) * ((1 - d * (y * y)) * (1 - d * (x * x) * (y * y))) := by
  rw [hx]
  grind
theorem dbl_id (d k x y w : Fin p) (hx : x * x = (1 - y * y) * w) (hw : w * (1 - d * (y * y)) = 1) (hk : (k + 1) * d = k) :
    (y * y - (1 - y * y) * (1 + k * (1 - y * y))) * (1 - d * (x * x) * (y * y)) = (y * y - x * x) * (1 + k * ((1 - y * y) * (1 - y * y))) := by
  rw [hx]
  grind
theorem dbl_sum (a y k : Fin p) : a * a * (y * a * (y * a)) + (a * a - y * a * (y * a)) * (a * a + k * (a * a - y * a * (y * a))) = a * a * (a * a) * (1 + k * ((1 - y * y) * (1 - y * y))) := by grind
theorem dbl_dif (a y k : Fin p) : a * a * (y * a * (y * a)) - (a * a - y * a * (y * a)) * (a * a + k * (a * a - y * a * (y * a))) = a * a * (a * a) * (y * y - (1 - y * y) * (1 + k * (1 - y * y))) := by grind
theorem fin_step (A N D S y3 M : Fin p) (hM : y3 * D = M) (h : N * D = M * S) : A * N * D = y3 * (A * S) * D := by
  rw [show y3 * (A * S) * D = A * (y3 * D * S) by grind, hM, ← h]
  grind

theorem Rep.double (C : Ctx p) (k : Fin p) (hk : (k + 1) * C.d = k) (hk1 : k + 1 ≠ 0) {P : Pt p} (hP : On C P) {X Z : Fin p} (h : Rep X Z P.y) :
    Rep ((X + Z) * (X + Z) * ((X - Z) * (X - Z))) (((X + Z) * (X + Z) - (X - Z) * (X - Z)) * ((X + Z) * (X + Z) + k * ((X + Z) * (X + Z) - (X - Z) * (X - Z)))) (add C P P).y := by
  obtain ⟨h1, h2⟩ := h
  have hy := add_y C hP hP
  have hm := den_minus C hP hP
  have hs := sq_of C hP
  have hd := C.one_dy P.y
  have hw := C.inv _ hd
  generalize (add C P P).y = y3 at hy ⊢
  obtain ⟨x, y⟩ := P
  simp only at h1 hy hm hs hd hw
  generalize C.iv (1 - C.d * (y * y)) = w at hw
  have hw' : w * (1 - C.d * (y * y)) = 1 := by rw [← hw]; grind
  have hx : x * x = (1 - y * y) * w := by
    rw [← hs, show x * x * (1 - C.d * (y * y)) * w = x * x * ((1 - C.d * (y * y)) * w) by grind, hw]
    grind
  have hD : 1 - C.d * x * x * y * y = 1 - C.d * (x * x) * (y * y) := by grind
  rw [hD] at hy hm
  have hne := dbl_ne C.d k x y w hx hw' hk
  have hid := dbl_id C.d k x y w hx hw' hk
  rw [h1]
  generalize X + Z = a at h2
  refine ⟨?_, ?_⟩
  · rw [dbl_sum, dbl_dif]
    exact C.cancel hm (fin_step _ _ _ _ _ _ hy hid)
  · rw [dbl_sum, hne]
    exact C.mul_ne (C.mul_ne (C.mul_ne h2 h2) (C.mul_ne h2 h2)) (C.mul_ne hk1 (C.mul_ne hd hm))

theorem of_one_y (y1 x1 : Fin p) (hy : 1 - y1 = 0) (hx : x1 * (1 - y1) = 1 + y1) : (2 : Fin p) = 0 := by
  rw [hy] at hx
  grind
theorem of_minus_y (y1 x1 : Fin p) (hy : y1 = -1) (hx : x1 * (1 - y1) = 1 + y1) : x1 * 2 = 0 := by
  rw [hy] at hx
  grind
theorem four (a b : Fin p) (h1 : a + b = 0) (h2 : a - b = 0) : 2 * a = 0 ∧ 2 * b = 0 := by
  constructor <;> grind
theorem dif_parts (a2 a3 y2 y3 x1 : Fin p) : (y3 * a3 * a2 + a3 * (y2 * a2)) * (y3 * a3 * a2 + a3 * (y2 * a2)) = a2 * a3 * (a2 * a3) * ((y2 + y3) * (y2 + y3)) ∧ x1 * ((y3 * a3 * a2 - a3 * (y2 * a2)) * (y3 * a3 * a2 - a3 * (y2 * a2))) = a2 * a3 * (a2 * a3) * (x1 * ((y2 - y3) * (y2 - y3))) := by
  constructor <;> grind
theorem dif_main (x1 y1 y5 s m D y2 y3 : Fin p) (D' : Fin p) (h1 : y1 * D' = s) (h5 : y5 * D = m) (hx : x1 * (1 - y1) = 1 + y1)
    (h : (D + m) * (D' + s) * ((y2 - y3) * (y2 - y3)) = (D - m) * (D' - s) * ((y2 + y3) * (y2 + y3))) :
    ((1 - y5) * ((y2 + y3) * (y2 + y3))) * (D * (D' * (1 - y1))) = ((1 + y5) * (x1 * ((y2 - y3) * (y2 - y3)))) * (D * (D' * (1 - y1))) := by
  rw [← h1, ← h5] at h
  rw [show (1 + y5) * (x1 * ((y2 - y3) * (y2 - y3))) * (D * (D' * (1 - y1))) = (1 + y5) * (x1 * (1 - y1)) * ((y2 - y3) * (y2 - y3)) * (D * D') by grind, hx]
  clear h1 h5 hx
  grind
theorem rep_of (A B y A' : Fin p) (h : (1 - y) * A = (1 + y) * B) : A' * A - A' * B = y * (A' * A + A' * B) := by grind
theorem sq_zero (C : Ctx p) {a : Fin p} (h : a * a = 0) : a = 0 := (C.dom _ _ h).elim id id
theorem rep_zero (X Z y : Fin p) (h1 : X - Z = y * (X + Z)) (h2 : X + Z = 0) : 2 * X = 0 ∧ 2 * Z = 0 := by
  rw [h2] at h1
  constructor <;> grind
/-- the sum of two points whose difference is known -/
theorem Rep.sum (C : Ctx p) {A B Q : Pt p} (hA : On C A) (hB : On C B) (hQ : On C Q) (hd : B = add C A Q) {x1 X2 Z2 X3 Z3 : Fin p} (hx : x1 * (1 - Q.y) = 1 + Q.y) (hx1 : x1 ≠ 0) (h2 : Rep X2 Z2 A.y) (h3 : Rep X3 Z3 B.y) :
    Rep (((X3 - Z3) * (X2 + Z2) + (X3 + Z3) * (X2 - Z2)) * ((X3 - Z3) * (X2 + Z2) + (X3 + Z3) * (X2 - Z2))) (x1 * (((X3 - Z3) * (X2 + Z2) - (X3 + Z3) * (X2 - Z2)) * ((X3 - Z3) * (X2 + Z2) - (X3 + Z3) * (X2 - Z2)))) (add C A B).y := by
  obtain ⟨e2, n2⟩ := h2
  obtain ⟨e3, n3⟩ := h3
  have hq : add C B (neg A) = Q := by rw [hd, add_comm C A Q, add_assoc C hQ hA (on_neg C hA), add_neg C hA, add_zero]
  have hy5 := add_y C hA hB
  have hm := den_minus C hA hB
  have hy1 := add_y C hB (on_neg C hA)
  have hm1 := den_minus C hB (on_neg C hA)
  rw [hq] at hy1
  have hon2 := hA
  have hon3 := hB
  have h1y : 1 - Q.y ≠ 0 := fun e => C.two (of_one_y Q.y x1 e hx)
  generalize (add C A B).y = y5 at hy5 ⊢
  clear hd hq hQ
  obtain ⟨qx, y1⟩ := Q
  obtain ⟨x2, y2⟩ := A
  obtain ⟨x3, y3⟩ := B
  simp only [neg] at *
  have hD' : 1 - C.d * x3 * -x2 * y3 * y2 = 1 + C.d * x2 * x3 * y2 * y3 := by grind
  rw [hD', show y3 * y2 - x3 * -x2 = y2 * y3 + x2 * x3 by grind] at hy1
  rw [hD'] at hm1
  have hid := id_diff C.d x2 y2 x3 y3 hon2 hon3
  have main := C.cancel (C.mul_ne hm (C.mul_ne hm1 h1y)) (dif_main x1 y1 y5 _ _ _ y2 y3 _ hy1 hy5 hx hid)
  rw [e2, e3]
  generalize X2 + Z2 = a2 at n2
  generalize X3 + Z3 = a3 at n3
  obtain ⟨d1, d2⟩ := dif_parts a2 a3 y2 y3 x1
  rw [d1, d2]
  have hrep := rep_of ((y2 + y3) * (y2 + y3)) (x1 * ((y2 - y3) * (y2 - y3))) y5 (a2 * a3 * (a2 * a3)) main
  refine ⟨hrep, fun h0 => ?_⟩
  obtain ⟨z1, z2⟩ := rep_zero _ _ _ hrep h0
  have hne : a2 * a3 * (a2 * a3) ≠ 0 := C.mul_ne (C.mul_ne n2 n3) (C.mul_ne n2 n3)
  have w1 : (y2 + y3) * (y2 + y3) = 0 := by
    rcases C.dom _ _ z1 with e | e
    · exact absurd e C.two
    · exact (C.dom _ _ e).elim (fun e => absurd e hne) id
  have w2 : (y2 - y3) * (y2 - y3) = 0 := by
    rcases C.dom _ _ z2 with e | e
    · exact absurd e C.two
    · rcases C.dom _ _ e with e | e
      · exact absurd e hne
      · exact (C.dom _ _ e).elim (fun e => absurd e hx1) id
  obtain ⟨v1, v2⟩ := four y2 y3 (sq_zero C w1) (sq_zero C w2)
  have u2 : y2 = 0 := (C.dom _ _ v1).elim (fun e => absurd e C.two) id
  have u3 : y3 = 0 := (C.dom _ _ v2).elim (fun e => absurd e C.two) id
  subst u2 u3
  -- both points are (1, 0) or (-1, 0): their difference is 1 or -1
  have q2 : x2 * x2 = 1 := by
    have := hon2
    simp only [On] at this
    rw [show x2 * x2 = x2 * x2 + 0 * 0 by grind, this]
    grind
  have q3 : x3 * x3 = 1 := by
    have := hon3
    simp only [On] at this
    rw [show x3 * x3 = x3 * x3 + 0 * 0 by grind, this]
    grind
  have hy1' : y1 = x2 * x3 := by
    rw [show y1 * (1 + C.d * x2 * x3 * 0 * 0) = y1 by grind, show (0 : Fin p) * 0 + x2 * x3 = x2 * x3 by grind] at hy1
    exact hy1
  have hsq : y1 * y1 = 1 * 1 := by
    rw [hy1', show x2 * x3 * (x2 * x3) = x2 * x2 * (x3 * x3) by grind, q2, q3]
  rcases C.dom _ _ (diff_sq y1 1 hsq) with e | e
  · apply h1y
    rw [eq_of_sub _ _ e]
    grind
  · have h0 := of_minus_y y1 x1 (neg_of_add _ _ e) hx
    exact (C.dom _ _ h0).elim hx1 C.two

end
end Edwards
end Go.Proofs.Ytnopjjkijedpeaa

namespace Go.Proofs.Ytnopjjkijedpeaa
namespace Edwards

section
variable {p : Nat} [NeZero p]

/-- the pairs on their way -/
structure Four (p : Nat) where
  x2 : Fin p
  z2 : Fin p
  x3 : Fin p
  z3 : Fin p

/-- one step, behind the change of places -/
def stepF (k x1 : Fin p) (s : Four p) : Four p :=
  ⟨(s.x2 + s.z2) * (s.x2 + s.z2) * ((s.x2 - s.z2) * (s.x2 - s.z2)),
   ((s.x2 + s.z2) * (s.x2 + s.z2) - (s.x2 - s.z2) * (s.x2 - s.z2)) * ((s.x2 + s.z2) * (s.x2 + s.z2) + k * ((s.x2 + s.z2) * (s.x2 + s.z2) - (s.x2 - s.z2) * (s.x2 - s.z2))),
   ((s.x3 - s.z3) * (s.x2 + s.z2) + (s.x3 + s.z3) * (s.x2 - s.z2)) * ((s.x3 - s.z3) * (s.x2 + s.z2) + (s.x3 + s.z3) * (s.x2 - s.z2)),
   x1 * (((s.x3 - s.z3) * (s.x2 + s.z2) - (s.x3 + s.z3) * (s.x2 - s.z2)) * ((s.x3 - s.z3) * (s.x2 + s.z2) - (s.x3 + s.z3) * (s.x2 - s.z2)))⟩
def swapF (s : Four p) : Four p := ⟨s.x3, s.z3, s.x2, s.z2⟩
def roundF (k x1 : Fin p) (b : Nat) (s : Four p) : Four p := if b = 1 then swapF (stepF k x1 (swapF s)) else stepF k x1 s
def startF (x1 : Fin p) : Four p := ⟨1, 0, x1, 1⟩
/-- behind the first i of m digits of a number, the greatest first -/
def ladF (k x1 : Fin p) (N m : Nat) : Nat → Four p
  | 0 => startF x1
  | i + 1 => roundF k x1 (N / 2 ^ (m - (i + 1)) % 2) (ladF k x1 N m i)

theorem start_id (x1 y : Fin p) (h : x1 * (1 - y) = 1 + y) : x1 - 1 = y * (x1 + 1) := by grind
theorem start_two (x1 y : Fin p) (h : x1 * (1 - y) = 1 + y) (h0 : x1 + 1 = 0) : (2 : Fin p) = 0 := by
  have e : x1 = -1 := by grind
  rw [e] at h
  grind
theorem swap_sq (a b c e : Fin p) : (a * b + c * e) * (a * b + c * e) = (e * c + b * a) * (e * c + b * a) ∧ (a * b - c * e) * (a * b - c * e) = (e * c - b * a) * (e * c - b * a) := by
  constructor <;> grind

/-- what both pairs tell of a number -/
def Tell (C : Ctx p) (P : Pt p) (n : Nat) (s : Four p) : Prop := Rep s.x2 s.z2 (mu C P n).y ∧ Rep s.x3 s.z3 (mu C P (n + 1)).y

theorem round_tell (C : Ctx p) (k : Fin p) (hk : (k + 1) * C.d = k) (hk1 : k + 1 ≠ 0) {P : Pt p} (hP : On C P) {x1 : Fin p} (hx : x1 * (1 - P.y) = 1 + P.y) (hx1 : x1 ≠ 0) (n b : Nat) (hb : b < 2) {s : Four p} (h : Tell C P n s) :
    Tell C P (2 * n + b) (roundF k x1 b s) := by
  obtain ⟨h2, h3⟩ := h
  have oA := on_mu C hP n
  have oB := on_mu C hP (n + 1)
  have hd : mu C P (n + 1) = add C (mu C P n) P := rfl
  have hsum := Rep.sum C oA oB hP hd hx hx1 h2 h3
  rw [← mu_add C hP, show n + (n + 1) = 2 * n + 1 by omega] at hsum
  rcases Nat.lt_or_ge b 1 with l | l
  · obtain rfl : b = 0 := by omega
    have hdb := Rep.double C k hk hk1 oA h2
    rw [← mu_add C hP, show n + n = 2 * n + 0 by omega] at hdb
    exact ⟨hdb, hsum⟩
  · obtain rfl : b = 1 := by omega
    have hdb := Rep.double C k hk hk1 oB h3
    rw [← mu_add C hP, show n + 1 + (n + 1) = 2 * n + 1 + 1 by omega] at hdb
    refine ⟨?_, hdb⟩
    obtain ⟨e1, e2⟩ := swap_sq (s.x3 - s.z3) (s.x2 + s.z2) (s.x3 + s.z3) (s.x2 - s.z2)
    rw [e1, e2] at hsum
    exact hsum

theorem start_tell (C : Ctx p) {P : Pt p} {x1 : Fin p} (hx : x1 * (1 - P.y) = 1 + P.y) : Tell C P 0 (startF x1) := by
  refine ⟨⟨?_, ?_⟩, ⟨?_, ?_⟩⟩
  · show (1 : Fin p) - 0 = 1 * (1 + 0)
    grind
  · show (1 : Fin p) + 0 ≠ 0
    intro h
    exact C.one (by rw [show (1 : Fin p) = 1 + 0 by grind]; exact h)
  · rw [mu_one]
    exact start_id x1 P.y hx
  · intro h
    exact C.two (start_two x1 P.y hx h)

theorem half_digit (N m i : Nat) (hi : i < m) : N / 2 ^ (m - (i + 1)) = 2 * (N / 2 ^ (m - i)) + N / 2 ^ (m - (i + 1)) % 2 := by
  rw [show m - i = m - (i + 1) + 1 by omega, Nat.pow_succ, ← Nat.div_div_eq_div_mul]
  omega

theorem lad_tell (C : Ctx p) (k : Fin p) (hk : (k + 1) * C.d = k) (hk1 : k + 1 ≠ 0) {P : Pt p} (hP : On C P) {x1 : Fin p} (hx : x1 * (1 - P.y) = 1 + P.y) (hx1 : x1 ≠ 0) (N m : Nat) (hN : N < 2 ^ m) : ∀ i, i ≤ m → Tell C P (N / 2 ^ (m - i)) (ladF k x1 N m i)
  | 0, _ => by
    rw [Nat.sub_zero, Nat.div_eq_of_lt hN]
    exact start_tell C hx
  | i + 1, hi => by
    have ih := lad_tell C k hk hk1 hP hx hx1 N m hN i (by omega)
    have h := round_tell C k hk hk1 hP hx hx1 _ (N / 2 ^ (m - (i + 1)) % 2) (Nat.mod_lt _ (by omega)) ih
    rw [← half_digit N m i (by omega)] at h
    exact h

/-- the place that a y tells: 0 of the points (0, 1) and (0, -1) -/
def outY (C : Ctx p) (y : Fin p) : Fin p := (1 + y) * C.iv (1 - y)
/-- what the ladder tells -/
def out (C : Ctx p) (k x1 : Fin p) (N m : Nat) : Fin p := (ladF k x1 N m m).x2 * C.iv (ladF k x1 N m m).z2

theorem out_id (X Z y i j : Fin p) (h1 : X - Z = y * (X + Z)) (hi : Z * i = 1) (hj : (1 - y) * j = 1) : X * i = (1 + y) * j := by
  have e : X * (1 - y) = Z * (1 + y) := by grind
  have e2 : X * (1 - y) * (i * j) = Z * (1 + y) * (i * j) := by rw [e]
  rw [show X * (1 - y) * (i * j) = X * i * ((1 - y) * j) by grind, show Z * (1 + y) * (i * j) = (1 + y) * j * (Z * i) by grind, hi, hj] at e2
  grind
theorem z_of_y (X Z y : Fin p) (h1 : X - Z = y * (X + Z)) (hy : 1 - y = 0) : 2 * Z = 0 := by
  have : y = 1 := by grind
  rw [this] at h1
  grind
theorem y_of_z (X Z y : Fin p) (h1 : X - Z = y * (X + Z)) (hz : Z = 0) : (1 - y) * (X + Z) = 0 := by
  rw [hz] at h1 ⊢
  grind
theorem rep_out (C : Ctx p) (h0 : C.iv 0 = 0) {X Z y : Fin p} (h : Rep X Z y) : X * C.iv Z = outY C y := by
  obtain ⟨h1, h2⟩ := h
  unfold outY
  by_cases hz : Z = 0
  · have hy : 1 - y = 0 := C.dom3 (y_of_z X Z y h1 hz) h2
    rw [hz, hy, h0]
    grind
  · have hy : 1 - y ≠ 0 := fun e => hz ((C.dom _ _ (z_of_y X Z y h1 e)).elim (fun e => absurd e C.two) id)
    exact out_id X Z y _ _ h1 (C.inv _ hz) (C.inv _ hy)

theorem lad_out (C : Ctx p) (h0 : C.iv 0 = 0) (k : Fin p) (hk : (k + 1) * C.d = k) (hk1 : k + 1 ≠ 0) {P : Pt p} (hP : On C P) {x1 : Fin p} (hx : x1 * (1 - P.y) = 1 + P.y) (hx1 : x1 ≠ 0) (N m : Nat) (hN : N < 2 ^ m) :
    out C k x1 N m = outY C (mu C P N).y := by
  have h := (lad_tell C k hk hk1 hP hx hx1 N m hN m (Nat.le_refl m)).1
  rw [Nat.sub_self, Nat.pow_zero, Nat.div_one] at h
  exact rep_out C h0 h

/-! ### the place 0 -/
theorem e_zero (x z : Fin p) (h : x * z = 0) (k : Fin p) : ((x + z) * (x + z) - (x - z) * (x - z)) * ((x + z) * (x + z) + k * ((x + z) * (x + z) - (x - z) * (x - z))) = 0 := by
  rw [show (x + z) * (x + z) - (x - z) * (x - z) = 4 * (x * z) by grind, h]
  grind
theorem zmul (a : Fin p) : 0 * a = 0 ∧ a * 0 = 0 := by constructor <;> grind
def Nil (s : Four p) : Prop := s.x2 * s.z2 = 0 ∧ s.x3 * s.z3 = 0
theorem step_nil (k : Fin p) {s : Four p} (h : Nil s) : (stepF k 0 s).z2 = 0 ∧ (stepF k 0 s).z3 = 0 := ⟨e_zero _ _ h.1 k, (zmul _).1⟩
theorem round_nil (k : Fin p) (b : Nat) {s : Four p} (h : Nil s) : (roundF k 0 b s).z2 = 0 ∧ (roundF k 0 b s).z3 = 0 := by
  unfold roundF
  split
  · obtain ⟨h1, h2⟩ := step_nil k (s := swapF s) ⟨h.2, h.1⟩
    exact ⟨h2, h1⟩
  · exact step_nil k h
theorem lad_nil (k : Fin p) (N m : Nat) : ∀ i, Nil (ladF k 0 N m i)
  | 0 => ⟨(zmul _).2, (zmul _).1⟩
  | i + 1 => by
    obtain ⟨h1, h2⟩ := round_nil k (N / 2 ^ (m - (i + 1)) % 2) (lad_nil k N m i)
    exact ⟨by rw [show (ladF k 0 N m (i + 1)).z2 = 0 from h1]; exact (zmul _).2, by rw [show (ladF k 0 N m (i + 1)).z3 = 0 from h2]; exact (zmul _).2⟩
theorem out_nil (C : Ctx p) (h0 : C.iv 0 = 0) (k : Fin p) (N m : Nat) : out C k 0 N (m + 1) = 0 := by
  unfold out
  rw [show (ladF k 0 N (m + 1) (m + 1)).z2 = 0 from (round_nil k _ (lad_nil k N (m + 1) m)).1, h0]
  exact (zmul _).2

end
end Edwards
end Go.Proofs.Ytnopjjkijedpeaa

namespace Go.Proofs.Ytnopjjkijedpeaa
namespace Edwards

section
variable {p : Nat} [NeZero p]

theorem iv_ne (C : Ctx p) {a : Fin p} (h : a ≠ 0) : C.iv a ≠ 0 := fun e => by
  have := C.inv a h
  rw [e] at this
  exact C.one (by rw [← this]; exact (zmul a).2)
theorem outY_zero (C : Ctx p) {y : Fin p} (h : outY C y = 0) : 1 + y = 0 ∨ 1 - y = 0 := by
  rcases C.dom _ _ h with e | e
  · exact .inl e
  · right
    exact Classical.byContradiction fun hne => iv_ne C hne e
theorem outY_one (C : Ctx p) (h0 : C.iv 0 = 0) : outY C 1 = 0 := by
  unfold outY
  rw [show (1 : Fin p) - 1 = 0 by grind, h0]
  exact (zmul _).2
theorem sq_one (y : Fin p) (h : 1 + y = 0 ∨ 1 - y = 0) : 1 - y * y = 0 := by
  rcases h with h | h
  · rw [show 1 - y * y = (1 - y) * (1 + y) by grind, h]
    exact (zmul _).2
  · rw [show 1 - y * y = (1 + y) * (1 - y) by grind, h]
    exact (zmul _).2
theorem twice (C : Ctx p) {Q : Pt p} (hQ : On C Q) (h : outY C Q.y = 0) : add C Q Q = O := by
  have hs := sq_of C hQ
  have hy := sq_one Q.y (outY_zero C h)
  rw [hy] at hs
  have hx := sq_zero C (C.dom3 hs (C.one_dy Q.y))
  have hi := C.inv 1 C.one
  obtain ⟨x, y⟩ := Q
  simp only at hx hy
  subst hx
  simp only [add, O, Pt.mk.injEq]
  rw [show 1 + C.d * 0 * 0 * y * y = 1 by grind, show 1 - C.d * 0 * 0 * y * y = 1 by grind, show 0 * y + 0 * y = 0 by grind, show y * y - 0 * 0 = 1 - (1 - y * y) by grind, hy]
  constructor
  · exact (zmul _).1
  · rw [← hi]
    grind
theorem even_O (C : Ctx p) {Q : Pt p} (hQ : On C Q) (h : outY C Q.y = 0) (n : Nat) : mu C Q (2 * n) = O := by
  rw [← mu_mul C hQ, show mu C Q 2 = add C Q Q by rw [show (2 : Nat) = 1 + 1 from rfl, mu_add C hQ, mu_one], twice C hQ h, mu_O]

theorem place_of (C : Ctx p) (h0 : C.iv 0 = 0) {y : Fin p} (h : outY C y ≠ 0) : outY C y * (1 - y) = 1 + y := by
  by_cases e : 1 - y = 0
  · exact absurd (by unfold outY; rw [e, h0]; exact (zmul _).2) h
  · unfold outY
    exact frac _ _ _ (C.inv _ e)

/-- the ladder of an even number goes from the place of a point to the place of its multiple -/
theorem out_of (C : Ctx p) (h0 : C.iv 0 = 0) (k : Fin p) (hk : (k + 1) * C.d = k) (hk1 : k + 1 ≠ 0) {Q : Pt p} (hQ : On C Q) (n m : Nat) (hN : 2 * n < 2 ^ (m + 1)) :
    out C k (outY C Q.y) (2 * n) (m + 1) = outY C (mu C Q (2 * n)).y := by
  by_cases e : outY C Q.y = 0
  · rw [e, out_nil C h0, even_O C hQ e]
    exact (outY_one C h0).symm
  · exact lad_out C h0 k hk hk1 hQ (place_of C h0 e) e (2 * n) (m + 1) hN

/-- BOTH AGREE, on the curve -/
theorem out_comm (C : Ctx p) (h0 : C.iv 0 = 0) (k : Fin p) (hk : (k + 1) * C.d = k) (hk1 : k + 1 ≠ 0) {Q : Pt p} (hQ : On C Q) (a b m : Nat) (ha : 2 * a < 2 ^ (m + 1)) (hb : 2 * b < 2 ^ (m + 1)) :
    out C k (out C k (outY C Q.y) (2 * b) (m + 1)) (2 * a) (m + 1) = outY C (mu C Q (2 * b * (2 * a))).y := by
  rw [out_of C h0 k hk hk1 hQ b m hb, out_of C h0 k hk hk1 (on_mu C hQ _) a m ha, mu_mul C hQ]

/-! ### the twist: the same ladder, of the place less than 0 -/
def flip (s : Four p) : Four p := ⟨s.x2, -s.z2, s.x3, -s.z3⟩
theorem flip_step (k x1 : Fin p) (s : Four p) : stepF (-(k + 1)) (-x1) (flip s) = flip (stepF k x1 s) := by
  obtain ⟨x2, z2, x3, z3⟩ := s
  simp only [stepF, flip, Four.mk.injEq]
  refine ⟨?_, ?_, ?_, ?_⟩ <;> grind
theorem flip_round (k x1 : Fin p) (b : Nat) (s : Four p) : roundF (-(k + 1)) (-x1) b (flip s) = flip (roundF k x1 b s) := by
  unfold roundF
  split
  · rw [show swapF (flip s) = flip (swapF s) from rfl, flip_step]
    rfl
  · exact flip_step k x1 s
/-- the third pair's sign is of no matter -/
theorem sign_round (k x1 : Fin p) (b : Nat) (s : Four p) : roundF k x1 b ⟨s.x2, s.z2, -s.x3, -s.z3⟩ = roundF k x1 b s := by
  obtain ⟨x2, z2, x3, z3⟩ := s
  unfold roundF
  split
  · simp only [swapF, stepF, Four.mk.injEq]
    refine ⟨?_, ?_, ?_, ?_⟩ <;> grind
  · simp only [stepF, Four.mk.injEq]
    refine ⟨?_, ?_, ?_, ?_⟩ <;> grind
theorem flip_start (k x1 : Fin p) (b : Nat) : roundF (-(k + 1)) (-x1) b (startF (-x1)) = flip (roundF k x1 b (startF x1)) := by
  rw [← flip_round, ← sign_round]
  congr 1
  simp only [startF, flip, Four.mk.injEq]
  refine ⟨?_, ?_, ?_, ?_⟩ <;> grind
theorem flip_lad (k x1 : Fin p) (N m : Nat) : ∀ i, ladF (-(k + 1)) (-x1) N m (i + 1) = flip (ladF k x1 N m (i + 1))
  | 0 => flip_start k x1 _
  | i + 1 => by rw [ladF, flip_lad k x1 N m i, flip_round]; rfl
theorem iv_neg (C : Ctx p) (h0 : C.iv 0 = 0) (a : Fin p) : C.iv (-a) = -C.iv a := by
  by_cases e : a = 0
  · rw [e, show -(0 : Fin p) = 0 by grind, h0]
    grind
  · have h1 := C.inv a e
    have hne : -a ≠ 0 := fun h => e (by rw [show a = - -a by grind, h]; grind)
    have h2 := C.inv (-a) hne
    refine C.cancel hne ?_
    rw [show C.iv (-a) * -a = -a * C.iv (-a) by grind, h2, show -C.iv a * -a = a * C.iv a by grind, h1]
theorem out_flip (C D : Ctx p) (hiv : D.iv = C.iv) (h0 : C.iv 0 = 0) (k x1 : Fin p) (N m : Nat) : out D (-(k + 1)) (-x1) N (m + 1) = -out C k x1 N (m + 1) := by
  unfold out
  rw [flip_lad, hiv]
  simp only [flip]
  rw [iv_neg C h0]
  grind

/-- BOTH AGREE, on the twist -/
theorem out_comm_twist (C D : Ctx p) (hiv : D.iv = C.iv) (h0 : C.iv 0 = 0) (k : Fin p) (hk : (-(k + 1) + 1) * D.d = -(k + 1)) (hk1 : -(k + 1) + 1 ≠ 0) {Q : Pt p} (hQ : On D Q) (a b m : Nat) (ha : 2 * a < 2 ^ (m + 1)) (hb : 2 * b < 2 ^ (m + 1)) :
    out C k (out C k (-outY D Q.y) (2 * b) (m + 1)) (2 * a) (m + 1) = -outY D (mu D Q (2 * b * (2 * a))).y := by
  have h0' : D.iv 0 = 0 := by rw [hiv]; exact h0
  have h := out_comm D h0' (-(k + 1)) hk hk1 hQ a b m ha hb
  have f : ∀ u : Fin p, u = - -u := fun u => by grind
  have e1 : out D (-(k + 1)) (outY D Q.y) (2 * b) (m + 1) = -out C k (-outY D Q.y) (2 * b) (m + 1) := by
    rw [← out_flip C D hiv h0, ← f]
  rw [e1, out_flip C D hiv h0] at h
  rw [← h, ← f]

end
end Edwards
end Go.Proofs.Ytnopjjkijedpeaa

namespace Go.Proofs.Ytnopjjkijedpeaa
namespace Edwards
open Primes PrimeP FieldN

instance neP : NeZero P := ⟨by have := P_pos; omega⟩

def ivP (a : Fin P) : Fin P := ⟨a.val ^ (P - 2) % P, Nat.mod_lt _ P_pos⟩
theorem val_zero : ((0 : Fin P) : Fin P).val = 0 := rfl
theorem eq_zero (a : Fin P) : a = 0 ↔ a.val = 0 := by rw [Fin.ext_iff, val_zero]
theorem val_one : ((1 : Fin P) : Fin P).val = 1 := by
  show 1 % P = 1
  exact Nat.mod_eq_of_lt (by have := P_big; omega)
theorem val_mul (a b : Fin P) : (a * b).val = a.val * b.val % P := Fin.val_mul a b

theorem domP (a b : Fin P) (h : a * b = 0) : a = 0 ∨ b = 0 := by
  rw [eq_zero, val_mul] at h
  rcases prime_P.euclid (Nat.dvd_of_mod_eq_zero h) with e | e
  · left
    rw [eq_zero]
    exact Nat.eq_zero_of_dvd_of_lt e a.isLt
  · right
    rw [eq_zero]
    exact Nat.eq_zero_of_dvd_of_lt e b.isLt
theorem invP (a : Fin P) (h : a ≠ 0) : a * ivP a = 1 := by
  rw [Fin.ext_iff, val_mul, val_one]
  exact inv_mul a.isLt (fun e => h ((eq_zero a).2 e))
theorem none_pow (n e : Nat) (h : 0 < e) : 0 ^ e % n = 0 := by rw [Nat.zero_pow h, Nat.zero_mod]
theorem ivP_val (a : Fin P) : (ivP a).val = a.val ^ (P - 2) % P := rfl
theorem ivP_of (a : Fin P) (h : a.val = 0) : ivP a = 0 := by
  rw [eq_zero, ivP_val, h]
  exact none_pow P (P - 2) (by have := P_big; omega)
theorem ivP_zero : ivP 0 = 0 := ivP_of 0 val_zero

/-- half of the prime less 1 -/
def hP : Nat := (P - 1) / 2
theorem two_hP : 2 * hP = P - 1 := by
  unfold hP P
  decide
/-- what is no square by Euler's sign: x^2 = d y^2 only where y is 0 -/
theorem no_square (d x y : Nat) (hd : d ^ hP % P = P - 1) (h : x * x % P = d * (y * y) % P) (hy : y < P) : y = 0 := by
  apply Classical.byContradiction
  intro hy0
  have hp2 := P_big
  have ny : ¬ P ∣ y := fun e => hy0 (Nat.eq_zero_of_dvd_of_lt e hy)
  have fy := fermat prime_P ny
  have e1 : (x * x) ^ hP % P = (d * (y * y)) ^ hP % P := by rw [Nat.pow_mod, h, ← Nat.pow_mod]
  have sq : ∀ z : Nat, (z * z) ^ hP = z ^ (P - 1) := fun z => by rw [← two_hP, Nat.pow_mul, Nat.pow_two]
  rw [sq x, Nat.mul_pow d, sq y, Nat.mul_mod (d ^ hP), fy, hd, Nat.mul_one, Nat.mod_eq_of_lt (a := P - 1) (by omega)] at e1
  by_cases nx : P ∣ x
  · have : P ∣ x ^ (P - 1) := Nat.dvd_trans nx (by
      obtain ⟨m, hm⟩ : ∃ m, P - 1 = m + 1 := ⟨P - 2, by omega⟩
      rw [hm, Nat.pow_succ]
      exact Nat.dvd_mul_left _ _)
    rw [Nat.mod_eq_zero_of_dvd this] at e1
    omega
  · rw [fermat prime_P nx] at e1
    omega

theorem val_two : ((2 : Fin P) : Fin P).val = 2 := by
  show 2 % P = 2
  exact Nat.mod_eq_of_lt (by have := P_big; omega)

/-- a field with a number that is no square -/
def mk (d : Fin P) (hd : d.val ^ hP % P = P - 1) : Ctx P where
  d := d
  iv := ivP
  dom := domP
  inv := invP
  one := fun e => by rw [eq_zero, val_one] at e; omega
  two := fun e => by rw [eq_zero, val_two] at e; omega
  non := fun x y h => by
    rw [eq_zero]
    refine no_square d.val x.val y.val hd ?_ y.isLt
    have := congrArg Fin.val h
    rw [val_mul, val_mul, val_mul, Nat.mul_mod_mod] at this
    exact this

end Edwards
end Go.Proofs.Ytnopjjkijedpeaa

namespace Go.Proofs.Ytnopjjkijedpeaa
namespace Edwards
open Primes PrimeP FieldN

/-! ### roots -/
def ex (w : Fin P) (n : Nat) : Fin P := ⟨w.val ^ n % P, Nat.mod_lt _ P_pos⟩
theorem ex_val (w : Fin P) (n : Nat) : (ex w n).val = w.val ^ n % P := rfl
theorem ex_add (w : Fin P) (m n : Nat) : ex w m * ex w n = ex w (m + n) := by
  rw [Fin.ext_iff, val_mul, ex_val, ex_val, ex_val, ← Nat.mul_mod, Nat.pow_add]
theorem ex_one (w : Fin P) : ex w 1 = w := by
  rw [Fin.ext_iff, ex_val, Nat.pow_one, Nat.mod_eq_of_lt w.isLt]
theorem ex_mul (v w : Fin P) (n : Nat) : ex (v * w) n = ex v n * ex w n := by
  rw [Fin.ext_iff, val_mul, ex_val, ex_val, ex_val, val_mul, ← Nat.pow_mod, Nat.mul_pow, ← Nat.mul_mod]
def e8 : Nat := (P + 3) / 8
theorem four_e8 : e8 + e8 + (e8 + e8) = hP + (1 + 1) := by
  unfold e8 hP P
  decide
def iL : Nat := 19681161376707505956807079304988542015446066515923890162744021073123829784752
theorem iL_lt : iL < P := by unfold iL P; decide
def iP : Fin P := ⟨iL, iL_lt⟩
theorem i_sq : iP * iP = -1 := by
  have h : iL * iL % P + 1 = P := by unfold iL P; decide +kernel
  have h2 : iP * iP + 1 = 0 := by
    rw [eq_zero, Fin.val_add, val_mul, val_one]
    show (iL * iL % P + 1) % P = 0
    rw [h, Nat.mod_self]
  exact neg_of_add _ _ h2
theorem root_id (i r t : Fin P) (hi : i * i = -1) (h : r * r = -t) : i * r * (i * r) = t := by
  rw [show i * r * (i * r) = i * i * (r * r) by grind, hi, h]
  grind
theorem root {w : Fin P} (h : ex w hP = 1) : ∃ r, r * r = w := by
  have e : ex w e8 * ex w e8 * (ex w e8 * ex w e8) = w * w := by
    rw [ex_add, ex_add, four_e8, ← ex_add, h, ← ex_add, ex_one]
    generalize w * w = v
    grind
  rcases domP _ _ (diff_sq (ex w e8 * ex w e8) w e) with k | k
  · exact ⟨_, eq_of_sub _ _ k⟩
  · exact ⟨iP * ex w e8, root_id _ _ _ i_sq (neg_of_add _ _ k)⟩
theorem euler {w : Fin P} (h : w ≠ 0) : ex w hP = 1 ∨ ex w hP = -1 := by
  have hw : ¬ P ∣ w.val := fun e => h ((eq_zero w).2 (Nat.eq_zero_of_dvd_of_lt e w.isLt))
  have f : ex w hP * ex w hP = 1 * 1 := by
    rw [ex_add, show hP + hP = P - 1 by rw [← two_hP]; omega, Fin.ext_iff, ex_val, fermat prime_P hw, show (1 : Fin P) * 1 = 1 by grind, val_one]
  rcases domP _ _ (diff_sq _ _ f) with k | k
  · exact .inl (eq_of_sub _ _ k)
  · exact .inr (neg_of_add _ _ k)

/-! ### places -/
theorem place_curve (k u r i j x y g : Fin P) (hr : r * r = (k + 1) * u * g) (hi : (u + 1) * i = 1) (hj : g * j = 1) (hy : y = (u - 1) * i) (hx : x = 2 * r * j) :
    x * x * ((u + 1) * (u + 1)) = 4 * ((k + 1) * u * j) * ((u + 1) * (u + 1)) ∧ y * (u + 1) = u - 1 := by
  subst hx hy
  constructor
  · rw [show 2 * r * j * (2 * r * j) = 4 * (r * r) * (j * j) by grind, hr]
    rw [show 4 * ((k + 1) * u * g) * (j * j) = 4 * ((k + 1) * u) * (g * j) * j by grind, hj]
    grind
  · rw [show (u - 1) * i * (u + 1) = (u - 1) * ((u + 1) * i) by grind, hi]
    grind
theorem place_on (d k u j X y g : Fin P) (hk : (k + 1) * d = k) (hg : g = u * u + (4 * k + 2) * u + 1) (hj : g * j = 1) (hX : X = 4 * ((k + 1) * u * j)) (hy : y * (u + 1) = u - 1) :
    (X + y * y) * ((u + 1) * (u + 1)) * g = (1 + d * X * (y * y)) * ((u + 1) * (u + 1)) * g := by
  have e1 : X * g = 4 * ((k + 1) * u) := by
    rw [hX, show 4 * ((k + 1) * u * j) * g = 4 * ((k + 1) * u) * (g * j) by grind, hj]
    grind
  have e2 : y * y * ((u + 1) * (u + 1)) = (u - 1) * (u - 1) := by
    rw [← hy]
    grind
  rw [show (X + y * y) * ((u + 1) * (u + 1)) * g = X * g * ((u + 1) * (u + 1)) + y * y * ((u + 1) * (u + 1)) * g by grind, show (1 + d * X * (y * y)) * ((u + 1) * (u + 1)) * g = (u + 1) * (u + 1) * g + d * (X * g) * (y * y * ((u + 1) * (u + 1))) by grind, e1, e2, hg, show d * (4 * ((k + 1) * u)) = 4 * ((k + 1) * d * u) by grind, hk]
  grind
theorem place_out (u i j y : Fin P) (hi : (u + 1) * i = 1) (hy : y = (u - 1) * i) (hj : 2 * i * j = 1) : (1 + y) * j = u ∧ 1 - y = 2 * i := by
  have e1 : 1 + y = u * (2 * i) := by
    rw [hy, ← hi]
    grind
  have e2 : 1 - y = 2 * i := by
    rw [hy, ← hi]
    grind
  refine ⟨?_, e2⟩
  rw [e1, show u * (2 * i) * j = u * (2 * i * j) by grind, hj]
  grind

theorem g_id (u k d g : Fin P) (hk : (k + 1) * d = k) (hg : g = u * u + (4 * k + 2) * u + 1) (h0 : g = 0) : (2 * u + (4 * k + 2)) * (2 * u + (4 * k + 2)) = d * (4 * (k + 1) * (4 * (k + 1))) := by
  rw [show (2 * u + (4 * k + 2)) * (2 * u + (4 * k + 2)) = 4 * (u * u + (4 * k + 2) * u + 1) + 16 * k * (k + 1) by grind, ← hg, h0, show d * (4 * (k + 1) * (4 * (k + 1))) = 16 * ((k + 1) * d) * (k + 1) by grind, hk]
  grind
theorem u_id (u k d g r : Fin P) (hk : (k + 1) * d = k) (hg : g = u * u + (4 * k + 2) * u + 1) (hr : r * r = (k + 1) * u * g) (h0 : u + 1 = 0) : r * r = d * (2 * (k + 1) * (2 * (k + 1))) := by
  have e : u = -1 := by grind
  rw [hr, hg, e, show d * (2 * (k + 1) * (2 * (k + 1))) = 4 * ((k + 1) * d) * (k + 1) by grind, hk]
  grind
theorem four_ne (C : Ctx P) {a : Fin P} (h : a ≠ 0) : 4 * a ≠ 0 := by
  rw [show 4 * a = 2 * (2 * a) by grind]
  exact C.mul_ne C.two (C.mul_ne C.two h)

theorem place (C : Ctx P) (k : Fin P) (hk : (k + 1) * C.d = k) (hk1 : k + 1 ≠ 0) (u r g : Fin P) (hg : g = u * u + (4 * k + 2) * u + 1) (hr : r * r = (k + 1) * u * g) : ∃ Q, On C Q ∧ outY C Q.y = u := by
  have hg0 : g ≠ 0 := fun h0 => four_ne C hk1 (C.non _ _ (g_id u k C.d g hk hg h0))
  have hu1 : u + 1 ≠ 0 := fun h0 => C.mul_ne C.two hk1 (C.non _ _ (u_id u k C.d g r hk hg hr h0))
  have hi := C.inv _ hu1
  have hj := C.inv _ hg0
  generalize C.iv (u + 1) = i at hi
  generalize C.iv g = j at hj
  obtain ⟨h1, h2⟩ := place_curve k u r i j _ _ g hr hi hj rfl rfl
  have hX := C.cancel (C.mul_ne hu1 hu1) h1
  have hi0 : i ≠ 0 := fun e => by
    rw [e] at hi
    exact C.one (by rw [← hi]; exact (zmul _).2)
  have hjj := C.inv _ (C.mul_ne C.two hi0)
  obtain ⟨o1, o2⟩ := place_out u i (C.iv (2 * i)) _ hi rfl hjj
  refine ⟨⟨2 * r * j, (u - 1) * i⟩, ?_, ?_⟩
  · exact C.cancel (C.mul_ne hu1 hu1) (C.cancel hg0 (place_on C.d k u j _ _ g hk hg hj hX h2))
  · show (1 + (u - 1) * i) * C.iv (1 - (u - 1) * i) = u
    rw [o2]
    exact o1

/-! ### both curves -/
def kL : Nat := 121665
def dL : Nat := 20800338683988658368647408995589388737092878452977063003340006470870624536394
def tL : Nat := 28692721048178265397853269683490922171210976843790175684556505508326675974058
def kP : Fin P := ⟨kL, by unfold kL P; decide⟩
def dP : Fin P := ⟨dL, by unfold dL P; decide⟩
def tP : Fin P := ⟨tL, by unfold tL P; decide⟩
theorem dL_no : dL ^ hP % P = P - 1 := by
  rw [← pm_eq P dL 256 hP (by unfold hP P; decide)]
  unfold hP P dL
  decide +kernel
theorem tL_no : tL ^ hP % P = P - 1 := by
  rw [← pm_eq P tL 256 hP (by unfold hP P; decide)]
  unfold hP P tL
  decide +kernel
theorem dP_val : dP.val = dL := rfl
theorem tP_val : tP.val = tL := rfl
theorem dP_no : dP.val ^ hP % P = P - 1 := by
  rw [dP_val]
  exact dL_no
theorem tP_no : tP.val ^ hP % P = P - 1 := by
  rw [tP_val]
  exact tL_no
def CC : Ctx P := mk dP dP_no
def CT : Ctx P := mk tP tP_no
theorem k_one : (kP + 1).val = 121666 := by
  rw [Fin.val_add, val_one]
  show (kL + 1) % P = 121666
  unfold kL P
  decide
theorem hk_C : (kP + 1) * CC.d = kP := by
  rw [Fin.ext_iff, val_mul, k_one]
  show 121666 * dL % P = kL
  unfold dL kL P
  decide +kernel
theorem hk1_C : kP + 1 ≠ 0 := fun e => by
  rw [eq_zero, k_one] at e
  omega
theorem k_ne : kP ≠ 0 := fun e => by
  rw [eq_zero] at e
  exact absurd e (by show kL ≠ 0; unfold kL; decide)
theorem k_t : kP * tP = kP + 1 := by
  rw [Fin.ext_iff, val_mul, k_one]
  show kL * tL % P = 121666
  unfold tL kL P
  decide +kernel
theorem hk_T : (-(kP + 1) + 1) * CT.d = -(kP + 1) := by
  show (-(kP + 1) + 1) * tP = -(kP + 1)
  rw [← k_t]
  have h := k_t
  grind
theorem hk1_T : -(kP + 1) + 1 ≠ 0 := fun e => k_ne (by
  rw [show kP = -(-(kP + 1) + 1) by grind, e]
  grind)

theorem mk_iv (d : Fin P) (hd : d.val ^ hP % P = P - 1) : (mk d hd).iv = ivP := rfl
theorem iv_C : CC.iv = ivP := mk_iv dP dP_no
theorem iv_T : CT.iv = CC.iv := (mk_iv tP tP_no).trans (mk_iv dP dP_no).symm
theorem iv0_C : CC.iv 0 = 0 := ivP_zero
theorem minus_one (z : Fin P) (h : z.val = P - 1) : z = -1 := by
  have e : z + 1 = 0 := by
    rw [eq_zero, Fin.val_add, h, val_one, show P - 1 + 1 = P by have := P_pos; omega, Nat.mod_self]
  exact neg_of_add _ _ e
theorem d_no : ex dP hP = -1 := minus_one _ ((ex_val dP hP).trans dP_no)

theorem tw_id (k d u r : Fin P) (hk : (k + 1) * d = k) (h : r * r = d * ((k + 1) * u * (u * u + (4 * k + 2) * u + 1))) : r * r = (-(k + 1) + 1) * -u * (-u * -u + (4 * -(k + 1) + 2) * -u + 1) := by
  rw [h, show d * ((k + 1) * u * (u * u + (4 * k + 2) * u + 1)) = (k + 1) * d * u * (u * u + (4 * k + 2) * u + 1) by grind, hk]
  grind

/-- each number is a place of the curve, or less than 0 of its twist -/
theorem everywhere (u : Fin P) : (∃ Q, On CC Q ∧ outY CC Q.y = u) ∨ (∃ Q, On CT Q ∧ -outY CT Q.y = u) := by
  by_cases hw : (kP + 1) * u * (u * u + (4 * kP + 2) * u + 1) = 0
  · left
    exact place CC kP hk_C hk1_C u 0 _ rfl (by rw [hw]; grind)
  · rcases euler hw with h | h
    · obtain ⟨r, hr⟩ := root h
      left
      exact place CC kP hk_C hk1_C u r _ rfl hr
    · right
      have h2 : ex (dP * ((kP + 1) * u * (u * u + (4 * kP + 2) * u + 1))) hP = 1 := by
        rw [ex_mul, h, d_no]
        grind
      obtain ⟨r, hr⟩ := root h2
      obtain ⟨Q, h3, h4⟩ := place CT (-(kP + 1)) hk_T hk1_T (-u) r _ rfl (tw_id kP dP u r hk_C hr)
      exact ⟨Q, h3, by rw [h4]; grind⟩

/-- the ladder with the curve's number, of 255 digits -/
def lad (N : Nat) (u : Fin P) : Fin P := out CC kP u N 255

/-- BOTH AGREE: ladders of even numbers, one behind the other, in either order -/
theorem lad_comm (a b : Nat) (ha : 2 * a < 2 ^ 255) (hb : 2 * b < 2 ^ 255) (u : Fin P) : lad (2 * a) (lad (2 * b) u) = lad (2 * b) (lad (2 * a) u) := by
  unfold lad
  rcases everywhere u with ⟨Q, hQ, rfl⟩ | ⟨Q, hQ, rfl⟩
  · rw [out_comm CC iv0_C kP hk_C hk1_C hQ a b 254 ha hb, out_comm CC iv0_C kP hk_C hk1_C hQ b a 254 hb ha, Nat.mul_comm]
  · rw [out_comm_twist CC CT iv_T iv0_C kP hk_T hk1_T hQ a b 254 ha hb, out_comm_twist CC CT iv_T iv0_C kP hk_T hk1_T hQ b a 254 hb ha, Nat.mul_comm]

end Edwards
end Go.Proofs.Ytnopjjkijedpeaa

namespace Go.Proofs.Ytnopjjkijedpeaa
namespace Edwards
open Primes PrimeP FieldN

def nine : Fin P := ⟨9, by have := P_big; omega⟩
theorem nine_val : nine.val = 9 := rfl

/-! ### the ladder on numbers, step by step -/
def seq (n : Nat) (f : Nat → Bool) : Bool := Nat.rec (f 0) (fun m _ => f (m + 1)) n
theorem seq_eq (n : Nat) (f : Nat → Bool) : seq n f = f n := by cases n <;> rfl
def stepN (p k x1 x2 z2 x3 z3 : Nat) (K : Nat → Nat → Nat → Nat → Bool) : Bool :=
  seq ((x2 + z2) % p) fun a => seq ((x2 + (p - z2)) % p) fun b => seq ((x3 + z3) % p) fun c => seq ((x3 + (p - z3)) % p) fun d =>
  seq (d * a % p) fun da => seq (c * b % p) fun cb => seq (a * a % p) fun aa => seq (b * b % p) fun bb => seq ((aa + (p - bb)) % p) fun e =>
  seq (aa * bb % p) fun n2 => seq (e * ((aa + k * e % p) % p) % p) fun m2 => seq ((da + cb) % p) fun s => seq ((da + (p - cb)) % p) fun t =>
  seq (s * s % p) fun n3 => seq (x1 * (t * t % p) % p) fun m3 => K n2 m2 n3 m3
def goN (p k x1 N : Nat) (ck : Nat → Nat → Nat → Nat → Bool) : Nat → Nat → Nat → Nat → Nat → Bool
  | 0, x2, z2, x3, z3 => ck x2 z2 x3 z3
  | r + 1, x2, z2, x3, z3 => cond (N / 2 ^ r % 2 == 1) (stepN p k x1 x3 z3 x2 z2 fun a b c d => goN p k x1 N ck r c d a b) (stepN p k x1 x2 z2 x3 z3 fun a b c d => goN p k x1 N ck r a b c d)
def goF (k x1 : Fin P) (N : Nat) : Nat → Four P → Four P
  | 0, s => s
  | r + 1, s => goF k x1 N r (roundF k x1 (N / 2 ^ r % 2) s)
theorem goF_lad (k x1 : Fin P) (N m : Nat) : ∀ r i, i + r = m → goF k x1 N r (ladF k x1 N m i) = ladF k x1 N m m
  | 0, i, h => by
    obtain rfl : i = m := by omega
    rfl
  | r + 1, i, h => by
    rw [← goF_lad k x1 N m r (i + 1) (by omega), goF, ladF, show m - (i + 1) = r by omega]
theorem val_sub (a b : Fin P) : (a - b).val = (a.val + (P - b.val)) % P := by rw [Fin.sub_def, Nat.add_comm]
theorem stepN_eq (k x1 : Fin P) (s : Four P) (K : Nat → Nat → Nat → Nat → Bool) : stepN P k.val x1.val s.x2.val s.z2.val s.x3.val s.z3.val K = K (stepF k x1 s).x2.val (stepF k x1 s).z2.val (stepF k x1 s).x3.val (stepF k x1 s).z3.val := by
  unfold stepN stepF
  simp only [seq_eq, Fin.val_add, val_sub, val_mul]
theorem goN_eq (k x1 : Fin P) (N : Nat) (ck : Nat → Nat → Nat → Nat → Bool) : ∀ r (s : Four P), goN P k.val x1.val N ck r s.x2.val s.z2.val s.x3.val s.z3.val = ck (goF k x1 N r s).x2.val (goF k x1 N r s).z2.val (goF k x1 N r s).x3.val (goF k x1 N r s).z3.val
  | 0, _ => rfl
  | r + 1, s => by
    rw [goN, goF]
    by_cases e : N / 2 ^ r % 2 = 1
    · have h := stepN_eq k x1 (swapF s) fun a b c d => goN P k.val x1.val N ck r c d a b
      have h2 := goN_eq k x1 N ck r (swapF (stepF k x1 (swapF s)))
      rw [e, show ((1 : Nat) == 1) = true from rfl, cond_true, show roundF k x1 1 s = swapF (stepF k x1 (swapF s)) by unfold roundF; rw [if_pos rfl], ← h2]
      exact h
    · have h := stepN_eq k x1 s fun a b c d => goN P k.val x1.val N ck r a b c d
      have h2 := goN_eq k x1 N ck r (stepF k x1 s)
      rw [show (N / 2 ^ r % 2 == 1) = false by simpa using e, cond_false, show roundF k x1 (N / 2 ^ r % 2) s = stepF k x1 s by unfold roundF; rw [if_neg e], ← h2]
      exact h
theorem run_lad (N m : Nat) (ck : Nat → Nat → Nat → Nat → Bool) (h : goN P 121665 9 N ck m 1 0 9 1 = true) : ck (ladF kP nine N m m).x2.val (ladF kP nine N m m).z2.val (ladF kP nine N m m).x3.val (ladF kP nine N m m).z3.val = true := by
  have e := goN_eq kP nine N ck m (startF nine)
  have e2 := goF_lad kP nine N m m 0 (by omega)
  rw [show ladF kP nine N m 0 = startF nine from rfl] at e2
  rw [e2] at e
  have hk : kP.val = 121665 := by
    show kL = 121665
    unfold kL
    rfl
  rw [show (startF nine).x2.val = 1 from val_one, show (startF nine).z2.val = 0 from val_zero, show (startF nine).x3.val = 9 from rfl, show (startF nine).z3.val = 1 from val_one, hk, nine_val, h] at e
  exact e.symm

/-! ### the order -/
@[irreducible] def lN : Nat := 7237005577332262213973186563042994240857116359379907606001950938285454250989
theorem prime_lN : IsPrime lN := by
  unfold lN
  exact prime_l
theorem lN_lt : lN < 2 ^ 253 := by unfold lN; decide
theorem lN_big : 2 ^ 252 < lN := by unfold lN; decide

theorem run_l : goN P 121665 9 lN (fun _ z _ _ => z == 0) 253 1 0 9 1 = true := by
  unfold P lN
  decide +kernel
theorem run_two : goN P 121665 9 2 (fun x z _ _ => x != 0 && z != 0) 2 1 0 9 1 = true := by
  unfold P
  decide +kernel
theorem out_l : out CC kP nine lN 253 = 0 := by
  have h := run_lad lN 253 (fun _ z _ _ => z == 0) run_l
  simp only [beq_iff_eq] at h
  unfold out
  rw [(eq_zero _).2 h, iv0_C]
  exact (zmul _).2
theorem out_two : out CC kP nine 2 2 ≠ 0 := by
  have h := run_lad 2 2 (fun x z _ _ => x != 0 && z != 0) run_two
  simp only [Bool.and_eq_true, bne_iff_ne] at h
  unfold out
  exact CC.mul_ne (fun e => h.1 ((eq_zero _).1 e)) (iv_ne CC fun e => h.2 ((eq_zero _).1 e))

def rN : Nat := 48363676465460795623407076712729706995764907990067778228183742103931674247509
theorem rN_lt : rN < P := by unfold rN P; decide
theorem ninth : ∃ Q, On CC Q ∧ outY CC Q.y = nine := by
  refine place CC kP hk_C hk1_C nine ⟨rN, rN_lt⟩ _ rfl ?_
  have hk : kP.val = 121665 := by
    show kL = 121665
    unfold kL
    rfl
  have h2 : ((2 : Fin P)).val = 2 := val_two
  have h4 : ((4 : Fin P)).val = 4 := by
    show 4 % P = 4
    exact Nat.mod_eq_of_lt (by have := P_big; omega)
  rw [Fin.ext_iff]
  simp only [val_mul, Fin.val_add, hk, nine_val, val_one, h2, h4]
  unfold rN P
  decide +kernel

section
variable {C : Ctx P} {Q : Pt P}
theorem mu_sub (hQ : On C Q) (m n : Nat) (h1 : mu C Q (m + n) = O) (h2 : mu C Q m = O) : mu C Q n = O := by
  rw [mu_add C hQ, h2, zero_add] at h1
  exact h1
theorem mu_mod (hQ : On C Q) (m n : Nat) (h1 : mu C Q m = O) (h2 : mu C Q n = O) : mu C Q (n % m) = O := by
  have e : mu C Q (m * (n / m)) = O := by rw [← mu_mul C hQ, h1, mu_O]
  exact mu_sub hQ (m * (n / m)) (n % m) (by rw [Nat.div_add_mod]; exact h2) e
theorem mu_gcd (hQ : On C Q) (m n : Nat) : mu C Q m = O → mu C Q n = O → mu C Q (Nat.gcd m n) = O := by
  induction m, n using Nat.gcd.induction with
  | H0 n =>
    intro _ h
    rw [Nat.gcd_zero_left]
    exact h
  | H1 m n hm ih =>
    intro h1 h2
    rw [Nat.gcd_rec]
    exact ih (mu_mod hQ m n h1 h2) h1
theorem twice_mu (hQ : On C Q) (n : Nat) (h : outY C (mu C Q n).y = 0) : mu C Q (2 * n) = O := by
  rw [Nat.two_mul, mu_add C hQ]
  exact twice C (on_mu C hQ n) h
end

/-- a multiple of the place 9 by what the order's half does not divide is not at the place 0 -/
theorem nine_mu {Q : Pt P} (hQ : On CC Q) (h9 : outY CC Q.y = nine) (N : Nat) (hN : ¬ lN ∣ N) : outY CC (mu CC Q N).y ≠ 0 := by
  intro h0
  have hx : nine ≠ 0 := fun e => by
    rw [eq_zero, nine_val] at e
    omega
  have hp : nine * (1 - Q.y) = 1 + Q.y := by
    have := place_of CC iv0_C (y := Q.y) (by rw [h9]; exact hx)
    rwa [h9] at this
  have hl := lad_out CC iv0_C kP hk_C hk1_C hQ hp hx lN 253 lN_lt
  rw [out_l] at hl
  have h2 := lad_out CC iv0_C kP hk_C hk1_C hQ hp hx 2 2 (by decide)
  have e1 := twice_mu hQ N h0
  have e2 := twice_mu hQ lN hl.symm
  have hg := mu_gcd hQ (2 * N) (2 * lN) e1 e2
  have hc : Nat.gcd N lN = 1 := by
    have := prime_lN.coprime N hN
    rw [Nat.gcd_comm]
    exact this
  rw [Nat.gcd_mul_left, hc, Nat.mul_one] at hg
  rw [hg] at h2
  refine out_two ?_
  rw [h2]
  exact outY_one CC iv0_C

/-- a clamped number: eight times something, of 255 digits -/
theorem no_l (m : Nat) (h1 : 0 < m) (h2 : m < lN) : ¬ lN ∣ 8 * m := by
  intro h
  rcases prime_lN.euclid h with e | e
  · have := Nat.le_of_dvd (by omega) e
    have := lN_big
    omega
  · have := Nat.le_of_dvd h1 e
    omega

theorem nine_once (m : Nat) (h1 : 0 < m) (h2 : m < 2 ^ 252) : lad (8 * m) nine ≠ 0 := by
  obtain ⟨Q, hQ, h9⟩ := ninth
  have h := nine_mu hQ h9 (8 * m) (no_l m h1 (Nat.lt_trans h2 lN_big))
  have e := out_of CC iv0_C kP hk_C hk1_C hQ (4 * m) 254 (by omega)
  unfold lad
  rw [show 8 * m = 2 * (4 * m) by omega] at h ⊢
  rw [← h9, e]
  exact h
theorem nine_twice (m n : Nat) (h1 : 0 < m) (h2 : m < 2 ^ 252) (h3 : 0 < n) (h4 : n < 2 ^ 252) : lad (8 * m) (lad (8 * n) nine) ≠ 0 := by
  obtain ⟨Q, hQ, h9⟩ := ninth
  have hd : ¬ lN ∣ 8 * n * (8 * m) := fun h => (prime_lN.euclid h).elim (no_l n h3 (Nat.lt_trans h4 lN_big)) (no_l m h1 (Nat.lt_trans h2 lN_big))
  have h := nine_mu hQ h9 _ hd
  have e := out_comm CC iv0_C kP hk_C hk1_C hQ (4 * m) (4 * n) 254 (by omega) (by omega)
  unfold lad
  rw [show 8 * m = 2 * (4 * m) by omega, show 8 * n = 2 * (4 * n) by omega] at h ⊢
  rw [← h9, e]
  exact h

/-- the place 0 stays -/
theorem lad_zero (N : Nat) : lad N 0 = 0 := out_nil CC iv0_C kP N 254

end Edwards
end Go.Proofs.Ytnopjjkijedpeaa
