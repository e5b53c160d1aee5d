/- 2^255 - 19 is prime; inverses modulo it. Nothing of the program. -/
import Derived.Test.YtnopjjkijedpeaaPrimes
import Derived.Test.YtnopjjkijedpeaaFieldNum
namespace Go.Proofs.Ytnopjjkijedpeaa
namespace PrimeP
open Primes FieldN

/-- the test, computed: n = q r + 1, a's powers modulo n -/
def cert (n q r a k : Nat) : Bool := n == q * r + 1 && decide (q * r < 2 ^ k) && pm n a k (q * r) == 1 % n && decide (1 ≤ pm n a k r) && Nat.gcd (pm n a k r - 1) n == 1
theorem cert_spec {n q r a k p : Nat} (hq : IsPrime q) (h : cert n q r a k = true) (hp : IsPrime p) (hd : p ∣ n) : q ∣ p - 1 := by
  simp only [cert, Bool.and_eq_true, beq_iff_eq, decide_eq_true_eq] at h
  obtain ⟨⟨⟨⟨h1, h2⟩, h3⟩, h4⟩, h5⟩ := h
  have hr : r < 2 ^ k := Nat.lt_of_le_of_lt (Nat.le_mul_of_pos_left r (by have := hq.1; omega)) h2
  rw [pm_eq n a k _ h2] at h3
  rw [pm_eq n a k _ hr] at h4 h5
  exact pock hq h1 h3 (a ^ r % n - 1) (by omega) h5 hp hd

theorem both_divide {q1 q2 m : Nat} (hc : Nat.gcd q1 q2 = 1) (h1 : q1 ∣ m) (h2 : q2 ∣ m) : q1 * q2 ∣ m := Nat.Coprime.mul_dvd_of_dvd_of_dvd hc h1 h2

theorem of_two {n q1 r1 a1 q2 r2 a2 k : Nat} (h2 : 2 ≤ n) (hq1 : IsPrime q1) (hq2 : IsPrime q2) (c1 : cert n q1 r1 a1 k = true) (c2 : cert n q2 r2 a2 k = true) (hc : Nat.gcd q1 q2 = 1) (hb : n < (q1 * q2 + 1) * (q1 * q2 + 1)) : IsPrime n := by
  refine prime_of_small n h2 fun p hp hd => ?_
  have h := both_divide hc (cert_spec hq1 c1 hp hd) (cert_spec hq2 c2 hp hd)
  have hp2 := hp.1
  have hle := Nat.le_of_dvd (by omega) h
  exact Nat.lt_of_lt_of_le hb (Nat.mul_le_mul (by omega) (by omega))
theorem of_one {n q r a k : Nat} (h2 : 2 ≤ n) (hq : IsPrime q) (c : cert n q r a k = true) (hb : n < (q + 1) * (q + 1)) : IsPrime n := by
  refine prime_of_small n h2 fun p hp hd => ?_
  have h := cert_spec hq c hp hd
  have hp2 := hp.1
  have hle := Nat.le_of_dvd (by omega) h
  exact Nat.lt_of_lt_of_le hb (Nat.mul_le_mul (by omega) (by omega))

theorem p127 : IsPrime 127 := prime_of_trial _ 20 (by omega) (by omega) (by decide +kernel)
theorem p57467 : IsPrime 57467 := prime_of_trial _ 300 (by omega) (by omega) (by decide +kernel)
theorem p75707 : IsPrime 75707 := prime_of_trial _ 300 (by omega) (by omega) (by decide +kernel)
theorem p8574133 : IsPrime 8574133 := prime_of_trial _ 3000 (by omega) (by omega) (by decide +kernel)
theorem p51 : IsPrime 1919519569386763 := of_two (by decide +kernel) p8574133 p127 (c1 := (by decide +kernel : cert 1919519569386763 8574133 223873314 2 60 = true)) (c2 := (by decide +kernel : cert 1919519569386763 127 15114327318006 2 60 = true)) (by decide +kernel) (by decide +kernel)
theorem p116 : IsPrime 75445702479781427272750846543864801 := of_two (by decide +kernel) p51 p75707 (c1 := (by decide +kernel : cert 75445702479781427272750846543864801 1919519569386763 39304471641247389600 2 120 = true)) (c2 := (by decide +kernel : cert 75445702479781427272750846543864801 75707 996548568557483816196003626400 2 120 = true)) (by decide +kernel) (by decide +kernel)
theorem p236 : IsPrime 74058212732561358302231226437062788676166966415465897661863160754340907 := of_two (by decide +kernel) p116 p57467 (c1 := (by decide +kernel : cert 74058212732561358302231226437062788676166966415465897661863160754340907 75445702479781427272750846543864801 981609426360740691344999861639072106 2 240 = true)) (c2 := (by decide +kernel : cert 74058212732561358302231226437062788676166966415465897661863160754340907 57467 1288708523719027586305727224964984924846728842909250485702458119518 2 240 = true)) (by decide +kernel) (by decide +kernel)
theorem prime_lit : IsPrime 57896044618658097711785492504343953926634992332820282019728792003956564819949 := of_one (by decide +kernel) p236 (by decide +kernel : cert 57896044618658097711785492504343953926634992332820282019728792003956564819949 74058212732561358302231226437062788676166966415465897661863160754340907 781764 2 256 = true) (by decide +kernel)
theorem prime_P : IsPrime P := by
  unfold P
  exact prime_lit

/-- what is not 0 times its inverse is 1 -/
theorem inv_mul {a : Nat} (ha : a < P) (h0 : a ≠ 0) : a * (a ^ (P - 2) % P) % P = 1 := by
  have h := fermat prime_P (x := a) (fun h => by
    have := Nat.le_of_dvd (by omega) h
    omega)
  rw [Nat.mul_mod_mod, Nat.mul_comm, ← Nat.pow_succ, show (P - 2).succ = P - 1 by have := P_big; omega, h]

theorem inv_ne {a : Nat} (ha : a < P) (h0 : a ≠ 0) : a ^ (P - 2) % P ≠ 0 := fun e => by
  have h := inv_mul ha h0
  rw [e, Nat.mul_zero, Nat.zero_mod] at h
  omega

theorem inv_inv {a : Nat} (ha : a < P) (h0 : a ≠ 0) : (a ^ (P - 2) % P) ^ (P - 2) % P = a := by
  have h1 := inv_mul ha h0
  have hne := inv_ne ha h0
  have hlt : a ^ (P - 2) % P < P := Nat.mod_lt _ P_pos
  generalize a ^ (P - 2) % P = u at h1 hne hlt
  have h2 := inv_mul hlt hne
  have ht : u ^ (P - 2) % P < P := Nat.mod_lt _ P_pos
  generalize u ^ (P - 2) % P = t at h2 ht
  have h4 : u * t * a % P = a := by rw [Nat.mul_mod, h2, Nat.one_mul, Nat.mod_mod, Nat.mod_eq_of_lt ha]
  have h5 : u * t * a % P = t := by rw [show u * t * a = t * (a * u) by ac_rfl, ← Nat.mul_mod_mod t (a * u), h1, Nat.mul_one, Nat.mod_eq_of_lt ht]
  rw [← h5, h4]

end PrimeP
end Go.Proofs.Ytnopjjkijedpeaa
