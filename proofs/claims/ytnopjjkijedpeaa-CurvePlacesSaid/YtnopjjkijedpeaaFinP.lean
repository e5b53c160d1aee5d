/- The numbers modulo 2^255 - 19 as a field, and the curve's number, which is no square. Nothing of the program. -/
import Derived.Test.YtnopjjkijedpeaaLadderTwo
import Derived.Test.YtnopjjkijedpeaaPrimeP
namespace Go.Proofs.Ytnopjjkijedpeaa
namespace Edwards
open Primes PrimeP FieldN

instance neP : NeZero P := ⟨by have := P_pos; omega⟩

def ivP (a : Fin P) : Fin P := ⟨a.val ^ (P - 2) % P, Nat.mod_lt _ P_pos⟩
theorem val_zero : ((0 : Fin P) : Fin P).val = 0 := rfl
theorem eq_zero (a : Fin P) : a = 0 ↔ a.val = 0 := by rw [Fin.ext_iff, val_zero]
theorem val_one : ((1 : Fin P) : Fin P).val = 1 := by
  show 1 % P = 1
  exact Nat.mod_eq_of_lt (by have := P_big; omega)
theorem val_mul (a b : Fin P) : (a * b).val = a.val * b.val % P := Fin.val_mul a b

theorem domP (a b : Fin P) (h : a * b = 0) : a = 0 ∨ b = 0 := by
  rw [eq_zero, val_mul] at h
  rcases prime_P.euclid (Nat.dvd_of_mod_eq_zero h) with e | e
  · left
    rw [eq_zero]
    exact Nat.eq_zero_of_dvd_of_lt e a.isLt
  · right
    rw [eq_zero]
    exact Nat.eq_zero_of_dvd_of_lt e b.isLt
theorem invP (a : Fin P) (h : a ≠ 0) : a * ivP a = 1 := by
  rw [Fin.ext_iff, val_mul, val_one]
  exact inv_mul a.isLt (fun e => h ((eq_zero a).2 e))
theorem none_pow (n e : Nat) (h : 0 < e) : 0 ^ e % n = 0 := by rw [Nat.zero_pow h, Nat.zero_mod]
theorem ivP_val (a : Fin P) : (ivP a).val = a.val ^ (P - 2) % P := rfl
theorem ivP_of (a : Fin P) (h : a.val = 0) : ivP a = 0 := by
  rw [eq_zero, ivP_val, h]
  exact none_pow P (P - 2) (by have := P_big; omega)
theorem ivP_zero : ivP 0 = 0 := ivP_of 0 val_zero

/-- half of the prime less 1 -/
def hP : Nat := (P - 1) / 2
theorem two_hP : 2 * hP = P - 1 := by
  unfold hP P
  decide
/-- what is no square by Euler's sign: x^2 = d y^2 only where y is 0 -/
theorem no_square (d x y : Nat) (hd : d ^ hP % P = P - 1) (h : x * x % P = d * (y * y) % P) (hy : y < P) : y = 0 := by
  apply Classical.byContradiction
  intro hy0
  have hp2 := P_big
  have ny : ¬ P ∣ y := fun e => hy0 (Nat.eq_zero_of_dvd_of_lt e hy)
  have fy := fermat prime_P ny
  have e1 : (x * x) ^ hP % P = (d * (y * y)) ^ hP % P := by rw [Nat.pow_mod, h, ← Nat.pow_mod]
  have sq : ∀ z : Nat, (z * z) ^ hP = z ^ (P - 1) := fun z => by rw [← two_hP, Nat.pow_mul, Nat.pow_two]
  rw [sq x, Nat.mul_pow d, sq y, Nat.mul_mod (d ^ hP), fy, hd, Nat.mul_one, Nat.mod_eq_of_lt (a := P - 1) (by omega)] at e1
  by_cases nx : P ∣ x
  · have : P ∣ x ^ (P - 1) := Nat.dvd_trans nx (by
      obtain ⟨m, hm⟩ : ∃ m, P - 1 = m + 1 := ⟨P - 2, by omega⟩
      rw [hm, Nat.pow_succ]
      exact Nat.dvd_mul_left _ _)
    rw [Nat.mod_eq_zero_of_dvd this] at e1
    omega
  · rw [fermat prime_P nx] at e1
    omega

theorem val_two : ((2 : Fin P) : Fin P).val = 2 := by
  show 2 % P = 2
  exact Nat.mod_eq_of_lt (by have := P_big; omega)

/-- a field with a number that is no square -/
def mk (d : Fin P) (hd : d.val ^ hP % P = P - 1) : Ctx P where
  d := d
  iv := ivP
  dom := domP
  inv := invP
  one := fun e => by rw [eq_zero, val_one] at e; omega
  two := fun e => by rw [eq_zero, val_two] at e; omega
  non := fun x y h => by
    rw [eq_zero]
    refine no_square d.val x.val y.val hd ?_ y.isLt
    have := congrArg Fin.val h
    rw [val_mul, val_mul, val_mul, Nat.mul_mod_mod] at this
    exact this

end Edwards
end Go.Proofs.Ytnopjjkijedpeaa
