/- Numbers modulo 2^255 - 19 as five limbs of 51 digits: what is lowered, and products by limbs. Nothing of the program. -/
import Derived.Test.YtnopjjkijedpeaaRadix
namespace Go.Proofs.Ytnopjjkijedpeaa
namespace FieldN
open Radix

/-- 2^255 -/
@[irreducible] def T : Nat := 57896044618658097711785492504343953926634992332820282019728792003956564819968
/-- the prime -/
@[irreducible] def P : Nat := 57896044618658097711785492504343953926634992332820282019728792003956564819949

theorem T_pow : (2251799813685248 : Nat) ^ 5 = T := by unfold T; decide
theorem T_two : (2 : Nat) ^ 255 = T := by unfold T; decide
theorem P_T : P + 19 = T := by unfold T P; decide
theorem T_big : 57896044618658097711785492504343953926634992332820282019728792003956564819968 ≤ T := by unfold T; exact Nat.le_refl _
theorem P_big : 2 ^ 128 ≤ P := by unfold P; decide
theorem P_pos : 0 < P := Nat.lt_of_lt_of_le (Nat.two_pow_pos 128) P_big

/-- what is taken of bytes -/
def tk (f : Nat → Nat) : Nat := Num.le f 0 32 % T % P
theorem tk_lt (f : Nat → Nat) : tk f < P := Nat.mod_lt _ P_pos

/-! ### the lowest number -/
theorem low_over (a : Nat → Nat) (h : rv 2251799813685248 a 5 < 2 * P) : cy 2251799813685248 a 19 5 = if rv 2251799813685248 a 5 < P then 0 else 1 := by
  rw [cy_div (by omega), T_pow]
  have h1 := P_T
  have h2 := P_big
  split
  · rw [Nat.div_eq_of_lt (by omega)]
  · rw [show rv 2251799813685248 a 5 + 19 = rv 2251799813685248 a 5 - P + T by omega, Nat.add_div_right _ (by omega), Nat.div_eq_of_lt (by omega)]

theorem low_stay (a : Nat → Nat) (h : rv 2251799813685248 a 5 < 2 * P) (i : Nat) (hi : i < 5) : (a i + cy 2251799813685248 a (19 * cy 2251799813685248 a 19 5) i) % 2251799813685248 = dg 2251799813685248 (rv 2251799813685248 a 5 % P) i := by
  rw [cy_stay (by omega) a _ 5 i hi, low_over a h]
  have h1 := P_T
  split
  · rename_i k
    rw [Nat.mod_eq_of_lt k, Nat.mul_zero, Nat.add_zero]
  · rename_i k
    rw [Nat.mod_eq_sub_mod (by omega), Nat.mod_eq_of_lt (a := rv 2251799813685248 a 5 - P) (by omega), show rv 2251799813685248 a 5 + 19 * 1 = rv 2251799813685248 a 5 - P + 1 * 2251799813685248 ^ 5 by rw [T_pow]; omega, dg_low (by omega) _ _ i 5 hi]

/-- with a number more at the first limb -/
theorem rv_first (a : Nat → Nat) (x : Nat) : rv 2251799813685248 (fun i => if i = 0 then a 0 + x else a i) 5 = rv 2251799813685248 a 5 + x := by
  simp only [rv, show ¬ (1 = 0) from by omega, show ¬ (2 = 0) from by omega, show ¬ (3 = 0) from by omega, show ¬ (4 = 0) from by omega, if_true, if_false, Nat.pow_zero, Nat.mul_one, Nat.zero_add]
  omega

theorem rv_add (X : Nat) (a b : Nat → Nat) (k : Nat) : rv X (fun i => a i + b i) k = rv X a k + rv X b k := by
  induction k with
  | zero => rfl
  | succ k ih => rw [rv, rv, rv, ih, Nat.add_mul]; omega

/-- the limbs of a number below 2^255 -/
theorem rv_limbs (v : Nat) (h : v < T) : rv 2251799813685248 (dg 2251799813685248 v) 5 = v := by rw [rv_dg, T_pow, Nat.mod_eq_of_lt h]

theorem P_le_T : P ≤ T := by have := P_T; omega
theorem below_T {v : Nat} (h : v < P) : v < T := Nat.lt_of_lt_of_le h P_le_T

/-- what goes past 2^255 comes back nineteen times -/
theorem back_mod (v : Nat) : (v % T + 19 * (v / T)) % P = v % P := by
  have h1 := Nat.div_add_mod v T
  have h2 : v = v % T + 19 * (v / T) + P * (v / T) := by
    have : T * (v / T) = P * (v / T) + 19 * (v / T) := by rw [← Nat.add_mul, P_T]
    omega
  conv => rhs; rw [h2, Nat.add_mul_mod_self_left]

/-! ### differences -/
def mo (i : Nat) : Nat := if i = 0 then 4503599627370458 else 4503599627370494
theorem rv_mo : rv 2251799813685248 mo 5 = 2 * P := by unfold P; decide

/-! ### products -/
/-- the row of the second factor's limbs: nineteen times, then once -/
def rw5 (b : Nat → Nat) (n : Nat) : Nat := if n < 5 then 19 * b n else b (n - 5)
/-- what is summed into limb i, of the first j products -/
def sm (a b : Nat → Nat) (i : Nat) : Nat → Nat
  | 0 => 0
  | j + 1 => sm a b i j + a j * rw5 b (5 + i - j)

theorem sm_lt (a b : Nat → Nat) (ha : ∀ i, i < 5 → a i < 2251799813685248) (hb : ∀ i, i < 5 → b i < 2251799813685248) (i : Nat) (hi : i < 5) : ∀ j, j ≤ 5 → sm a b i j ≤ j * (2251799813685248 * 42784196460019712)
  | 0, _ => by simp [sm]
  | j + 1, hj => by
    have h1 := sm_lt a b ha hb i hi j (by omega)
    have h2 := ha j (by omega)
    have h3 : rw5 b (5 + i - j) ≤ 42784196460019712 := by
      unfold rw5
      split
      · rename_i k
        have := hb (5 + i - j) k
        omega
      · have := hb (5 + i - j - 5) (by omega)
        omega
    have h4 : a j * rw5 b (5 + i - j) ≤ 2251799813685248 * 42784196460019712 := Nat.mul_le_mul (Nat.le_of_lt h2) h3
    rw [sm, Nat.add_mul]
    omega

theorem prod_ring (X a0 a1 a2 a3 a4 b0 b1 b2 b3 b4 : Int) :
    (a0 + a1 * X + a2 * X ^ 2 + a3 * X ^ 3 + a4 * X ^ 4) * (b0 + b1 * X + b2 * X ^ 2 + b3 * X ^ 3 + b4 * X ^ 4) =
    (a0 * b0 + 19 * (a1 * b4 + a2 * b3 + a3 * b2 + a4 * b1)) + (a0 * b1 + a1 * b0 + 19 * (a2 * b4 + a3 * b3 + a4 * b2)) * X + (a0 * b2 + a1 * b1 + a2 * b0 + 19 * (a3 * b4 + a4 * b3)) * X ^ 2
      + (a0 * b3 + a1 * b2 + a2 * b1 + a3 * b0 + 19 * (a4 * b4)) * X ^ 3 + (a0 * b4 + a1 * b3 + a2 * b2 + a3 * b1 + a4 * b0) * X ^ 4
      + (X ^ 5 - 19) * ((a1 * b4 + a2 * b3 + a3 * b2 + a4 * b1) + (a2 * b4 + a3 * b3 + a4 * b2) * X + (a3 * b4 + a4 * b3) * X ^ 2 + a4 * b4 * X ^ 3) := by grind

theorem prod_nat (X p a0 a1 a2 a3 a4 b0 b1 b2 b3 b4 : Nat) (hp : p + 19 = X ^ 5) :
    (a0 + a1 * X + a2 * X ^ 2 + a3 * X ^ 3 + a4 * X ^ 4) * (b0 + b1 * X + b2 * X ^ 2 + b3 * X ^ 3 + b4 * X ^ 4) =
    (a0 * b0 + 19 * (a1 * b4 + a2 * b3 + a3 * b2 + a4 * b1)) + (a0 * b1 + a1 * b0 + 19 * (a2 * b4 + a3 * b3 + a4 * b2)) * X + (a0 * b2 + a1 * b1 + a2 * b0 + 19 * (a3 * b4 + a4 * b3)) * X ^ 2
      + (a0 * b3 + a1 * b2 + a2 * b1 + a3 * b0 + 19 * (a4 * b4)) * X ^ 3 + (a0 * b4 + a1 * b3 + a2 * b2 + a3 * b1 + a4 * b0) * X ^ 4
      + p * ((a1 * b4 + a2 * b3 + a3 * b2 + a4 * b1) + (a2 * b4 + a3 * b3 + a4 * b2) * X + (a3 * b4 + a4 * b3) * X ^ 2 + a4 * b4 * X ^ 3) := by
  have h := prod_ring X a0 a1 a2 a3 a4 b0 b1 b2 b3 b4
  have e : (X : Int) ^ 5 - 19 = (p : Int) := by
    have : ((p + 19 : Nat) : Int) = ((X ^ 5 : Nat) : Int) := by rw [hp]
    rw [Int.natCast_add, Int.natCast_pow] at this
    omega
  rw [e] at h
  apply Int.ofNat.inj
  show ((_ : Nat) : Int) = ((_ : Nat) : Int)
  simp only [Int.natCast_add, Int.natCast_mul, Int.natCast_pow]
  exact h

theorem sm_val (a b : Nat → Nat) : ∃ h, rv 2251799813685248 a 5 * rv 2251799813685248 b 5 = rv 2251799813685248 (fun i => sm a b i 5) 5 + P * h := by
  have h := prod_nat 2251799813685248 P (a 0) (a 1) (a 2) (a 3) (a 4) (b 0) (b 1) (b 2) (b 3) (b 4) (by rw [P_T, T_pow])
  generalize 2251799813685248 = X at h ⊢
  refine ⟨(a 1 * b 4 + a 2 * b 3 + a 3 * b 2 + a 4 * b 1) + (a 2 * b 4 + a 3 * b 3 + a 4 * b 2) * X + (a 3 * b 4 + a 4 * b 3) * X ^ 2 + a 4 * b 4 * X ^ 3, ?_⟩
  have e : ∀ c : Nat → Nat, rv X c 5 = c 0 + c 1 * X + c 2 * X ^ 2 + c 3 * X ^ 3 + c 4 * X ^ 4 := fun c => by
    simp only [rv, Nat.pow_zero, Nat.mul_one, Nat.zero_add, Nat.pow_one]
  rw [e a, e b, e, h]
  congr 1
  simp only [sm, rw5, Nat.zero_add, Nat.reduceAdd, Nat.reduceSub, Nat.reduceLT, if_true, if_false]
  grind

end FieldN
end Go.Proofs.Ytnopjjkijedpeaa
