/- The order of measures, as plain arithmetic of their 64 digits. Nothing of the program. -/
import Derived.Test.YteombmahglbeeaaKit
import Derived.Test.YteombmahglbeeaaFloNum
import Derived.WalkLawsBesides
namespace Go.Proofs.Yteombmahglbeeaa
namespace Fl
open Num
/-- a number that rises as measures do -/
def place (x : Nat) : Nat := if x < 9223372036854775808 then x + 9223372036854775808 else 18446744073709551615 - x
theorem place_lt {x : Nat} (hx : x < 18446744073709551616) : place x < 18446744073709551616 := by unfold place; split <;> omega
theorem place_inj {x y : Nat} (hx : x < 18446744073709551616) (hy : y < 18446744073709551616) (h : place x = place y) : x = y := by
  unfold place at h; split at h <;> split at h <;> omega
def ordI (x y : Nat) : Int := if place x < place y then -1 else if place x = place y then 0 else 1
theorem ordI_cases (x y : Nat) : place x < place y ∧ ordI x y = -1 ∨ place x = place y ∧ ordI x y = 0 ∨ place y < place x ∧ ordI x y = 1 := by
  unfold ordI
  rcases Nat.lt_trichotomy (place x) (place y) with h | h | h
  · exact .inl ⟨h, if_pos h⟩
  · exact .inr (.inl ⟨h, by rw [if_neg (by omega), if_pos h]⟩)
  · exact .inr (.inr ⟨h, by rw [if_neg (by omega), if_neg (by omega)]⟩)
def NAN : Nat := 9221120237041090561
def least (x y : Nat) : Nat := if isNum x = true ∧ isNum y = true then (if place y < place x then y else x) else NAN
def greatest (x y : Nat) : Nat := if isNum x = true ∧ isNum y = true then (if place x < place y then y else x) else NAN
def told (x : Nat) : Nat := if isNum x then x else NAN
/-- what is less is ahead -/
theorem ahead {x y : Nat} (hx : isNum x = true) (hy : isNum y = true) (hx2 : x < 18446744073709551616) (hy2 : y < 18446744073709551616) (h : pos x < pos y) : place x < place y := by
  unfold isNum rung at hx hy
  rw [decide_eq_true_eq] at hx hy
  unfold pos rung neg at h
  unfold place
  by_cases a : x < 9223372036854775808 <;> by_cases b : y < 9223372036854775808
  · rw [if_pos a, if_pos b]
    have e1 : x / 9223372036854775808 = 0 := by omega
    have e2 : y / 9223372036854775808 = 0 := by omega
    rw [e1, e2] at h
    simp at h
    omega
  · have e1 : x / 9223372036854775808 = 0 := by omega
    have e2 : y / 9223372036854775808 = 1 := by omega
    rw [e1, e2] at h
    simp at h
    omega
  · rw [if_neg a, if_pos b]; omega
  · rw [if_neg a, if_neg b]
    have e1 : x / 9223372036854775808 = 1 := by omega
    have e2 : y / 9223372036854775808 = 1 := by omega
    rw [e1, e2] at h
    simp at h
    omega
theorem and63 (x : Nat) (hx : x < 18446744073709551616) : bits .and .u64 (x : Int) 9223372036854775808 = if x < 9223372036854775808 then 0 else 9223372036854775808 := by
  have h : (BitVec.ofInt 64 (x : Int) &&& BitVec.ofInt 64 9223372036854775808).toNat = if x < 9223372036854775808 then 0 else 9223372036854775808 := by
    rw [BitVec.toNat_and, BitVec.toNat_ofInt, show ((x : Int) % ((2 ^ 64 : Nat) : Int)).toNat = x by omega, show (BitVec.ofInt 64 9223372036854775808).toNat = 2 ^ 63 from rfl]
    refine Nat.eq_of_testBit_eq fun i => ?_
    rw [Nat.testBit_and, Nat.testBit_two_pow]
    by_cases hi : 63 = i
    · subst hi
      by_cases hs : x < 9223372036854775808
      · rw [if_pos hs, Nat.testBit_lt_two_pow (show x < 2 ^ 63 from hs)]; simp
      · rw [if_neg hs, show (9223372036854775808 : Nat) = 2 ^ 63 from rfl, Nat.testBit_two_pow]
        have : x.testBit 63 = true := by
          rw [Nat.testBit, Nat.shiftRight_eq_div_pow, show x / 2 ^ 63 = 1 by omega]; rfl
        rw [this]; rfl
    · rw [decide_eq_false hi, Bool.and_false]
      split
      · simp
      · rw [show (9223372036854775808 : Nat) = 2 ^ 63 from rfl, Nat.testBit_two_pow, decide_eq_false hi]
  show IntKind.u64.wrap ((BitVec.ofInt 64 (x : Int) &&& BitVec.ofInt 64 9223372036854775808).toNat : Int) = _
  rw [h]
  split <;> rfl
theorem or63 (x : Nat) (hx : x < 9223372036854775808) : bits .or .u64 (x : Int) 9223372036854775808 = ((x + 9223372036854775808 : Nat) : Int) := by
  have h : (BitVec.ofInt 64 (x : Int) ||| BitVec.ofInt 64 9223372036854775808).toNat = x + 9223372036854775808 := by
    rw [BitVec.toNat_or, BitVec.toNat_ofInt, show ((x : Int) % ((2 ^ 64 : Nat) : Int)).toNat = x by omega, show (BitVec.ofInt 64 9223372036854775808).toNat = 2 ^ 63 from rfl, Nat.or_comm]
    have := Nat.two_pow_add_eq_or_of_lt (show x < 2 ^ 63 from hx) 1
    rw [Nat.mul_one] at this
    rw [← this]
    omega
  show IntKind.u64.wrap ((BitVec.ofInt 64 (x : Int) ||| BitVec.ofInt 64 9223372036854775808).toNat : Int) = _
  rw [h, wrap64_nat, Nat.mod_eq_of_lt (by omega)]
theorem andnot63 (x : Nat) (hx : x < 18446744073709551616) : bits .andNot .u64 (x : Int) 9223372036854775808 = ((x % 9223372036854775808 : Nat) : Int) := by
  have h : (BitVec.ofInt 64 (x : Int) &&& ~~~ BitVec.ofInt 64 9223372036854775808).toNat = x % 9223372036854775808 := by
    rw [BitVec.toNat_and, BitVec.toNat_ofInt, show ((x : Int) % ((2 ^ 64 : Nat) : Int)).toNat = x by omega, show (~~~ BitVec.ofInt 64 9223372036854775808).toNat = 2 ^ 63 - 1 from rfl, Nat.and_two_pow_sub_one_eq_mod]
  show IntKind.u64.wrap ((BitVec.ofInt 64 (x : Int) &&& ~~~ BitVec.ofInt 64 9223372036854775808).toNat : Int) = _
  rw [h, wrap64_nat, Nat.mod_eq_of_lt (by omega)]
theorem not64 (x : Nat) (hx : x < 18446744073709551616) : bits .xor .u64 IntKind.u64.max (x : Int) = 18446744073709551615 - (x : Int) := by
  have h : (BitVec.ofInt 64 IntKind.u64.max ^^^ BitVec.ofInt 64 (x : Int)).toNat = 18446744073709551615 - x := by
    rw [show BitVec.ofInt 64 IntKind.u64.max = BitVec.allOnes 64 from by decide, BitVec.allOnes_xor, BitVec.toNat_not, BitVec.toNat_ofInt, show ((x : Int) % ((2 ^ 64 : Nat) : Int)).toNat = x by omega]
  show IntKind.u64.wrap ((BitVec.ofInt 64 IntKind.u64.max ^^^ BitVec.ofInt 64 (x : Int)).toNat : Int) = _
  rw [h, IntKind.wrap_u64]
  omega
theorem counts_num {x : Nat} (h : counts x = true) : isNum x = true := by
  unfold counts at h; unfold isNum
  rw [decide_eq_true_eq] at h ⊢
  omega
theorem rung_small {x : Nat} (h : x < 9223372036854775808) : rung x = x ∧ neg x = false := by
  unfold rung neg
  refine ⟨Nat.mod_eq_of_lt h, ?_⟩
  rw [show x / 9223372036854775808 = 0 by omega]
  rfl
/-- is it beyond the greatest number? -/
theorem over_max (x : Nat) (h : isNum x = true) : (Ieee.double.order (x % 9223372036854775808) 9218868437227405311 == some .gt) = !counts x := by
  have hr := rung_small (Nat.mod_lt x (show 9223372036854775808 > 0 by omega))
  have hm := rung_small (show 9218868437227405311 < 9223372036854775808 by decide)
  have e : rung (x % 9223372036854775808) = rung x := hr.1
  unfold isNum at h
  rw [decide_eq_true_eq] at h
  rw [order_pos (by unfold isNum; rw [e]; exact decide_eq_true h) (by unfold isNum; rw [hm.1]; decide)]
  unfold pos counts
  rw [hr.2, hm.2, e, hm.1]
  simp only [compare, compareOfLessAndEq]
  by_cases a : rung x < 9218868437227405312
  · rw [decide_eq_true a]
    by_cases b : (rung x : Int) < (9218868437227405311 : Int)
    · simp [b]
    · have c : (rung x : Int) = 9218868437227405311 := by omega
      simp [c]
  · rw [decide_eq_false a]
    have b : ¬ (rung x : Int) < (9218868437227405311 : Int) := by omega
    have c : ¬ (rung x : Int) = (9218868437227405311 : Int) := by omega
    simp [b, c]
end Fl
end Go.Proofs.Yteombmahglbeeaa
