/- The call times of package poly: the product of two numbers of five limbs modulo the prime. -/
import Derived.Test.YthjmbfhakccomaaLimbs
import Derived.Test.YthjmbfhakccomaaCatB
import Derived.Test.YthjmbfhakccomaaTree
namespace Go.Proofs.Ythjmbfhakccomaa
namespace Poly
open Go.ChangeShapes Go.WideShapes Go.ChangeAt Go.RowKit
open Num Mem Words PolyN Chacha

theorem times_put {a b : Nat → Nat} {i j m : Nat} (hm : (i + j) % 5 = m) : ∀ k, k < 5 → (if k = m then tm a b i (j + 1) m else tm a b i j k) = tm a b i (j + 1) k := by
  intro k _
  by_cases e : k = m
  · subst e
    rw [if_pos rfl]
  · rw [if_neg e, tm_step, if_neg (by omega), Nat.add_zero]

theorem mul_five (x y t s : Nat) (hx : x < 268435456) (hy : y < 67108864) (ht : t < 4611686018427387904) (hs : s = t + x * y * 5) :
    IntKind.u64.wrap ((t : Int) + IntKind.u64.wrap ((x : Int) * (y : Int) * 5)) = ((s : Nat) : Int) := by
  have h : x * y ≤ 268435456 * 67108864 := Nat.mul_le_mul (Nat.le_of_lt hx) (Nat.le_of_lt hy)
  rw [show (x : Int) * (y : Int) * 5 = ((x * y * 5 : Nat) : Int) by rw [Int.natCast_mul, Int.natCast_mul]; rfl, wrap64_nat, Nat.mod_eq_of_lt (by omega), ← Int.natCast_add, wrap64_nat, Nat.mod_eq_of_lt (by omega), hs]
theorem mul_one (x y t s : Nat) (hx : x < 268435456) (hy : y < 67108864) (ht : t < 4611686018427387904) (hs : s = t + x * y * 1) :
    IntKind.u64.wrap ((t : Int) + (x : Int) * (y : Int)) = ((s : Nat) : Int) := by
  have h : x * y ≤ 268435456 * 67108864 := Nat.mul_le_mul (Nat.le_of_lt hx) (Nat.le_of_lt hy)
  rw [show (x : Int) * (y : Int) = ((x * y : Nat) : Int) by rw [Int.natCast_mul], ← Int.natCast_add, wrap64_nat, Nat.mod_eq_of_lt (by omega), hs, Nat.mul_one]

end Poly
end Go.Proofs.Ythjmbfhakccomaa
