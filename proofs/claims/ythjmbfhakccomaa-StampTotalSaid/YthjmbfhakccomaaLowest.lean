/- The call lowest of package poly: the number below the prime. -/
import Derived.Test.YthjmbfhakccomaaTimes
import Derived.StillTailTactics
namespace Go.Proofs.Ythjmbfhakccomaa
namespace Poly
open Go.ChangeShapes Go.WideShapes Go.ChangeAt Go.RowKit
open Num Mem Words PolyN Chacha

theorem pick_zero (x y : Nat) (hx : x < 18446744073709551616) (hy : y < 18446744073709551616) : bits .or .u64 (bits .and .u64 (x : Int) 0) (bits .andNot .u64 (y : Int) 0) = ((y : Nat) : Int) := by
  have h1 := u64_and_nat x 0 hx (by omega)
  have h2 := u64_andNot_nat y 0 hy (by omega)
  rw [Nat.and_zero] at h1
  rw [show 18446744073709551615 - 0 = 2 ^ 64 - 1 from rfl, Nat.and_two_pow_sub_one_eq_mod, Nat.mod_eq_of_lt hy] at h2
  have h3 := u64_or_nat 0 y (by omega) hy
  rw [Nat.zero_or] at h3
  rw [show (0 : Int) = ((0 : Nat) : Int) from rfl, h1, h2, h3]
theorem pick_ones (x y : Nat) (hx : x < 18446744073709551616) (hy : y < 18446744073709551616) : bits .or .u64 (bits .and .u64 (x : Int) (IntKind.u64.wrap (-1))) (bits .andNot .u64 (y : Int) (IntKind.u64.wrap (-1))) = ((x : Nat) : Int) := by
  have h1 := u64_and_nat x 18446744073709551615 hx (by omega)
  have h2 := u64_andNot_nat y 18446744073709551615 hy (by omega)
  rw [show (18446744073709551615 : Nat) = 2 ^ 64 - 1 from rfl, Nat.and_two_pow_sub_one_eq_mod, Nat.mod_eq_of_lt hx] at h1
  rw [Nat.sub_self, Nat.and_zero] at h2
  have h3 := u64_or_nat x 0 hx (by omega)
  rw [Nat.or_zero] at h3
  rw [show IntKind.u64.wrap (-1) = ((2 ^ 64 - 1 : Nat) : Int) by rw [IntKind.wrap_u64]; rfl, h1, show ((2 ^ 64 - 1 : Nat) : Int) = ((18446744073709551615 : Nat) : Int) from rfl, h2, h3]

end Poly
end Go.Proofs.Ythjmbfhakccomaa
