/- The call Equal of package words at any bytes: true just where they are the same. -/
import Derived.Test.YthjmbfhakccomaaWordsHex
namespace Go.Proofs.Ythjmbfhakccomaa
namespace Words
open Go.ChangeShapes Go.WideShapes Go.ChangeAt Go.RowKit
open Num Mem

theorem or_xor (u x y : Nat) (hu : u < 256) (hx : x < 256) (hy : y < 256) : bits .or .u8 (u : Int) (bits .xor .u8 (x : Int) (y : Int)) = ((u ||| (x ^^^ y) : Nat) : Int) := by
  have hxy : x ^^^ y < 2 ^ 8 := Nat.xor_lt_two_pow hx hy
  rw [u8_xor_nat _ _ hx hy, u8_or_nat _ _ hu hxy]

theorem or_zero (u x y : Nat) : u ||| (x ^^^ y) = 0 ↔ u = 0 ∧ x = y := by
  constructor
  · intro h
    have hb : ∀ i, u.testBit i = false ∧ (x ^^^ y).testBit i = false := by
      intro i
      have := congrArg (fun n => n.testBit i) h
      simpa using this
    refine ⟨Nat.eq_of_testBit_eq fun i => by simpa using (hb i).1, Nat.eq_of_testBit_eq fun i => ?_⟩
    have := (hb i).2
    simpa using this
  · rintro ⟨rfl, rfl⟩
    simp

end Words
end Go.Proofs.Ythjmbfhakccomaa
