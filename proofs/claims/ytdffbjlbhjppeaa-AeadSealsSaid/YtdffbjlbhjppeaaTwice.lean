/- 'aditlaw02.ChachaTwice' returns true at every input and writes nothing that was there: the walk. No condition. -/
import Derived.Test.YtdffbjlbhjppeaaAliveTwo
namespace Go.Proofs.Ytdffbjlbhjppeaa
namespace ChachaTwice
open Go.ChangeShapes Go.WideShapes Go.ChangeAt Go.RowKit
open Num Mem Words State Quiet Chacha

theorem xo_lt (key nonce : Nat → Nat) (ctr : Nat) (f : Nat → Nat) (hf : ∀ i, f i < 256) (j : Nat) : xo key nonce ctr f j < 256 :=
  Nat.xor_lt_two_pow (n := 8) (hf j) (blk_lt _ _ _ _)
theorem xo_xo (key nonce : Nat → Nat) (ctr : Nat) (f : Nat → Nat) (j : Nat) : xo key nonce ctr (xo key nonce ctr f) j = f j := by
  unfold xo
  rw [Nat.xor_assoc, Nat.xor_self, Nat.xor_zero]

end ChachaTwice
end Go.Proofs.Ytdffbjlbhjppeaa
