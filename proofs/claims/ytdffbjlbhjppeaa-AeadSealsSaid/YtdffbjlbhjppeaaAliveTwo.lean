/- 'alive' of the statements of layer 2: the fixed calls come out as they must, and nothing that was there is written. -/
import Derived.Test.YtdffbjlbhjppeaaXor
import Derived.Deep.Cut
namespace Go.Proofs.Ytdffbjlbhjppeaa
namespace Chacha
open Go.ChangeShapes Go.WideShapes Go.ChangeAt Go.RowKit
open Num Mem Words State Quiet

theorem cut_call {P : Program} {f : FuncId} {args : Array Value} {Q : Ending → World → Prop} {w : World} (R : World → Prop) (hR : R w) (h : ∀ w', R w' → Calls P f args w' Q) : Calls P f args w Q := h w hR
theorem whole_kept {w w' : World} {g : Nat} {t : TypeId} {cs : Array Value} (h : Whole w g t cs) (hb : Below w.heap.size w w') : Whole w' g t cs := h.below hb h.lt

def noughts : Nat → Nat := fun _ => 0
theorem noughts_lt (i : Nat) : noughts i < 256 := by unfold noughts; omega
theorem nought_block : blk noughts noughts 0 0 = 118 ∧ blk noughts noughts 0 1 = 184 ∧ blk noughts noughts 0 2 = 224 ∧ blk noughts noughts 0 3 = 173 := by decide +kernel

end Chacha
end Go.Proofs.Ytdffbjlbhjppeaa
