/- The call Both of package poly: the mark of parts that are filled up. -/
import Derived.Test.YthjmbfhakccomaaPolySum
namespace Go.Proofs.Ythjmbfhakccomaa
namespace Poly
open Go.ChangeShapes Go.WideShapes Go.ChangeAt Go.RowKit
open Num Mem Words PolyN Chacha Quiet

/-- parts: a row of slices of bytes, each reading as a function -/
structure Parts where
  A : Nat → Option Addr
  n : Nat → Nat
  c : Nat → Nat
  f : Nat → Nat → Nat
/-- what is told of k parts at P -/
def Parts.In (p : Parts) (w : World) (P : Option Addr) (k : Nat) : Prop :=
  (∀ i, i < k → Rd w (p.A i) (p.n i) (p.f i) ∧ p.n i ≤ p.c i ∧ p.n i ≤ 1000000) ∧ (∀ i j, p.f i j < 256) ∧ (k = 0 ∨ ∃ b off, P = some ⟨b, off, none⟩ ∧ b < w.heap.size ∧ ∀ i, i < k → w.cell? ⟨b, off + i, none⟩ = some (.slice (p.A i) (p.n i) (p.c i)))
/-- the parts' number -/
def macs (R : Nat) (p : Parts) : Nat → Nat
  | 0 => 0
  | k + 1 => mac R true (macs R p k) (p.f k) (p.n k)

end Poly
end Go.Proofs.Ythjmbfhakccomaa
