/- The call Sum of package poly, at any key and any text. -/
import Derived.Test.YthjmbfhakccomaaMac
namespace Go.Proofs.Ythjmbfhakccomaa
namespace Poly
open Go.ChangeShapes Go.WideShapes Go.ChangeAt Go.RowKit
open Num Mem Words PolyN Chacha Quiet

theorem fac_lt (key : Nat → Nat) (i : Nat) : fac key i < 67108864 := sp_lt _ _

def lenOf : Value → Nat
  | .slice _ n _ => n
  | _ => 0

end Poly
end Go.Proofs.Ythjmbfhakccomaa
