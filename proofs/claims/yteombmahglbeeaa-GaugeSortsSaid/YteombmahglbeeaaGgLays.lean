/- The library's closure of sort.Slice at this seat's numbers. -/
import Derived.Test.YteombmahglbeeaaProg
import Derived.Shelf.GgSortFunc.Whole
namespace Go.Proofs.Yteombmahglbeeaa
namespace GgLays
open Go.Shelf

def renF (x : Nat) : Nat := bif Nat.beq x 6 then 20 else bif Nat.beq x 10 then 35 else bif Nat.beq x 11 then 36 else bif Nat.beq x 12 then 37 else bif Nat.beq x 13 then 38 else bif Nat.beq x 14 then 39 else bif Nat.beq x 24 then 52 else bif Nat.beq x 25 then 53 else bif Nat.beq x 26 then 54 else bif Nat.beq x 27 then 55 else bif Nat.beq x 28 then 56 else bif Nat.beq x 29 then 57 else bif Nat.beq x 30 then 58 else bif Nat.beq x 31 then 59 else bif Nat.beq x 32 then 60 else bif Nat.beq x 33 then 61 else bif Nat.beq x 34 then 62 else bif Nat.beq x 35 then 63 else bif Nat.beq x 36 then 64 else bif Nat.beq x 37 then 65 else bif Nat.beq x 38 then 66 else bif Nat.beq x 39 then 67 else 0
def renT (x : Nat) : Nat := bif Nat.beq x 0 then 0 else bif Nat.beq x 3 then 3 else bif Nat.beq x 4 then 4 else bif Nat.beq x 5 then 5 else bif Nat.beq x 9 then 9 else bif Nat.beq x 12 then 12 else bif Nat.beq x 17 then 17 else bif Nat.beq x 20 then 20 else bif Nat.beq x 26 then 42 else bif Nat.beq x 32 then 50 else bif Nat.beq x 33 then 51 else bif Nat.beq x 35 then 53 else bif Nat.beq x 37 then 55 else bif Nat.beq x 41 then 59 else bif Nat.beq x 44 then 62 else bif Nat.beq x 49 then 68 else bif Nat.beq x 51 then 36 else bif Nat.beq x 53 then 71 else bif Nat.beq x 54 then 72 else bif Nat.beq x 58 then 76 else bif Nat.beq x 60 then 78 else bif Nat.beq x 64 then 82 else bif Nat.beq x 66 then 84 else bif Nat.beq x 67 then 85 else bif Nat.beq x 75 then 93 else bif Nat.beq x 76 then 94 else bif Nat.beq x 77 then 95 else bif Nat.beq x 78 then 96 else bif Nat.beq x 79 then 97 else bif Nat.beq x 80 then 98 else bif Nat.beq x 82 then 100 else 0
def ren : Ren := ⟨renF, renT, fun x => x⟩

set_option maxRecDepth 100000 in
theorem l6 : LaysGg.n6 Try.prog ren := by
  constructor <;> (intros; kernel_rfl)

end GgLays
end Go.Proofs.Yteombmahglbeeaa
