/- The library's closures of strconv at this seat's numbers. -/
import Derived.Test.YtdcpbojknondcaaDoorProg
import Derived.Shelf.Strconv.Itoa1
import Derived.Shelf.Strconv.Itoa2
namespace Go.Proofs.YtdcpbojknondcaaDoor
namespace NumLays
open Go.Shelf

def renF (x : Nat) : Nat := bif Nat.beq x 129 then 34 else bif Nat.beq x 283 then 29 else bif Nat.beq x 284 then 30 else bif Nat.beq x 285 then 31 else bif Nat.beq x 317 then 33 else bif Nat.beq x 318 then 35 else 0
def renT (x : Nat) : Nat := bif Nat.beq x 0 then 0 else bif Nat.beq x 2 then 2 else bif Nat.beq x 3 then 3 else bif Nat.beq x 4 then 4 else bif Nat.beq x 5 then 5 else bif Nat.beq x 9 then 9 else bif Nat.beq x 37 then 41 else bif Nat.beq x 46 then 53 else bif Nat.beq x 51 then 67 else bif Nat.beq x 53 then 22 else bif Nat.beq x 171 then 59 else bif Nat.beq x 212 then 66 else 0
def renG (x : Nat) : Nat := bif Nat.beq x 17 then 0 else 0
def ren : Ren := ⟨renF, renT, renG⟩

theorem l283 : Lays.n283 Tryd.prog ren := by
  constructor <;> (intros; kernel_rfl)
theorem l2840 : Lays.n284 Tryd.prog ren := by
  constructor <;> (intros; kernel_rfl)
theorem l284 : LaysM.n284 Tryd.prog ren := { l2840 with i0 := by kernel_rfl, i3 := by kernel_rfl, i4 := by kernel_rfl, i5 := by kernel_rfl, i9 := by kernel_rfl, i46 := by kernel_rfl, i53 := by kernel_rfl, i212 := by kernel_rfl, m17 := by kernel_rfl }
theorem l285 : Lays.n285 Tryd.prog ren := by
  constructor <;> (intros; kernel_rfl)

end NumLays
end Go.Proofs.YtdcpbojknondcaaDoor
