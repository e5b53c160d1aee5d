/- Rows of 32-digit numbers that are owned: what is read, stored and kept. Nothing of the program but the type's number. -/
import Derived.Test.YtcoppcididemkaaDoorOwn
import Derived.Test.YtcoppcididemkaaDoorState
import Derived.Test.YtcoppcididemkaaDoorRows
namespace Go.Proofs.YtcoppcididemkaaDoor
namespace Mem
open Go.RowKit State

/-- the slice at block g of as many numbers as s has, with capacity c, is the call's own (from block B on), and reads as s -/
def OwnW (w : World) (B g c : Nat) (s : List Nat) : Prop := w.ownsRow B 36 1 (.slice (some ⟨g, 0, none⟩) s.length c) s.length (wcells s)

section
variable {w w' : World} {B g c : Nat} {s : List Nat}
theorem OwnW.cellW (h : OwnW w B g c s) (i : Nat) (hi : i < s.length) : w.cell? ⟨g, i, none⟩ = some (.int .u32 (s.getD i 0 : Nat)) := by
  rw [World.ownsRow.cellAt h i (by omega), wcells_get s i hi]
theorem OwnW.freeW (h : OwnW w B g c s) (i : Nat) : w.frozen? ⟨g, i, none⟩ = false := World.ownsRow.frozenAt h i
theorem OwnW.drew (h : OwnW w B g c s) : OwnW w.drew B g c s := h
theorem OwnW.drewN (h : OwnW w B g c s) (n : Nat) : OwnW (w.drewN n) B g c s := h
theorem OwnW.put0 (h : OwnW w B g c s) (i : Nat) (_ : i < s.length) (x : Nat) : OwnW (w.setCell ⟨g, i, none⟩ (.int .u32 (x : Nat))) B g c (s.set i x) := by
  have k := World.ownsRow.stored h i (.int .u32 (x : Nat))
  unfold OwnW
  rw [List.length_set]
  have e : wcells (s.set i x) = (wcells s).set i (.int .u32 (x : Nat)) := by simp [wcells, List.map_set]
  rw [e]
  exact k.1
theorem OwnW.put (h : OwnW w B g c s) (i : Nat) (hi : i < s.length) (x : Nat) : OwnW (w.drew.setCell ⟨g, i, none⟩ (.int .u32 (x : Nat))) B g c (s.set i x) := (OwnW.drew h).put0 i hi x
theorem OwnW.lt (h : OwnW w B g c s) : g < w.heap.size := (World.ownsRow.lt h g rfl).2
theorem OwnW.ge (h : OwnW w B g c s) : B ≤ g := (World.ownsRow.lt h g rfl).1
theorem OwnW.below {B' : Nat} (h : OwnW w B g c s) (hb : Below B' w w') (hB : g < B') : OwnW w' B g c s := by
  refine ⟨h.1, ?_⟩
  rcases h.2 with ⟨k, _⟩ | ⟨g', cap, cur, e, hg, hh, r⟩
  · cases k
  · refine .inr ⟨g', cap, cur, e, hg, ?_, r⟩
    injection e with e1 e2 e3
    injection e1 with e1
    injection e1 with e1
    subst e1
    exact (hb.block g hB).trans hh
end
theorem grown_put (w : World) (g i : Nat) (v : Value) : w.grownBy (w.drew.setCell ⟨g, i, none⟩ v) (some g) :=
  ⟨rfl, rfl, rfl, by
    have e : (w.drew.setCell ⟨g, i, none⟩ v).heap.size = w.drew.heap.size := by simp [World.setCell]
    rw [e]
    exact Nat.le_refl _, fun k _ hk => Below.heap_setCell w.drew ⟨g, i, none⟩ v k (fun e => hk (by rw [e]))⟩
theorem wrap_sum (x y : Nat) : IntKind.u32.wrap ((x : Int) + (y : Int)) = (((x + y) % 4294967296 : Nat) : Int) := by
  rw [IntKind.wrap_u32]
  omega

end Mem
end Go.Proofs.YtcoppcididemkaaDoor
