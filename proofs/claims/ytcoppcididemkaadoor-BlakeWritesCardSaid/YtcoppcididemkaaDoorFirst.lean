/- The calls number and first of package chacha. -/
import Derived.Test.YtcoppcididemkaaDoorTurn
import Derived.Test.YtcoppcididemkaaDoorWordsTwo
import Derived.Outline
import Derived.Laws.CopyOwn
import Derived.Deep.RegionLaw
namespace Go.Proofs.YtcoppcididemkaaDoor
namespace Chacha
open Go.ChangeShapes Go.WideShapes Go.ChangeAt Go.RowKit
open Num Mem Words State

theorem cut_world {P : Program} {c : Code} {Q : Exit → Act → World → Prop} {a : Act} {w : World} (R : World → Prop) (hR : R w) (h : ∀ w', R w' → Code.wp P c Q a w') : Code.wp P c Q a w := h w hR

theorem whole_grown {W w : World} {g h : Nat} {t : TypeId} {cs : Array Value} (H : Whole W h t cs) (hg : W.grownBy w (some g)) (hne : g ≠ h) : Whole w h t cs :=
  (hg.block h H.lt (by intro e; injection e with e; exact hne e.symm)).trans H
theorem whole_new {w : World} {g : Nat} (t : TypeId) (cs : Array Value) (h : w.heap.size = g) : Whole (w.alloc (.cells cs t)) g t cs := h ▸ Whole.new w t cs
theorem below_grown {B g : Nat} {w0 w w' : World} (hb : Below B w0 w) (hg : w.grownBy w' (some g)) (hB : B ≤ g) (hs : B ≤ w.heap.size) : Below B w0 w' :=
  hb.grown hg hs fun k hk => by injection hk with hk; omega

theorem row_reads {w : World} {g : Nat} {t : TypeId} {cs : List Value} (h : Whole w g t cs.toArray) : ∀ (j : Nat) (v : Value), cs[j]? = some v → w.drew.cell? ((⟨g, 0, none⟩ : Addr).add j) = some v := by
  intro j v hj
  have : w.cell? ⟨g, j, none⟩ = some v := by rw [h.cell, List.getElem?_toArray, hj]
  by_cases h0 : j = 0
  · subst h0
    simpa [Addr.add] using this
  · simpa [Addr.add, h0] using this

def fill (f : Nat → Nat) (k : Nat) : List Nat := [1634760805, 857760878, 2036477234, 1797285236] ++ nums f 0 k ++ List.replicate (12 - k) 0
theorem fill_set (f : Nat → Nat) (k : Nat) (h : k < 8) : (fill f k).set (4 + k) (le f (4 * k) 4) = fill f (k + 1) := by
  match k, h with
  | 0, _ => rfl
  | 1, _ => rfl
  | 2, _ => rfl
  | 3, _ => rfl
  | 4, _ => rfl
  | 5, _ => rfl
  | 6, _ => rfl
  | 7, _ => rfl
theorem fill_length (f : Nat → Nat) (k : Nat) (h : k ≤ 8) : (fill f k).length = 16 := by simp [fill, nums]; omega

theorem first_size (f : Nat → Nat) (x0 x1 x2 x3 : Nat) : (wcells (first f [x0, x1, x2, x3])).toArray.size = 16 := by simp [wcells, first, nums]
theorem wcells_one (s : List Nat) : (wcells s).toArray.all (·.oneCell') = true := by
  simp [wcells, Value.oneCell']

end Chacha
end Go.Proofs.YtcoppcididemkaaDoor
