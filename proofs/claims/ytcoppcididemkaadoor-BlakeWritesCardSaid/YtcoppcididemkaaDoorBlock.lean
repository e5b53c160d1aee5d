/- The calls Block and Derive of package chacha. -/
import Derived.Test.YtcoppcididemkaaDoorFirst
import Derived.Test.YtcoppcididemkaaDoorEarly
namespace Go.Proofs.YtcoppcididemkaaDoor
namespace Chacha
open Go.ChangeShapes Go.WideShapes Go.ChangeAt Go.RowKit
open Num Mem Words State Quiet

/-- the sixteen numbers of a block -/
def sums (key : Nat → Nat) (four : List Nat) (i : Nat) : Nat := ((stir (first key four)).getD i 0 + (first key four).getD i 0) % 4294967296
/-- a block, byte by byte -/
def blk (key nonce : Nat → Nat) (ctr j : Nat) : Nat := byteAt (sums key [ctr, le nonce 0 4, le nonce 4 4, le nonce 8 4] (j / 4)) (j % 4)

theorem fits_mem {s : List Nat} (h : ∀ x ∈ s, x < 4294967296) : Fits s := by
  intro i
  by_cases hi : i < s.length
  · rw [List.getD_eq_getElem?_getD, List.getElem?_eq_getElem hi]
    exact h _ (List.getElem_mem hi)
  · rw [List.getD_eq_getElem?_getD, List.getElem?_eq_none (by omega)]
    exact (by omega : (0 : Nat) < 4294967296)

theorem first_fits (key : Nat → Nat) (hk : ∀ i, key i < 256) (a b c d : Nat) (h1 : a < 4294967296) (h2 : b < 4294967296) (h3 : c < 4294967296) (h4 : d < 4294967296) : Fits (first key [a, b, c, d]) := by
  refine fits_mem fun x hx => ?_
  have hl := le_lt hk
  simp only [first, nums, List.mem_append, List.mem_cons, List.not_mem_nil, or_false, List.mem_map] at hx
  rcases hx with ((rfl | rfl | rfl | rfl) | ⟨i, _, rfl⟩) | rfl | rfl | rfl | rfl
  · omega
  · omega
  · omega
  · omega
  · exact hl _ 4
  all_goals assumption
theorem wcells_size (s : List Nat) (h : s.length = 16) : (wcells s).toArray.size = 16 := by simp [wcells, h]
theorem Whole.farRow {w : World} {h g : Nat} {t : TypeId} {cs : Array Value} (H : Whole w h t cs) (hne : h ≠ g) (xs : Array Value) : Whole (w.setRow g xs) h t cs := (setRow_other w g h xs hne).trans H
theorem below_alloc' {B : Nat} {w w1 : World} (h : Below B w w1) (hB : B ≤ w1.heap.size) (o : Obj) : Below B w (w1.alloc o) := h.alloc hB o

/-- the first n of G, noughts behind -/
def bpart (G : Nat → Nat) (n j : Nat) : Nat := if j < n then G j else 0

theorem bytes_one (f : Nat → Nat) (n : Nat) : (byteCells f n).toArray.all (·.oneCell') = true := by
  simp [byteCells, Value.oneCell']

theorem bytes_each (f : Nat → Nat) (n : Nat) : ∀ v ∈ byteCells f n, v.oneCell' = true := by
  intro v hv
  obtain ⟨i, _, rfl⟩ := List.mem_map.1 hv
  rfl

theorem byteCells_splice (f g h : Nat → Nat) (n p m : Nat) (hpm : p + m ≤ n) (hh : ∀ i, i < n → h i = if p ≤ i ∧ i < p + m then g (i - p) else f i) : splice (byteCells f n) p (byteCells g m) = byteCells h n := by
  apply List.ext_getElem?
  intro i
  unfold splice
  by_cases h1 : i < p
  · rw [List.getElem?_append_left (by rw [List.length_take, byteCells_length]; omega), List.getElem?_take_of_lt h1, byteCells_get _ _ _ (by omega), byteCells_get _ _ _ (by omega), hh i (by omega), if_neg (by omega)]
  · rw [List.getElem?_append_right (by rw [List.length_take, byteCells_length]; omega), List.length_take, byteCells_length f n, Nat.min_eq_left (by omega)]
    by_cases h2 : i < p + m
    · rw [List.getElem?_append_left (by rw [byteCells_length]; omega), byteCells_get _ _ _ (by omega), byteCells_get _ _ _ (by omega), hh i (by omega), if_pos (by omega)]
    · rw [List.getElem?_append_right (by rw [byteCells_length]; omega), byteCells_length, List.getElem?_drop, show p + m + (i - p - m) = i by omega]
      by_cases h3 : i < n
      · rw [byteCells_get _ _ _ h3, byteCells_get _ _ _ h3, hh i h3, if_neg (by omega)]
      · rw [List.getElem?_eq_none (by rw [byteCells_length]; omega), List.getElem?_eq_none (by rw [byteCells_length]; omega)]

end Chacha
end Go.Proofs.YtcoppcididemkaaDoor
