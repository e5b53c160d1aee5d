/- The calls split, Clamp and begin of package poly. -/
import Derived.Test.YthjmbfhakccomaaLowest
import Derived.Test.YthjmbfhakccomaaCopy
import Derived.Test.YthjmbfhakccomaaXor
namespace Go.Proofs.Ythjmbfhakccomaa
namespace Poly
open Go.ChangeShapes Go.WideShapes Go.ChangeAt Go.RowKit
open Num Mem Words PolyN Chacha

theorem byteCells_lit17 (f : Nat → Nat) : (byteCells f 17).toArray = #[.int .u8 (f 0 : Nat), .int .u8 (f 1 : Nat), .int .u8 (f 2 : Nat), .int .u8 (f 3 : Nat), .int .u8 (f 4 : Nat), .int .u8 (f 5 : Nat), .int .u8 (f 6 : Nat), .int .u8 (f 7 : Nat), .int .u8 (f 8 : Nat), .int .u8 (f 9 : Nat), .int .u8 (f 10 : Nat), .int .u8 (f 11 : Nat), .int .u8 (f 12 : Nat), .int .u8 (f 13 : Nat), .int .u8 (f 14 : Nat), .int .u8 (f 15 : Nat), .int .u8 (f 16 : Nat)] := rfl

/-- where limb i begins: the byte, and how many digits are left out of it -/
theorem limb_place (i : Nat) (hi : i < 5) : ∃ p s, 26 * i / 8 = p ∧ 26 * i % 8 = s ∧ p + 4 ≤ 17 ∧ s ≤ 6 ∧ 8 * p + s = 26 * i :=
  ⟨26 * i / 8, 26 * i % 8, rfl, rfl, by omega, by omega, by omega⟩

/-! ### Clamp -/
def cl (key : Nat → Nat) (i : Nat) : Nat := if i % 4 = 3 then key i % 16 else if i % 4 = 0 ∧ 0 < i then key i - key i % 4 else key i
theorem cl_lt {key : Nat → Nat} (h : ∀ i, key i < 256) (i : Nat) : cl key i < 256 := by
  have := h i
  unfold cl
  split
  · omega
  · split <;> omega

theorem and15 (x : Nat) (h : x < 256) : bits .and .u8 (x : Int) 15 = ((x % 16 : Nat) : Int) := by
  have := u8_and_nat x 15 h (by omega)
  rw [nat_mask4] at this
  exact this
theorem and252 (x : Nat) (h : x < 256) : bits .and .u8 (x : Int) 252 = ((x - x % 4 : Nat) : Int) := by
  have h1 := u8_and_nat x 252 h (by omega)
  have h2 : ∀ y : Fin 256, y.val &&& 252 = y.val - y.val % 4 := by decide +kernel
  rw [h2 ⟨x, h⟩] at h1
  exact h1

def cl1 (key : Nat → Nat) (k i : Nat) : Nat := if i % 4 = 3 ∧ i < 4 * k then key i % 16 else key i
def cl2 (key : Nat → Nat) (k i : Nat) : Nat := if i % 4 = 3 then key i % 16 else if i % 4 = 0 ∧ 0 < i ∧ i ≤ 4 * k then key i - key i % 4 else key i
theorem cl1_set (key : Nat → Nat) (k i : Nat) : (if i = 3 + 4 * k then key (3 + 4 * k) % 16 else cl1 key k i) = cl1 key (k + 1) i := by
  unfold cl1
  by_cases e : i = 3 + 4 * k
  · subst e
    rw [if_pos rfl, if_pos ⟨by omega, by omega⟩]
  · rw [if_neg e]
    by_cases h : i % 4 = 3 ∧ i < 4 * k
    · rw [if_pos h, if_pos ⟨h.1, by omega⟩]
    · rw [if_neg h, if_neg (by omega)]
theorem cl2_set (key : Nat → Nat) (k i : Nat) : (if i = 4 + 4 * k then key (4 + 4 * k) - key (4 + 4 * k) % 4 else cl2 key k i) = cl2 key (k + 1) i := by
  unfold cl2
  by_cases e : i = 4 + 4 * k
  · subst e
    rw [if_pos rfl, if_neg (by omega), if_pos ⟨by omega, by omega, by omega⟩]
  · rw [if_neg e]
    by_cases h3 : i % 4 = 3
    · rw [if_pos h3, if_pos h3]
    · rw [if_neg h3, if_neg h3]
      by_cases h : i % 4 = 0 ∧ 0 < i ∧ i ≤ 4 * k
      · rw [if_pos h, if_pos ⟨h.1, h.2.1, by omega⟩]
      · rw [if_neg h, if_neg (by omega)]
theorem cl1_at (key : Nat → Nat) (k : Nat) : cl1 key k (3 + 4 * k) = key (3 + 4 * k) := by unfold cl1; rw [if_neg (by omega)]
theorem cl2_at (key : Nat → Nat) (k : Nat) : cl2 key k (4 + 4 * k) = key (4 + 4 * k) := by unfold cl2; rw [if_neg (by omega), if_neg (by omega)]
theorem cl12 (key : Nat → Nat) (i : Nat) (h : i < 16) : cl1 key 4 i = cl2 key 0 i := by
  unfold cl1 cl2
  by_cases h3 : i % 4 = 3
  · rw [if_pos ⟨h3, by omega⟩, if_pos h3]
  · rw [if_neg (by omega), if_neg h3, if_neg (by omega)]
theorem cl2_end (key : Nat → Nat) (i : Nat) (h : i < 16) : cl2 key 3 i = cl key i := by
  unfold cl2 cl
  by_cases h3 : i % 4 = 3
  · rw [if_pos h3, if_pos h3]
  · rw [if_neg h3, if_neg h3]
    by_cases h4 : i % 4 = 0 ∧ 0 < i
    · rw [if_pos h4, if_pos ⟨h4.1, h4.2, by omega⟩]
    · rw [if_neg h4, if_neg (by omega)]

end Poly
end Go.Proofs.Ythjmbfhakccomaa
