/- The calls Hex, Unhex and Equal of package words at any arguments, each by what it answers. -/
import Derived.Test.YtcoppcididemkaaDoorWordsTwo
import Derived.Test.YtcoppcididemkaaDoorStr
import Derived.RegionTactic
import Derived.BigRegion
namespace Go.Proofs.YtcoppcididemkaaDoor
namespace Words
open Go.ChangeShapes Go.WideShapes Go.ChangeAt Go.RowKit
open Num Mem

/-- the digit of a number below 16 -/
def hx (d : Nat) : Nat := if d < 10 then 48 + d else 87 + d
/-- digit j of the bytes that f tells, two a byte, the greater first -/
def hexAt (f : Nat → Nat) (j : Nat) : Nat := hx (if j % 2 = 0 then f (j / 2) / 16 else f (j / 2) % 16)

theorem hx_lt (d : Nat) (h : d < 16) : hx d < 256 := by unfold hx; split <;> omega
theorem hexAt_lt {f : Nat → Nat} (hf : ∀ i, f i < 256) (j : Nat) : hexAt f j < 256 := by
  have := hf (j / 2)
  unfold hexAt
  exact hx_lt _ (by split <;> omega)
theorem hexAt_even (f : Nat → Nat) (k : Nat) : hexAt f (2 * k) = hx (f k / 16) := by
  unfold hexAt
  rw [if_pos (by omega), show 2 * k / 2 = k from by omega]
theorem hexAt_odd (f : Nat → Nat) (k : Nat) : hexAt f (2 * k + 1) = hx (f k % 16) := by
  unfold hexAt
  rw [if_neg (by omega), show (2 * k + 1) / 2 = k from by omega]

def hexDigits : ByteArray := { data := #[48, 49, 50, 51, 52, 53, 54, 55, 56, 57, 97, 98, 99, 100, 101, 102] }
theorem hexDigits_get (d : Nat) (h : d < hexDigits.size) : (hexDigits[d]'h).toNat = hx d := by
  have h16 : d < 16 := h
  match d, h16 with
  | 0, _ => rfl
  | 1, _ => rfl
  | 2, _ => rfl
  | 3, _ => rfl
  | 4, _ => rfl
  | 5, _ => rfl
  | 6, _ => rfl
  | 7, _ => rfl
  | 8, _ => rfl
  | 9, _ => rfl
  | 10, _ => rfl
  | 11, _ => rfl
  | 12, _ => rfl
  | 13, _ => rfl
  | 14, _ => rfl
  | 15, _ => rfl
  | n + 16, h => exact absurd h (by omega)

/-- a digit's number; 0 for what is none -/
def dv (c : Nat) : Nat := if 48 ≤ c ∧ c ≤ 57 then c - 48 else if 97 ≤ c ∧ c ≤ 102 then c - 87 else if 65 ≤ c ∧ c ≤ 70 then c - 55 else 0
/-- is it a digit? -/
def isDig (c : Nat) : Bool := decide (48 ≤ c ∧ c ≤ 57) || decide (97 ≤ c ∧ c ≤ 102) || decide (65 ≤ c ∧ c ≤ 70)

theorem isDig_iff (c : Nat) : isDig c = true ↔ (48 ≤ c ∧ c ≤ 57) ∨ (97 ≤ c ∧ c ≤ 102) ∨ (65 ≤ c ∧ c ≤ 70) := by
  simp [isDig]
  omega
theorem dv_lt (c : Nat) : dv c < 16 := by unfold dv; split <;> (try split) <;> (try split) <;> omega

end Words
end Go.Proofs.YtcoppcididemkaaDoor
