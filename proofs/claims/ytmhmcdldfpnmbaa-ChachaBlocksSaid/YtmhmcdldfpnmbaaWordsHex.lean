/- The calls Hex, Unhex and Equal of package words at any arguments, each by what it answers. -/
import Derived.Test.YtmhmcdldfpnmbaaWordsTwo
import Derived.Test.YtmhmcdldfpnmbaaStr
import Derived.RegionTactic
import Derived.BigRegion
namespace Go.Proofs.Ytmhmcdldfpnmbaa
namespace Words
open Go.ChangeShapes Go.WideShapes Go.ChangeAt Go.RowKit
open Num Mem

/-- the digit of a number below 16 -/
def hx (d : Nat) : Nat := if d < 10 then 48 + d else 87 + d
/-- digit j of the bytes that f tells, two a byte, the greater first -/
def hexAt (f : Nat → Nat) (j : Nat) : Nat := hx (if j % 2 = 0 then f (j / 2) / 16 else f (j / 2) % 16)

theorem hx_lt (d : Nat) (h : d < 16) : hx d < 256 := by unfold hx; split <;> omega
theorem hexAt_lt {f : Nat → Nat} (hf : ∀ i, f i < 256) (j : Nat) : hexAt f j < 256 := by
  have := hf (j / 2)
  unfold hexAt
  exact hx_lt _ (by split <;> omega)
theorem hexAt_even (f : Nat → Nat) (k : Nat) : hexAt f (2 * k) = hx (f k / 16) := by
  unfold hexAt
  rw [if_pos (by omega), show 2 * k / 2 = k from by omega]
theorem hexAt_odd (f : Nat → Nat) (k : Nat) : hexAt f (2 * k + 1) = hx (f k % 16) := by
  unfold hexAt
  rw [if_neg (by omega), show (2 * k + 1) / 2 = k from by omega]

def hexDigits : ByteArray := { data := #[48, 49, 50, 51, 52, 53, 54, 55, 56, 57, 97, 98, 99, 100, 101, 102] }
theorem hexDigits_get (d : Nat) (h : d < hexDigits.size) : (hexDigits[d]'h).toNat = hx d := by
  have h16 : d < 16 := h
  match d, h16 with
  | 0, _ => rfl
  | 1, _ => rfl
  | 2, _ => rfl
  | 3, _ => rfl
  | 4, _ => rfl
  | 5, _ => rfl
  | 6, _ => rfl
  | 7, _ => rfl
  | 8, _ => rfl
  | 9, _ => rfl
  | 10, _ => rfl
  | 11, _ => rfl
  | 12, _ => rfl
  | 13, _ => rfl
  | 14, _ => rfl
  | 15, _ => rfl
  | n + 16, h => exact absurd h (by omega)

/-- Hex: two digits a byte -/
theorem hex_any (A : Option Addr) (n c : Nat) (f : Nat → Nat) (hf : ∀ i, f i < 256) (hn : n ≤ 1000000) (w : World) (hr : Rd w A n f) :
    Calls Try.prog 30 #[.slice A n c] w fun e w' => e = .returned (.string (strOf (hexAt f) (2 * n))) ∧ Below w.heap.size w w' := by
  have HR := Lib.hid hr
  clear hr
  have HF := Lib.hid hf
  clear hf
  have hmk := made_bytes (2 * n) (by omega) w
  rw [show (((2 * n : Nat) : Int)) = 2 * (n : Int) from by omega] at hmk
  go_enter Try.func30, Try.ntmps30
  go_wp2
  clear hmk
  go_loopw [4, 11] (fun _ i wr => ∃ k : Nat, k ≤ n ∧ i = .int .i64 k ∧ Whole wr w.heap.size 5 (byteCells (fun i => if i < 2 * k then hexAt f i else 0) (2 * n)).toArray ∧ Below w.heap.size w wr) (fun _ i _ => n - (intOf i).toNat)
  case atStart => exact ⟨0, Nat.zero_le _, rfl, Whole.new _ _ _, (Below.refl _ _).alloc (Nat.le_refl _) _⟩
  case round =>
    obtain ⟨k, hk, rfl, hblk, hbel⟩ := hrel
    by_cases hlt : k < n
    · rcases HR.out with h0 | ⟨b, off, rfl, hb, hc⟩
      · omega
      have hck := (hbel.cell (p := ⟨b, off + k, none⟩) hb).trans (hc k hlt)
      have hcell := hblk.cell (2 * k)
      rw [List.getElem?_toArray, byteCells_get _ _ _ (by omega)] at hcell
      have hfree := hblk.free (2 * k)
      have hcell' := hblk.cell (2 * k + 1)
      rw [List.getElem?_toArray, byteCells_get _ _ _ (by omega)] at hcell'
      have hfree' := hblk.free (2 * k + 1)
      have hfk := HF.out k
      have HB := Lib.hid hblk
      have HL := Lib.hid hbel
      clear hblk hbel hc
      go_wp2
      go_roundw
      case rel =>
        refine ⟨k + 1, by omega, by go_num, ?_, (HL.out.setCell (by simp) _).setCell (by simp) _⟩
        have h := (HB.out.put (2 * k) (.int .u8 ((hx (f k / 16) : Nat) : Int))).put (2 * k + 1) (.int .u8 ((hx (f k % 16) : Nat) : Int))
        rw [byteCells_set, byteCells_set, byteCells_congr (g := fun i => if i < 2 * (k + 1) then hexAt f i else 0) (fun i hi => ?_)] at h
        · rw [← hexDigits_get (f k / 16) (show f k / 16 < 16 by omega), ← hexDigits_get (f k % 16) (show f k % 16 < 16 by omega)] at h
          exact h
        · by_cases e : i = 2 * k + 1
          · subst e
            rw [if_pos rfl, if_pos (by omega), hexAt_odd]
          · rw [if_neg e]
            by_cases e2 : i = 2 * k
            · subst e2
              rw [if_pos rfl, if_pos (by omega), hexAt_even]
            · rw [if_neg e2]
              by_cases l : i < 2 * k
              · rw [if_pos l, if_pos (by omega)]
              · rw [if_neg l, if_neg (by omega)]
      case measure => simp [intOf]; omega
    · have hb2 := hblk
      rw [byteCells_congr (g := hexAt f) (fun i hi => if_pos (by omega))] at hb2
      have hcv := run_string_of (P := Try.prog) (c := 2 * n) 22 9 5 Try.underlying22 Try.underlying5 Try.underlying9 (Rd.of_whole hb2)
      have HL := Lib.hid hbel
      clear hblk hbel hb2
      go_wp2
      go_ret
      exact ⟨rfl, HL.out⟩

/-- a digit's number; 0 for what is none -/
def dv (c : Nat) : Nat := if 48 ≤ c ∧ c ≤ 57 then c - 48 else if 97 ≤ c ∧ c ≤ 102 then c - 87 else if 65 ≤ c ∧ c ≤ 70 then c - 55 else 0
/-- is it a digit? -/
def isDig (c : Nat) : Bool := decide (48 ≤ c ∧ c ≤ 57) || decide (97 ≤ c ∧ c ≤ 102) || decide (65 ≤ c ∧ c ≤ 70)

theorem isDig_iff (c : Nat) : isDig c = true ↔ (48 ≤ c ∧ c ≤ 57) ∨ (97 ≤ c ∧ c ≤ 102) ∨ (65 ≤ c ∧ c ≤ 70) := by
  simp [isDig]
  omega
theorem dv_lt (c : Nat) : dv c < 16 := by unfold dv; split <;> (try split) <;> (try split) <;> omega

theorem digit_yes (c : Nat) (h : isDig c = true) (w : World) :
    Calls Try.prog 44 #[.int .u8 c] w fun e w' => e = .returned (.tuple #[.int .u8 (dv c : Nat), .bool true]) ∧ w = w' := by
  rw [isDig_iff] at h
  rcases h with ⟨h1, h2⟩ | ⟨h1, h2⟩ | ⟨h1, h2⟩
  · have e : dv c = c - 48 := if_pos ⟨h1, h2⟩
    have E : Hid (((dv c : Nat) : Int) = (c : Int) - 48) := by rw [e]; show _ = _; omega
    clear e
    go_enter Try.func44, Try.ntmps44
    go_wp2
    go_ret2
    exact ⟨by rw [E.out]; rfl, rfl⟩
  · have e : dv c = c - 87 := by unfold dv; rw [if_neg (by omega), if_pos ⟨h1, h2⟩]
    have E : Hid (((dv c : Nat) : Int) = (c : Int) - 97 + 10) := by rw [e]; show _ = _; omega
    clear e
    go_enter Try.func44, Try.ntmps44
    go_wp2
    go_ret2
    exact ⟨by rw [E.out]; rfl, rfl⟩
  · have e : dv c = c - 55 := by unfold dv; rw [if_neg (by omega), if_neg (by omega), if_pos ⟨h1, h2⟩]
    have E : Hid (((dv c : Nat) : Int) = (c : Int) - 65 + 10) := by rw [e]; show _ = _; omega
    clear e
    go_enter Try.func44, Try.ntmps44
    go_wp2
    go_ret2
    exact ⟨by rw [E.out]; rfl, rfl⟩

theorem digit_no (c : Nat) (h : isDig c = false) (w : World) :
    Calls Try.prog 44 #[.int .u8 c] w fun e w' => e = .returned (.tuple #[.int .u8 0, .bool false]) ∧ w = w' := by
  have h' : ¬ ((48 ≤ c ∧ c ≤ 57) ∨ (97 ≤ c ∧ c ≤ 102) ∨ (65 ≤ c ∧ c ≤ 70)) := by rw [← isDig_iff, h]; simp
  clear h
  have h1 : c < 48 ∨ (57 < c ∧ c < 65) ∨ (70 < c ∧ c < 97) ∨ 102 < c := by omega
  clear h'
  rcases h1 with h1 | ⟨h1, h2⟩ | ⟨h1, h2⟩ | h1
  all_goals
    go_enter Try.func44, Try.ntmps44
    go_wp2
    go_ret2
    exact ⟨rfl, rfl⟩

end Words
end Go.Proofs.Ytmhmcdldfpnmbaa
