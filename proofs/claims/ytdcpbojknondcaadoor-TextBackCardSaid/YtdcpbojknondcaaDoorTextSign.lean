/- Signs and their numbers: worth of package text, and the document's own sign and value. -/
import Derived.Test.YtdcpbojknondcaaDoorTextKey
namespace Go.Proofs.YtdcpbojknondcaaDoor
namespace Text
open Go.ChangeShapes Go.WideShapes Go.ChangeAt Go.RowKit
open Num Mem

/-- a sign's number; 64: it is none -/
def sv (c : Nat) : Nat := if 65 ≤ c ∧ c ≤ 90 then c - 65 else if 97 ≤ c ∧ c ≤ 122 then c - 71 else if 48 ≤ c ∧ c ≤ 57 then c + 4 else if c = 43 then 62 else if c = 47 then 63 else 64
theorem sv_sgn : ∀ n, n < 64 → sv (sgn n) = n := by decide
theorem sgn_sv : ∀ c, c < 256 → sv c < 64 → sgn (sv c) = c := by decide +kernel

/-- what value answers -/
def vI (c : Nat) : Int := if sv c < 64 then (sv c : Nat) else -1

set_option maxHeartbeats 4000000 in
theorem worth_any (c : Nat) (hc : c < 256) (w : World) : Calls Tryd.prog 19 #[.int .u8 (c : Nat)] w fun e w' => e = .returned (.tuple #[.int .u8 ((if sv c < 64 then sv c else 0 : Nat) : Int), .bool (decide (sv c < 64))]) ∧ w' = w := by
  have h : (65 ≤ c ∧ c ≤ 90) ∨ (97 ≤ c ∧ c ≤ 122) ∨ (48 ≤ c ∧ c ≤ 57) ∨ c = 43 ∨ c = 47 ∨ c < 43 ∨ (44 ≤ c ∧ c ≤ 46) ∨ (58 ≤ c ∧ c ≤ 64) ∨ (91 ≤ c ∧ c ≤ 96) ∨ 123 ≤ c := by omega
  obtain ⟨V, hVV⟩ : ∃ V, (if sv c < 64 then sv c else 0) = V := ⟨_, rfl⟩
  obtain ⟨B, hBB⟩ : ∃ B, decide (sv c < 64) = B := ⟨_, rfl⟩
  have hV : (65 ≤ c ∧ c ≤ 90 → V = c - 65) ∧ (97 ≤ c ∧ c ≤ 122 → V = c - 71) ∧ (48 ≤ c ∧ c ≤ 57 → V = c + 4) ∧ (c = 43 → V = 62) ∧ (c = 47 → V = 63) ∧ (¬ (65 ≤ c ∧ c ≤ 90) ∧ ¬ (97 ≤ c ∧ c ≤ 122) ∧ ¬ (48 ≤ c ∧ c ≤ 57) ∧ c ≠ 43 ∧ c ≠ 47 → V = 0) := by
    rw [← hVV]
    unfold sv
    refine ⟨?_, ?_, ?_, ?_, ?_, ?_⟩ <;> intro _ <;> (repeat' split) <;> omega
  have hB : ((65 ≤ c ∧ c ≤ 90) ∨ (97 ≤ c ∧ c ≤ 122) ∨ (48 ≤ c ∧ c ≤ 57) ∨ c = 43 ∨ c = 47 → true = B) ∧ (¬ (65 ≤ c ∧ c ≤ 90) ∧ ¬ (97 ≤ c ∧ c ≤ 122) ∧ ¬ (48 ≤ c ∧ c ≤ 57) ∧ c ≠ 43 ∧ c ≠ 47 → false = B) := by
    rw [← hBB]
    unfold sv
    refine ⟨?_, ?_⟩ <;> intro _ <;> symm
    · refine decide_eq_true ?_
      (repeat' split) <;> omega
    · refine decide_eq_false ?_
      (repeat' split) <;> omega
  have hE : ∀ (x : Int) (b : Bool), x = V → b = B → Ending.returned (.tuple #[.int .u8 x, .bool b]) = Ending.returned (.tuple #[.int .u8 (V : Nat), .bool B]) := by
    rintro x b rfl rfl
    rfl
  have HE := Lib.hid hE
  have HB := Lib.hid hB
  clear hE hB
  rw [hVV, hBB]
  clear hVV hBB
  rcases h with h | h | h | h | h | h | h | h | h | h
  all_goals
    first | have H1 : (decide ((65 : Int) ≤ (c : Int))) = true := decide_eq_true (by omega) | have H1 : (decide ((65 : Int) ≤ (c : Int))) = false := decide_eq_false (by omega)
    first | have H2 : (decide ((c : Int) ≤ 90)) = true := decide_eq_true (by omega) | have H2 : (decide ((c : Int) ≤ 90)) = false := decide_eq_false (by omega) | skip
    first | have H3 : (decide ((97 : Int) ≤ (c : Int))) = true := decide_eq_true (by omega) | have H3 : (decide ((97 : Int) ≤ (c : Int))) = false := decide_eq_false (by omega) | skip
    first | have H4 : (decide ((c : Int) ≤ 122)) = true := decide_eq_true (by omega) | have H4 : (decide ((c : Int) ≤ 122)) = false := decide_eq_false (by omega) | skip
    first | have H5 : (decide ((48 : Int) ≤ (c : Int))) = true := decide_eq_true (by omega) | have H5 : (decide ((48 : Int) ≤ (c : Int))) = false := decide_eq_false (by omega) | skip
    first | have H6 : (decide ((c : Int) ≤ 57)) = true := decide_eq_true (by omega) | have H6 : (decide ((c : Int) ≤ 57)) = false := decide_eq_false (by omega) | skip
    first | have H7 : ((c : Int) == 43) = true := by (rw [beq_iff_eq]; omega) | have H7 : ((c : Int) == 43) = false := beq_false_of_ne (by omega)
    first | have H8 : ((c : Int) == 47) = true := by (rw [beq_iff_eq]; omega) | have H8 : ((c : Int) == 47) = false := beq_false_of_ne (by omega)
    have HV := Lib.hid hV
    clear hV
    go_enter Tryd.func19, Tryd.ntmps19
    go_wp2
    go_ret2
    have hv := HV.out
    exact ⟨HE.out _ _ (by omega) (by first | exact HB.out.1 (by omega) | exact HB.out.2 (by omega)), rfl⟩

end Text
end Go.Proofs.YtdcpbojknondcaaDoor
