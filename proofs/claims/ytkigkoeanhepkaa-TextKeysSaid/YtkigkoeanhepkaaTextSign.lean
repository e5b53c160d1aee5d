/- Signs and their numbers: worth of package text, and the document's own sign and value. -/
import Derived.Test.YtkigkoeanhepkaaTextKey
namespace Go.Proofs.Ytkigkoeanhepkaa
namespace Text
open Go.ChangeShapes Go.WideShapes Go.ChangeAt Go.RowKit
open Num Mem

/-- a sign's number; 64: it is none -/
def sv (c : Nat) : Nat := if 65 ≤ c ∧ c ≤ 90 then c - 65 else if 97 ≤ c ∧ c ≤ 122 then c - 71 else if 48 ≤ c ∧ c ≤ 57 then c + 4 else if c = 43 then 62 else if c = 47 then 63 else 64
theorem sv_sgn : ∀ n, n < 64 → sv (sgn n) = n := by decide
theorem sgn_sv : ∀ c, c < 256 → sv c < 64 → sgn (sv c) = c := by decide +kernel

set_option maxHeartbeats 1000000 in
theorem sign_any (n : Nat) (hn : n < 64) (w : World) : Calls Try.prog 22 #[.int .u8 (n : Nat)] w fun e w' => e = .returned (.int .u8 (sgn n : Nat)) ∧ w' = w := by
  have h : n < 26 ∨ (26 ≤ n ∧ n < 52) ∨ (52 ≤ n ∧ n < 62) ∨ n = 62 ∨ n = 63 := by omega
  obtain ⟨S, hS⟩ : ∃ S, sgn n = S := ⟨_, rfl⟩
  have hV : (n < 26 → S = 65 + n) ∧ (26 ≤ n ∧ n < 52 → S = 71 + n) ∧ (52 ≤ n ∧ n < 62 → S = n - 4) ∧ (n = 62 → S = 43) ∧ (n = 63 → S = 47) := by
    rw [← hS]
    unfold sgn
    refine ⟨?_, ?_, ?_, ?_, ?_⟩ <;> intro _ <;> (repeat' split) <;> omega
  rw [hS]
  clear hS
  rcases h with h | h | h | h | h
  all_goals
    first | have H1 : (decide ((n : Int) < 26)) = true := decide_eq_true (by omega) | have H1 : (decide ((n : Int) < 26)) = false := decide_eq_false (by omega)
    first | have H2 : (decide ((n : Int) < 52)) = true := decide_eq_true (by omega) | have H2 : (decide ((n : Int) < 52)) = false := decide_eq_false (by omega)
    first | have H3 : (decide ((n : Int) < 62)) = true := decide_eq_true (by omega) | have H3 : (decide ((n : Int) < 62)) = false := decide_eq_false (by omega)
    first | have H4 : ((n : Int) == 62) = true := by (rw [beq_iff_eq]; omega) | have H4 : ((n : Int) == 62) = false := beq_false_of_ne (by omega)
    have HV := Lib.hid hV
    clear hV
    go_enter Try.func22, Try.ntmps22
    go_wp2
    go_ret
    refine ⟨?_, rfl⟩
    have hv := HV.out
    congr 1
    show Value.int _ _ = _
    congr 1
    omega

/-- what value answers -/
def vI (c : Nat) : Int := if sv c < 64 then (sv c : Nat) else -1

set_option maxHeartbeats 1000000 in
theorem value_any (c : Nat) (hc : c < 256) (w : World) : Calls Try.prog 20 #[.int .u8 (c : Nat)] w fun e w' => e = .returned (.int .i64 (vI c)) ∧ w' = w := by
  have CS := Lib.hid sign_any
  go_enter Try.func20, Try.ntmps20
  go_wp2
  go_loopw [3] (fun i wr => ∃ k : Nat, k ≤ 64 ∧ i = .int .u8 k ∧ (∀ j, j < k → sgn j ≠ c) ∧ wr = w) (fun i _ => 64 - (intOf i).toNat)
  case atStart => exact ⟨0, Nat.zero_le _, rfl, fun j hj => absurd hj (by omega), rfl⟩
  case round =>
    obtain ⟨k, hk, rfl, hno, hw⟩ := hrel
    have hw' := hw.symm
    subst hw'
    clear hw
    have HNO := Lib.hid hno
    clear hno
    by_cases hlt : k < 64
    · have hT : (decide ((k : Int) < 64)) = true := decide_eq_true (by omega)
      have C := Lib.hid (CS.out k hlt w)
      have hsl := sgn_lt k hlt
      by_cases he : sgn k = c
      · have hv : vI c = (k : Int) := by
          unfold vI
          rw [← he, sv_sgn k hlt, if_pos hlt]
        rw [he] at C
        have HV := Lib.hid hv
        clear hv
        go_wp2_with fail
        refine C.out.mono ?_
        rintro e w' ⟨rfl, rfl⟩
        go_wp2
        go_ret
        exact ⟨by rw [HV.out]; rfl, rfl⟩
      · have hne : (((sgn k : Nat) : Int) == (c : Int)) = false := beq_false_of_ne (by omega)
        have HE := Lib.hid he
        clear he
        go_wp2_with fail
        refine C.out.mono ?_
        rintro e w' ⟨rfl, rfl⟩
        go_wp2
        refine ⟨⟨k + 1, by omega, rfl, fun j hj => ?_, trivial⟩, ?_⟩
        · by_cases e : j = k
          · rw [e]; exact HE.out
          · exact HNO.out j (by omega)
        · show 64 - ((k : Int) + 1).toNat < 64 - (k : Int).toNat
          omega
    · obtain rfl : k = 64 := by omega
      have hv : vI c = -1 := by
        unfold vI
        rw [if_neg]
        intro h
        exact HNO.out (sv c) h (sgn_sv c hc h)
      have HV := Lib.hid hv
      clear hv
      go_wp2
      go_ret
      exact ⟨by rw [HV.out]; rfl, rfl⟩

set_option maxHeartbeats 4000000 in
theorem worth_any (c : Nat) (hc : c < 256) (w : World) : Calls Try.prog 18 #[.int .u8 (c : Nat)] w fun e w' => e = .returned (.tuple #[.int .u8 ((if sv c < 64 then sv c else 0 : Nat) : Int), .bool (decide (sv c < 64))]) ∧ w' = w := by
  have h : (65 ≤ c ∧ c ≤ 90) ∨ (97 ≤ c ∧ c ≤ 122) ∨ (48 ≤ c ∧ c ≤ 57) ∨ c = 43 ∨ c = 47 ∨ c < 43 ∨ (44 ≤ c ∧ c ≤ 46) ∨ (58 ≤ c ∧ c ≤ 64) ∨ (91 ≤ c ∧ c ≤ 96) ∨ 123 ≤ c := by omega
  obtain ⟨V, hVV⟩ : ∃ V, (if sv c < 64 then sv c else 0) = V := ⟨_, rfl⟩
  obtain ⟨B, hBB⟩ : ∃ B, decide (sv c < 64) = B := ⟨_, rfl⟩
  have hV : (65 ≤ c ∧ c ≤ 90 → V = c - 65) ∧ (97 ≤ c ∧ c ≤ 122 → V = c - 71) ∧ (48 ≤ c ∧ c ≤ 57 → V = c + 4) ∧ (c = 43 → V = 62) ∧ (c = 47 → V = 63) ∧ (¬ (65 ≤ c ∧ c ≤ 90) ∧ ¬ (97 ≤ c ∧ c ≤ 122) ∧ ¬ (48 ≤ c ∧ c ≤ 57) ∧ c ≠ 43 ∧ c ≠ 47 → V = 0) := by
    rw [← hVV]
    unfold sv
    refine ⟨?_, ?_, ?_, ?_, ?_, ?_⟩ <;> intro _ <;> (repeat' split) <;> omega
  have hB : ((65 ≤ c ∧ c ≤ 90) ∨ (97 ≤ c ∧ c ≤ 122) ∨ (48 ≤ c ∧ c ≤ 57) ∨ c = 43 ∨ c = 47 → true = B) ∧ (¬ (65 ≤ c ∧ c ≤ 90) ∧ ¬ (97 ≤ c ∧ c ≤ 122) ∧ ¬ (48 ≤ c ∧ c ≤ 57) ∧ c ≠ 43 ∧ c ≠ 47 → false = B) := by
    rw [← hBB]
    unfold sv
    refine ⟨?_, ?_⟩ <;> intro _ <;> symm
    · refine decide_eq_true ?_
      (repeat' split) <;> omega
    · refine decide_eq_false ?_
      (repeat' split) <;> omega
  have hE : ∀ (x : Int) (b : Bool), x = V → b = B → Ending.returned (.tuple #[.int .u8 x, .bool b]) = Ending.returned (.tuple #[.int .u8 (V : Nat), .bool B]) := by
    rintro x b rfl rfl
    rfl
  have HE := Lib.hid hE
  have HB := Lib.hid hB
  clear hE hB
  rw [hVV, hBB]
  clear hVV hBB
  rcases h with h | h | h | h | h | h | h | h | h | h
  all_goals
    first | have H1 : (decide ((65 : Int) ≤ (c : Int))) = true := decide_eq_true (by omega) | have H1 : (decide ((65 : Int) ≤ (c : Int))) = false := decide_eq_false (by omega)
    first | have H2 : (decide ((c : Int) ≤ 90)) = true := decide_eq_true (by omega) | have H2 : (decide ((c : Int) ≤ 90)) = false := decide_eq_false (by omega) | skip
    first | have H3 : (decide ((97 : Int) ≤ (c : Int))) = true := decide_eq_true (by omega) | have H3 : (decide ((97 : Int) ≤ (c : Int))) = false := decide_eq_false (by omega) | skip
    first | have H4 : (decide ((c : Int) ≤ 122)) = true := decide_eq_true (by omega) | have H4 : (decide ((c : Int) ≤ 122)) = false := decide_eq_false (by omega) | skip
    first | have H5 : (decide ((48 : Int) ≤ (c : Int))) = true := decide_eq_true (by omega) | have H5 : (decide ((48 : Int) ≤ (c : Int))) = false := decide_eq_false (by omega) | skip
    first | have H6 : (decide ((c : Int) ≤ 57)) = true := decide_eq_true (by omega) | have H6 : (decide ((c : Int) ≤ 57)) = false := decide_eq_false (by omega) | skip
    first | have H7 : ((c : Int) == 43) = true := by (rw [beq_iff_eq]; omega) | have H7 : ((c : Int) == 43) = false := beq_false_of_ne (by omega)
    first | have H8 : ((c : Int) == 47) = true := by (rw [beq_iff_eq]; omega) | have H8 : ((c : Int) == 47) = false := beq_false_of_ne (by omega)
    have HV := Lib.hid hV
    clear hV
    go_enter Try.func18, Try.ntmps18
    go_wp2
    go_ret2
    have hv := HV.out
    exact ⟨HE.out _ _ (by omega) (by first | exact HB.out.1 (by omega) | exact HB.out.2 (by omega)), rfl⟩

end Text
end Go.Proofs.Ytkigkoeanhepkaa
