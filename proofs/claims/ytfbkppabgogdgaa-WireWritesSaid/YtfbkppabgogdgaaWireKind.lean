/- Kind of package wire, at any bytes. -/
import Derived.Test.YtfbkppabgogdgaaWireNum
namespace Go.Proofs.Ytfbkppabgogdgaa
namespace Wire
open Go.ChangeShapes Go.WideShapes Go.ChangeAt Go.RowKit
open Num Mem Words Ref

/-- may a message of a kind have n bytes? -/
def fitN (k n : Nat) : Bool := if k = 1 then n == 148 else if k = 2 then n == 92 else if k = 3 then n == 64 else decide (32 ≤ n ∧ n ≤ 1548 ∧ n % 16 = 0)
/-- what Kind answers -/
def kindE (f : Nat → Nat) (n : Nat) : Nat := if n < 4 then 10 else if le f 0 4 < 1 ∨ 4 < le f 0 4 then 60 else if fitN (le f 0 4) n = true then 0 else 3
def kindV (f : Nat → Nat) (n : Nat) : Nat := if kindE f n = 0 then le f 0 4 else 0

set_option maxHeartbeats 1000000 in
theorem rightBox_any (s : Int) (w : World) : Calls Try.prog 52 #[.int .i64 s] w fun e w' => e = .returned (.bool (decide (16 ≤ s ∧ s ≤ 1532 ∧ s % 16 = 0))) ∧ w' = w := by
  by_cases h1 : 16 ≤ s
  · have hm : s.tmod 16 = s % 16 := Int.tmod_eq_emod_of_nonneg (by omega)
    by_cases h2 : s ≤ 1532
    · by_cases h3 : s % 16 = 0
      · have e : decide (16 ≤ s ∧ s ≤ 1532 ∧ s % 16 = 0) = true := decide_eq_true ⟨h1, h2, h3⟩
        rw [e]
        have d3 : (s % 16 == 0) = true := beq_iff_eq.2 h3
        go_enter Try.func52, Try.ntmps52
        go_wp2
        go_ret
        exact ⟨rfl, rfl⟩
      · have e : decide (16 ≤ s ∧ s ≤ 1532 ∧ s % 16 = 0) = false := decide_eq_false (fun h => h3 h.2.2)
        rw [e]
        have d3 : (s % 16 == 0) = false := beq_false_of_ne h3
        go_enter Try.func52, Try.ntmps52
        go_wp2
        go_ret
        exact ⟨rfl, rfl⟩
    · have e : decide (16 ≤ s ∧ s ≤ 1532 ∧ s % 16 = 0) = false := decide_eq_false (fun h => h2 h.2.1)
      rw [e]
      go_enter Try.func52, Try.ntmps52
      go_wp2
      go_ret
      exact ⟨rfl, rfl⟩
  · have e : decide (16 ≤ s ∧ s ≤ 1532 ∧ s % 16 = 0) = false := decide_eq_false (fun h => h1 h.1)
    rw [e]
    go_enter Try.func52, Try.ntmps52
    go_wp2
    go_ret
    exact ⟨rfl, rfl⟩

set_option maxHeartbeats 1000000 in
theorem rightSize_any (k n : Nat) (h1 : 1 ≤ k) (h4 : k ≤ 4) (hn : n ≤ 9223372036854775807) (w : World) : Calls Try.prog 58 #[.int .i64 k, .int .i64 n] w fun e w' => e = .returned (.bool (fitN k n)) ∧ w' = w := by
  have hk : k = 1 ∨ k = 2 ∨ k = 3 ∨ k = 4 := by omega
  rcases hk with rfl | rfl | rfl | rfl
  · have e : ((n : Int) == 148) = fitN 1 n := by unfold fitN; rw [Bool.eq_iff_iff]; simp; omega
    go_enter Try.func58, Try.ntmps58
    go_wp2
    go_ret
    exact ⟨by rw [← e]; rfl, rfl⟩
  · have e : ((n : Int) == 92) = fitN 2 n := by unfold fitN; rw [Bool.eq_iff_iff]; simp; omega
    go_enter Try.func58, Try.ntmps58
    go_wp2
    go_ret
    exact ⟨by rw [← e]; rfl, rfl⟩
  · have e : ((n : Int) == 64) = fitN 3 n := by unfold fitN; rw [Bool.eq_iff_iff]; simp; omega
    go_enter Try.func58, Try.ntmps58
    go_wp2
    go_ret
    exact ⟨by rw [← e]; rfl, rfl⟩
  · have e : decide (16 ≤ (n : Int) - 16 ∧ (n : Int) - 16 ≤ 1532 ∧ ((n : Int) - 16) % 16 = 0) = fitN 4 n := by unfold fitN; rw [Bool.eq_iff_iff]; simp; omega
    have C := Lib.hid (rightBox_any ((n : Int) - 16))
    rw [e] at C
    go_enter Try.func58, Try.ntmps58
    go_wp2_with (go_at_call 52; refine (C.out _).mono ?_; rintro e w' ⟨rfl, rfl⟩)
    go_ret
    exact ⟨rfl, rfl⟩

set_option maxRecDepth 100000 in
set_option maxHeartbeats 2000000 in
theorem kind_any (A : Option Addr) (n c : Nat) (f : Nat → Nat) (hf : ∀ i, f i < 256) (hn : n ≤ 9223372036854775807) (w : World) (hr : Rd w A n f) :
    Calls Try.prog 25 #[.slice A n c] w fun e w' => e = .returned (.tuple #[.int .i64 (kindV f n : Nat), .int .i64 (kindE f n : Nat)]) ∧ w' = w := by
  by_cases h4 : n < 4
  · have C := Lib.hid (load32_no A n c 0 hn (.inr (by omega)) w)
    have E : kindE f n = 10 := by unfold kindE; rw [if_pos h4]
    have V : kindV f n = 0 := by unfold kindV; rw [E]; rfl
    rw [E, V]
    clear E V
    go_enter Try.func25, Try.ntmps25
    go_wp2_with fail
    refine C.out.mono ?_
    rintro e w' ⟨rfl, rfl⟩
    go_wp2_with fail
    go_ret2
    exact ⟨rfl, rfl⟩
  obtain ⟨b, off, rfl, hb, hc⟩ : ∃ b off, A = some ⟨b, off, none⟩ ∧ b < w.heap.size ∧ ∀ i, i < n → w.cell? ⟨b, off + i, none⟩ = some (.int .u8 (f i : Nat)) := by
    rcases hr with h0 | h
    · omega
    · exact h
  have C := Lib.hid (load32_ok b off n c f hf 0 (by omega) hn w hc)
  have hl := le_lt hf 0 4
  clear hr hc
  obtain ⟨k, hk⟩ : ∃ k, le f 0 4 = k := ⟨_, rfl⟩
  rw [hk] at C hl
  have HK : kindE f n = if k < 1 ∨ 4 < k then 60 else if fitN k n = true then 0 else 3 := by unfold kindE; rw [if_neg h4, hk]
  have HV : kindV f n = if kindE f n = 0 then k else 0 := by unfold kindV; rw [hk]
  clear hk
  by_cases h1 : k < 1
  · have E : kindE f n = 60 := by rw [HK, if_pos (.inl h1)]
    have V : kindV f n = 0 := by rw [HV, E]; rfl
    rw [E, V]
    clear E V HK HV
    obtain rfl : k = 0 := by omega
    go_enter Try.func25, Try.ntmps25
    go_wp2_with fail
    refine C.out.mono ?_
    rintro e w' ⟨rfl, rfl⟩
    go_wp2_with fail
    go_ret2
    exact ⟨rfl, rfl⟩
  by_cases h5 : 4 < k
  · have E : kindE f n = 60 := by rw [HK, if_pos (.inr h5)]
    have V : kindV f n = 0 := by rw [HV, E]; rfl
    rw [E, V]
    clear E V HK HV
    have d1 : decide ((k : Int) < 1) = false := decide_eq_false (by omega)
    have d2 : decide ((4 : Int) < (k : Int)) = true := decide_eq_true (by omega)
    go_enter Try.func25, Try.ntmps25
    go_wp2_with fail
    refine C.out.mono ?_
    rintro e w' ⟨rfl, rfl⟩
    go_wp2_with fail
    go_ret2
    exact ⟨rfl, rfl⟩
  have d1 : decide ((k : Int) < 1) = false := decide_eq_false (by omega)
  have d2 : decide ((4 : Int) < (k : Int)) = false := decide_eq_false (by omega)
  have S := Lib.hid (rightSize_any k n (by omega) (by omega) hn w)
  rw [if_neg (by omega)] at HK
  cases hs : fitN k n with
  | true =>
    have E : kindE f n = 0 := by rw [HK, if_pos hs]
    have V : kindV f n = k := by rw [HV, E]; rfl
    rw [E, V]
    rw [hs] at S
    clear E V HK HV hs
    go_enter Try.func25, Try.ntmps25
    go_wp2_with fail
    refine C.out.mono ?_
    rintro e w' ⟨rfl, rfl⟩
    go_wp2_with fail
    refine S.out.mono ?_
    rintro e w' ⟨rfl, rfl⟩
    go_wp2_with fail
    go_ret2
    exact ⟨rfl, rfl⟩
  | false =>
    have E : kindE f n = 3 := by rw [HK, if_neg (by rw [hs]; simp)]
    have V : kindV f n = 0 := by rw [HV, E]; rfl
    rw [E, V]
    rw [hs] at S
    clear E V HK HV hs
    go_enter Try.func25, Try.ntmps25
    go_wp2_with fail
    refine C.out.mono ?_
    rintro e w' ⟨rfl, rfl⟩
    go_wp2_with fail
    refine S.out.mono ?_
    rintro e w' ⟨rfl, rfl⟩
    go_wp2_with fail
    go_ret2
    exact ⟨rfl, rfl⟩

end Wire
end Go.Proofs.Ytfbkppabgogdgaa
