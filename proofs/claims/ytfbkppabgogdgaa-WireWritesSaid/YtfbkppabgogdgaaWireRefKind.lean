/- The document's own Sizes and Kind of wire. -/
import Derived.Test.YtfbkppabgogdgaaWireMsg
import Derived.Test.YtfbkppabgogdgaaWireKind
import Derived.Test.YtfbkppabgogdgaaOps
namespace Go.Proofs.Ytfbkppabgogdgaa
namespace RefW
open Go.ChangeShapes Go.WideShapes Go.ChangeAt Go.RowKit
open Num Mem Words Ref Cuts Chacha Quiet Wire

set_option maxHeartbeats 2000000 in
theorem sizes_any (k n : Nat) (h1 : 1 ≤ k) (h4 : k ≤ 4) (hn : n ≤ 9223372036854775807) (w : World) : Calls Try.prog 17 #[.int .u8 k, .int .i64 n] w fun e w' => e = .returned (.bool (fitN k n)) ∧ w' = w := by
  have hk : k = 1 ∨ k = 2 ∨ k = 3 ∨ k = 4 := by omega
  rcases hk with rfl | rfl | rfl | rfl
  · have e : ((n : Int) == 148) = fitN 1 n := by unfold fitN; rw [Bool.eq_iff_iff]; simp; omega
    go_enter Try.func17, Try.ntmps17
    go_wp2
    go_ret
    exact ⟨by rw [← e]; rfl, rfl⟩
  · have e : ((n : Int) == 92) = fitN 2 n := by unfold fitN; rw [Bool.eq_iff_iff]; simp; omega
    go_enter Try.func17, Try.ntmps17
    go_wp2
    go_ret
    exact ⟨by rw [← e]; rfl, rfl⟩
  · have e : ((n : Int) == 64) = fitN 3 n := by unfold fitN; rw [Bool.eq_iff_iff]; simp; omega
    go_enter Try.func17, Try.ntmps17
    go_wp2
    go_ret
    exact ⟨by rw [← e]; rfl, rfl⟩
  · obtain ⟨r, hr⟩ : ∃ r, n % 16 = r := ⟨_, rfl⟩
    have ht : Int.tmod (n : Int) 16 = (r : Int) := by rw [← hr]; rfl
    have e : fitN 4 n = (decide (32 ≤ n) && decide (n ≤ 1548) && decide (r = 0)) := by unfold fitN; rw [Bool.eq_iff_iff]; simp; omega
    rw [e]
    by_cases a1 : 32 ≤ n
    · have b1 : (32 : Int) ≤ (n : Int) := by omega
      by_cases a2 : n ≤ 1548
      · have b2 : (n : Int) ≤ 1548 := by omega
        by_cases a3 : r = 0
        · subst a3
          go_enter Try.func17, Try.ntmps17
          go_wp2
          go_ret
          exact ⟨by simp, rfl⟩
        · have b3 : ((r : Int) == 0) = false := by rw [beq_eq_false_iff_ne]; omega
          have b4 : ((r : Int) = 0) = False := by rw [eq_iff_iff, iff_false]; omega
          go_enter Try.func17, Try.ntmps17
          go_wp2
          go_ret
          exact ⟨by simp [a3], rfl⟩
      · have b2 : ¬ ((n : Int) ≤ 1548) := by omega
        have b3 : (1548 : Int) < (n : Int) := by omega
        go_enter Try.func17, Try.ntmps17
        go_wp2
        go_ret
        exact ⟨by simp, rfl⟩
    · have b1 : ¬ ((32 : Int) ≤ (n : Int)) := by omega
      have b3 : (n : Int) < 32 := by omega
      go_enter Try.func17, Try.ntmps17
      go_wp2
      go_ret
      exact ⟨by simp, rfl⟩

theorem le_four (f : Nat → Nat) : le f 0 4 = f 0 + 256 * f 1 + 65536 * f 2 + 16777216 * f 3 := by
  simp [le]
  omega

set_option maxRecDepth 100000 in
set_option maxHeartbeats 4000000 in
theorem kind_any (A : Option Addr) (n c : Nat) (f : Nat → Nat) (hf : ∀ i, f i < 256) (hn : n ≤ 9223372036854775807) (w : World) (hr : Rd w A n f) :
    Calls Try.prog 26 #[.slice A n c] w fun e w' => e = .returned (.tuple #[.int .i64 (kindV f n : Nat), .int .i64 (kindE f n : Nat)]) ∧ w' = w := by
  by_cases h4 : n < 4
  · have E : kindE f n = 10 := by unfold kindE; rw [if_pos h4]
    have V : kindV f n = 0 := by unfold kindV; rw [E]; rfl
    rw [E, V]
    clear E V hr
    have d1 : decide ((n : Int) < 4) = true := decide_eq_true (by omega)
    go_enter Try.func26, Try.ntmps26
    go_wp2_with fail
    go_ret2
    exact ⟨rfl, rfl⟩
  obtain ⟨b, off, rfl, hb, hc⟩ : ∃ b off, A = some ⟨b, off, none⟩ ∧ b < w.heap.size ∧ ∀ i, i < n → w.cell? ⟨b, off + i, none⟩ = some (.int .u8 (f i : Nat)) := by
    rcases hr with h0 | h
    · omega
    · exact h
  have n0 : ¬ ((n : Int) < 4) := by omega
  have n4 : (4 : Int) ≤ (n : Int) := by omega
  have n1 : (0 : Int) < (n : Int) := by omega
  have n2 : (1 : Int) < (n : Int) := by omega
  have n3 : (2 : Int) < (n : Int) := by omega
  have n5 : (3 : Int) < (n : Int) := by omega
  have c0 : w.cell? ⟨b, off, none⟩ = some (.int .u8 (f 0 : Nat)) := hc 0 (by omega)
  have c1 : w.cell? ⟨b, off + 1, none⟩ = some (.int .u8 (f 1 : Nat)) := hc 1 (by omega)
  have c2 : w.cell? ⟨b, off + 2, none⟩ = some (.int .u8 (f 2 : Nat)) := hc 2 (by omega)
  have c3 : w.cell? ⟨b, off + 3, none⟩ = some (.int .u8 (f 3 : Nat)) := hc 3 (by omega)
  have q0 := hf 0
  have q1 := hf 1
  have q2 := hf 2
  have q3 := hf 3
  have HK : kindE f n = if le f 0 4 < 1 ∨ 4 < le f 0 4 then 60 else if fitN (le f 0 4) n = true then 0 else 3 := by unfold kindE; rw [if_neg h4]
  have HV : kindV f n = if kindE f n = 0 then le f 0 4 else 0 := rfl
  rw [le_four] at HK HV
  clear hr hc hf
  generalize f 0 = x0 at *
  generalize f 1 = x1 at *
  generalize f 2 = x2 at *
  generalize f 3 = x3 at *
  generalize kindE f n = kE at *
  generalize kindV f n = kV at *
  by_cases a0 : x0 < 1
  · have E : kE = 60 := by rw [HK, if_pos (by omega)]
    have V : kV = 0 := by rw [HV, E]; rfl
    rw [E, V]
    clear E V HK HV
    obtain rfl : x0 = 0 := by omega
    go_enter Try.func26, Try.ntmps26
    go_wp2_with fail
    go_ret2
    exact ⟨rfl, rfl⟩
  have b0 : ¬ ((x0 : Int) < 1) := by omega
  have b00 : (1 : Int) ≤ (x0 : Int) := by omega
  by_cases a1 : 4 < x0
  · have E : kE = 60 := by rw [HK, if_pos (by omega)]
    have V : kV = 0 := by rw [HV, E]; rfl
    rw [E, V]
    clear E V HK HV
    have b1 : (4 : Int) < (x0 : Int) := by omega
    go_enter Try.func26, Try.ntmps26
    go_wp2_with fail
    go_ret2
    exact ⟨rfl, rfl⟩
  have b1 : ¬ ((4 : Int) < (x0 : Int)) := by omega
  have b11 : (x0 : Int) ≤ 4 := by omega
  by_cases a2 : x1 ≠ 0
  · have E : kE = 60 := by rw [HK, if_pos (by omega)]
    have V : kV = 0 := by rw [HV, E]; rfl
    rw [E, V]
    clear E V HK HV
    have b2 : ((x1 : Int) != 0) = true := by rw [bne_iff_ne]; omega
    have bb1 : ((x1 : Int) = 0) = False := by rw [eq_iff_iff, iff_false]; omega
    go_enter Try.func26, Try.ntmps26
    go_wp2_with fail
    go_ret2
    exact ⟨rfl, rfl⟩
  obtain rfl : x1 = 0 := by omega
  by_cases a3 : x2 ≠ 0
  · have E : kE = 60 := by rw [HK, if_pos (by omega)]
    have V : kV = 0 := by rw [HV, E]; rfl
    rw [E, V]
    clear E V HK HV
    have b3 : ((x2 : Int) != 0) = true := by rw [bne_iff_ne]; omega
    have bb2 : ((x2 : Int) = 0) = False := by rw [eq_iff_iff, iff_false]; omega
    go_enter Try.func26, Try.ntmps26
    go_wp2_with fail
    go_ret2
    exact ⟨rfl, rfl⟩
  obtain rfl : x2 = 0 := by omega
  by_cases a4 : x3 ≠ 0
  · have E : kE = 60 := by rw [HK, if_pos (by omega)]
    have V : kV = 0 := by rw [HV, E]; rfl
    rw [E, V]
    clear E V HK HV
    have b4 : ((x3 : Int) != 0) = true := by rw [bne_iff_ne]; omega
    have bb3 : ((x3 : Int) = 0) = False := by rw [eq_iff_iff, iff_false]; omega
    go_enter Try.func26, Try.ntmps26
    go_wp2_with fail
    go_ret2
    exact ⟨rfl, rfl⟩
  obtain rfl : x3 = 0 := by omega
  rw [show x0 + 256 * 0 + 65536 * 0 + 16777216 * 0 = x0 by omega] at HK HV
  rw [if_neg (by omega)] at HK
  have S := Lib.hid (sizes_any x0 n (by omega) (by omega) hn w)
  have hcv : IntKind.i64.wrap (x0 : Int) = (x0 : Int) := by rw [IntKind.wrap_i64]; omega
  cases hs : fitN x0 n with
  | true =>
    rw [hs] at S HK
    have E : kE = 0 := by rw [HK]; rfl
    have V : kV = x0 := by rw [HV, E]; rfl
    rw [E, V]
    clear E V HK HV hs
    go_enter Try.func26, Try.ntmps26
    go_wp2_with (go_at_call 17; refine S.out.mono ?_; rintro e w' ⟨rfl, rfl⟩)
    try rw [hcv]
    go_ret2
    exact ⟨rfl, rfl⟩
  | false =>
    rw [hs] at S HK
    have E : kE = 3 := by rw [HK]; rfl
    have V : kV = 0 := by rw [HV, E]; rfl
    rw [E, V]
    clear E V HK HV hs
    go_enter Try.func26, Try.ntmps26
    go_wp2_with (go_at_call 17; refine S.out.mono ?_; rintro e w' ⟨rfl, rfl⟩)
    go_ret2
    exact ⟨rfl, rfl⟩

end RefW
end Go.Proofs.Ytfbkppabgogdgaa
