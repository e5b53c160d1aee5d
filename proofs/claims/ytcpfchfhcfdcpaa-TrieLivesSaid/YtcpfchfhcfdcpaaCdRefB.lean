/- The document's own Bit and Mask. -/
import Derived.Test.YtcpfchfhcfdcpaaCdRefA
namespace Go.Proofs.Ytcpfchfhcfdcpaa
namespace Tri
open Go.ChangeShapes Go.WideShapes Go.ChangeAt Go.RowKit
open Num Mem Words Chacha Aead Poly Quiet Ops Adr RowS

set_option maxRecDepth 100000 in
set_option maxHeartbeats 2000000 in
/-- the digit of an address that may be -/
theorem rBit_any (s : Bool) (f : Nat → Nat) (hf : ∀ i, f i < 256) (hr : rightB s f = true) (n : Nat) (hn : (n : Int) < digitsI s) (w : World) :
    Calls Try.prog 45 #[.agg (addrL s f).toArray, .int .i64 n] w fun e w' => e = .returned (.int .i64 (f (n / 8) / 2 ^ (7 - n % 8) % 2 : Nat)) ∧ Below w.heap.size w w' := by
  have HR := Lib.hid (fun w => rRight_any s f hf w)
  have HD := Lib.hid (fun w => rSize_any s f w)
  rw [hr] at HR
  have hd2 := digits_le s
  have hn128 : n < 128 := by omega
  have HA := Lib.hid (addrL_length s f)
  have HC := Lib.hid (show ∀ X B T, Whole X B T (addrL s f).toArray → ∀ i, i < 16 → X.cell? ⟨B, 1 + i, none⟩ = some (.int .u8 (f i : Nat)) from fun X B T h i hi => addr_at h hi)
  obtain ⟨d, hd⟩ : ∃ d, digitsI s = d := ⟨_, rfl⟩
  rw [hd] at HD hn hd2
  obtain ⟨R, hRR⟩ : ∃ R, f (n / 8) / 2 ^ (7 - n % 8) % 2 = R := ⟨_, rfl⟩
  rw [hRR]
  obtain ⟨A, hA⟩ : ∃ L, addrL s f = L := ⟨_, rfl⟩
  rw [hA] at HR HD HA HC ⊢
  clear hA hd hr
  go_enter Try.func45, Try.ntmps45
  go_upto_region 1 with fail
  refine cut_world (fun X => Whole X w.heap.size 27 A.toArray ∧ Below w.heap.size w X) ⟨Whole.new _ _ _, below_alloc (Below.refl _ _) _⟩ ?_
  rintro W ⟨p1, pb⟩
  have P1 := Lib.hid p1
  have PB := Lib.hid pb
  clear p1 pb
  generalize hB : w.heap.size = B at P1 PB ⊢
  have HB := Lib.hid hB
  clear hB
  have h0d : decide ((n : Int) < 0) = false := decide_eq_false (by omega)
  have h1d : decide (d ≤ (n : Int)) = false := decide_eq_false (by omega)
  clear hn hd2
  go_upto_region 3 with (first
    | (refine Poly.wpList_load_row_if rfl 27 (.tmp 2) rfl B rfl 27 A _ P1.out rfl rfl (by rw [HA.out]; kernel_rfl) ?_)
    | (go_at_call 44; refine (HR.out _).mono ?_; rintro e w1 ⟨rfl, hb1⟩; replace PB := Lib.hid (PB.out.trans (hb1.mono (Nat.le_of_lt P1.out.lt))); replace P1 := Lib.hid (P1.out.below hb1 P1.out.lt); clear hb1)
    | (go_at_call 54; refine (HD.out _).mono ?_; rintro e w2 ⟨rfl, hb1⟩; replace PB := Lib.hid (PB.out.trans (hb1.mono (Nat.le_of_lt P1.out.lt))); replace P1 := Lib.hid (P1.out.below hb1 P1.out.lt); clear hb1))
  have hcell := HC.out _ _ _ P1.out (n / 8) (by omega)
  have hx := hf (n / 8)
  have hq1 : (n : Int).tdiv 8 = ((n / 8 : Nat) : Int) := by rw [Int.tdiv_eq_ediv_of_nonneg (by omega)]; omega
  have hq2 : (n : Int) / 8 = ((n / 8 : Nat) : Int) := by omega
  have hr1 : (n : Int).tmod 8 = ((n % 8 : Nat) : Int) := by rw [Int.tmod_eq_emod_of_nonneg (by omega)]; omega
  have hr2 : (n : Int) % 8 = ((n % 8 : Nat) : Int) := by omega
  have hq16 : n / 8 < 16 := by omega
  have hm8 : n % 8 < 8 := by omega
  generalize f (n / 8) = x at hcell hx hRR
  obtain ⟨q, hq⟩ : ∃ q, n / 8 = q := ⟨_, rfl⟩
  obtain ⟨m, hm⟩ : ∃ m, n % 8 = m := ⟨_, rfl⟩
  rw [hq] at hq1 hq2 hq16 hcell
  rw [hm] at hr1 hr2 hm8 hRR
  clear hq hm HC HR HD
  have hk7w : wrap64 (7 - (m : Int)) = ((7 - m : Nat) : Int) := by unfold wrap64; omega
  have hk7v : IntKind.i64.wrap (7 - (m : Int)) = ((7 - m : Nat) : Int) := by rw [IntKind.wrap_i64]; omega
  have HX := Lib.hid hx
  obtain ⟨j, hj⟩ : ∃ j, 7 - m = j := ⟨_, rfl⟩
  rw [hj] at hk7w hk7v hRR
  have HRR := Lib.hid hRR
  clear hRR
  have hj8 : j ≤ 7 := by omega
  clear hj
  go_wp2_with fail
  go_loopw [5, 6] (fun v i X => ∃ k : Nat, k ≤ j ∧ i = .int .i64 k ∧ v = .int .u8 (x / 2 ^ k : Nat) ∧ X = w2) (fun _ i _ => j - (intOf i).toNat)
  case atStart => exact ⟨0, Nat.zero_le _, rfl, by simp, rfl⟩
  case round =>
    obtain ⟨k, hk, rfl, rfl, rfl⟩ := hrel
    obtain ⟨y, hy⟩ : ∃ y, x / 2 ^ k = y := ⟨_, rfl⟩
    have hy256 : y < 256 := by rw [← hy]; exact Nat.lt_of_le_of_lt (Nat.div_le_self _ _) HX.out
    have HY := Lib.hid hy
    rw [hy]
    clear hy
    by_cases hlt : k < j
    · go_wp2_with fail
      go_round
      case rel => exact ⟨k + 1, by omega, by go_num, by rw [Nat.pow_succ, ← Nat.div_div_eq_div_mul, HY.out]; simp, trivial⟩
      case measure => simp only [intOf]; omega
    · obtain rfl : k = j := by omega
      go_wp2_with fail
      go_ret
      refine ⟨?_, by rw [HB.out]; exact PB.out⟩
      have e : y % 2 = R := by rw [← HY.out]; exact HRR.out
      rw [← e]
      rfl
end Tri
end Go.Proofs.Ytcpfchfhcfdcpaa
