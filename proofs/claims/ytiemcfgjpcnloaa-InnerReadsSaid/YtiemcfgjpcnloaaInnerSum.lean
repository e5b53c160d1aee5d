/- The calls Sum, number and put of package inner, each by what it answers. -/
import Derived.Test.YtiemcfgjpcnloaaInnerNum
import Derived.Test.YtiemcfgjpcnloaaKit
namespace Go.Proofs.Ytiemcfgjpcnloaa
namespace Inner
open Go.ChangeShapes Go.WideShapes Go.ChangeAt Go.RowKit
open Num Mem Words Chacha Aead

def foldN : Nat → Nat → Nat
  | 0, s => s
  | k + 1, s => fold1 (foldN k s)
theorem foldN_le (s k : Nat) : foldN k s ≤ s := by
  induction k with
  | zero => exact Nat.le_refl _
  | succ k ih => unfold foldN fold1; omega
theorem and16 (v : Nat) (hv : v < 18446744073709551616) : bits .and .u64 (v : Int) 65535 = ((v % 65536 : Nat) : Int) := by
  have h := u64_and_nat v 65535 hv (by omega)
  rw [show (65535 : Nat) = 2 ^ 16 - 1 from rfl, Nat.and_two_pow_sub_one_eq_mod] at h
  exact h
theorem fold_wrap (x : Nat) (hv : x < 18446744073709551616) : IntKind.u64.wrap ((x : Int) / 65536 + bits .and .u64 (x : Int) 65535) = ((fold1 x : Nat) : Int) := by
  rw [and16 x hv, IntKind.wrap_u64]
  unfold fold1
  omega
theorem sum_step (f : Nat → Nat) (k : Nat) : sumS f (k + 1) = sumS f k + weigh f k := rfl

set_option maxRecDepth 100000 in
set_option maxHeartbeats 2000000 in
theorem sum_any (A : Option Addr) (n c : Nat) (f : Nat → Nat) (hf : ∀ i, f i < 256) (hn : n ≤ 4000) (w : World) (hr : Rd w A n f) :
    Calls Try.prog 14 #[.slice A n c] w fun e w' => e = .returned (.int .u16 (canon (sumS f n) : Nat)) ∧ w = w' := by
  have HR := Lib.hid hr
  have HF := Lib.hid hf
  clear hr hf
  go_enter Try.func14, Try.ntmps14
  go_wp2
  go_loop [3, 7] (fun s i => ∃ k : Nat, k ≤ n ∧ i = .int .i64 k ∧ s = .int .u64 (sumS f k : Nat)) (fun _ i => n - (intOf i).toNat)
  case atStart => exact ⟨0, Nat.zero_le _, rfl, rfl⟩
  case round =>
    obtain ⟨k, hk, rfl, rfl⟩ := hrel
    have hb := sumS_le HF.out k
    by_cases hlt : k < n
    · obtain ⟨b, off, rfl, hbl, hc⟩ : ∃ b off, A = some ⟨b, off, none⟩ ∧ b < w.heap.size ∧ ∀ i, i < n → w.cell? ⟨b, off + i, none⟩ = some (.int .u8 (f i : Nat)) := by
        rcases HR.out with h | h
        · omega
        · exact h
      have hcell := hc k hlt
      have hfk := HF.out k
      have hs := sum_step f k
      have HC := Lib.hid hc
      clear hc
      generalize hg : f k = v at hcell hfk
      generalize hS : sumS f k = S at hb hs ⊢
      by_cases hp : k % 2 = 0
      · have hp1 : (k : Int) % 2 = 0 := by omega
        have hs2 : sumS f (k + 1) = S + v * 256 := by rw [hs]; unfold weigh; rw [if_pos hp, hg]
        have HS := Lib.hid hs2
        clear hs hs2 hg hS hp HC
        go_wp2
        go_round
        case rel => exact ⟨k + 1, by omega, by go_num, by rw [HS.out]; simp⟩
        case measure => simp [intOf]; omega
      · have hp1 : (k : Int) % 2 = 1 := by omega
        have hs2 : sumS f (k + 1) = S + v := by rw [hs]; unfold weigh; rw [if_neg hp, hg]
        have HS := Lib.hid hs2
        clear hs hs2 hg hS hp HC
        go_wp2
        go_round
        case rel => exact ⟨k + 1, by omega, by go_num, by rw [HS.out]; simp⟩
        case measure => simp [intOf]; omega
    · obtain rfl : k = n := by omega
      have HT := Lib.hid (show foldN 4 (sumS f k) = canon (sumS f k) from fold_all (s := sumS f k) (by omega))
      obtain ⟨S, hS⟩ : ∃ S, sumS f k = S := ⟨_, rfl⟩
      rw [hS] at hb HT ⊢
      have HS := Lib.hid hS
      clear hlt hS
      go_wp2
      go_loop [3, 23] (fun s i => ∃ j : Nat, j ≤ 4 ∧ i = .int .i64 j ∧ s = .int .u64 (foldN j S : Nat)) (fun _ i => 4 - (intOf i).toNat)
      case atStart => exact ⟨0, Nat.zero_le _, rfl, rfl⟩
      case round =>
        obtain ⟨j, hj, rfl, rfl⟩ := hrel
        have hle := foldN_le S j
        by_cases hj4 : j < 4
        · have HF1 := Lib.hid (show foldN (j + 1) S = fold1 (foldN j S) from rfl)
          generalize foldN j S = x at hle HF1 ⊢
          go_wp2
          go_round
          case rel => exact ⟨j + 1, by omega, by go_num, by rw [HF1.out, fold_wrap x (by omega)]⟩
          case measure => simp [intOf]; omega
        · obtain rfl : j = 4 := by omega
          rw [HT.out]
          have hcl := canon_le S
          have HX := Lib.hid (show canon S = canon (sumS f k) from by rw [HS.out])
          generalize canon S = x at hcl HX ⊢
          clear hle
          go_wp2
          go_ret
          exact ⟨by rw [← HX.out]; rfl, rfl⟩

set_option maxRecDepth 100000 in
theorem number_any (b off n c : Nat) (f : Nat → Nat) (hf : ∀ i, f i < 256) (p : Nat) (h : p + 2 ≤ n) (hn : n ≤ 9223372036854775807) (w : World)
    (hc : ∀ i, i < n → w.cell? ⟨b, off + i, none⟩ = some (.int .u8 (f i))) :
    Calls Try.prog 24 #[.slice (some ⟨b, off, none⟩) n c, .int .i64 p] w fun e w' => e = .returned (.int .i64 (f p * 256 + f (p + 1) : Nat)) ∧ w = w' := by
  have HF := Lib.hid hf
  have HC := Lib.hid hc
  have h1 := hf p
  have h2 := hf (p + 1)
  have HV := Lib.hid (show be f p 2 = f p * 256 + f (p + 1) from by simp [be])
  obtain ⟨v, hv⟩ : ∃ v, f p * 256 + f (p + 1) = v := ⟨_, rfl⟩
  rw [hv] at HV ⊢
  have hv2 : v < 65536 := by omega
  clear hf hc hv h1 h2
  go_enter Try.func24, Try.ntmps24
  go_wp2_with fail
  refine (big_ok b off n c f HF.out p 2 (by omega) (by omega) h hn _ HC.out).mono ?_
  rintro e w' ⟨rfl, rfl⟩
  rw [HV.out]
  go_wp2
  go_ret
  exact ⟨rfl, rfl⟩

end Inner
end Go.Proofs.Ytiemcfgjpcnloaa
