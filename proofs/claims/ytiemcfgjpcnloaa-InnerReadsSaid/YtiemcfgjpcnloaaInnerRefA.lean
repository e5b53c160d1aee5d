/- The document's own answers of layer 12 (package aditref12): Sum and addr. -/
import Derived.Test.YtiemcfgjpcnloaaInnerRead
import Derived.LoopN
namespace Go.Proofs.Ytiemcfgjpcnloaa
namespace Inner
open Go.ChangeShapes Go.WideShapes Go.ChangeAt Go.RowKit
open Num Mem Words Chacha Aead Poly Quiet

theorem canon_two (S t : Nat) (h : t ≤ 65535) (r : Nat) (hr : canon S + t ≤ 65535 ∧ r = canon S + t ∨ 65535 < canon S + t ∧ r = canon S + t - 65535) : r = canon (S + t) := by
  rw [canon_step S t h]
  rcases hr with ⟨h1, h2⟩ | ⟨h1, h2⟩
  · rw [if_neg (by omega), h2]
  · rw [if_pos (by omega), h2]

set_option maxRecDepth 100000 in
set_option maxHeartbeats 2000000 in
theorem sum_ref (A : Option Addr) (n c : Nat) (f : Nat → Nat) (hf : ∀ i, f i < 256) (hn : n ≤ 4000) (w : World) (hr : Rd w A n f) :
    Calls Try.prog 20 #[.slice A n c] w fun e w' => e = .returned (.int .i64 (canon (sumS f n) : Nat)) ∧ w = w' := by
  have HR := Lib.hid hr
  have HF := Lib.hid hf
  clear hr hf
  go_enter Try.func20, Try.ntmps20
  go_wp2
  go_loop [3, 4] (fun s i => ∃ k : Nat, k ≤ n + 1 ∧ k % 2 = 0 ∧ i = .int .i64 k ∧ s = .int .i64 (canon (sumS f (min k n)) : Nat)) (fun _ i => n + 1 - (intOf i).toNat)
  case atStart => exact ⟨0, Nat.zero_le _, rfl, rfl, by rw [Nat.zero_min, show sumS f 0 = 0 from rfl, show canon 0 = 0 from by simp [canon]]; rfl⟩
  case round =>
    obtain ⟨k, hk, hk2, rfl, rfl⟩ := hrel
    have hcl := canon_le (sumS f (min k n))
    by_cases hlt : k < n
    · obtain ⟨b, off, rfl, hbl, hc⟩ : ∃ b off, A = some ⟨b, off, none⟩ ∧ b < w.heap.size ∧ ∀ i, i < n → w.cell? ⟨b, off + i, none⟩ = some (.int .u8 (f i : Nat)) := by
        rcases HR.out with h | h
        · omega
        · exact h
      have hcell := hc k hlt
      have hfk := HF.out k
      have hfk1 := HF.out (k + 1)
      have e1 : sumS f (k + 1) = sumS f k + f k * 256 := by rw [sum_step]; unfold weigh; rw [if_pos hk2]
      have e2 : sumS f (k + 2) = sumS f k + (f k * 256 + f (k + 1)) := by rw [show k + 2 = k + 1 + 1 from rfl, sum_step, e1]; unfold weigh; rw [if_neg (by omega)]; omega
      rw [Nat.min_eq_left (Nat.le_of_lt hlt)] at hcl ⊢
      by_cases hm : k + 1 < n
      · have hcell1 := hc (k + 1) hm
        have HE := Lib.hid (fun r hr => (canon_two (sumS f k) (f k * 256 + f (k + 1)) (by omega) r hr).trans (by rw [← e2, show min (k + 2) n = k + 2 from Nat.min_eq_left (by omega)]) : ∀ r, _ → r = canon (sumS f (min (k + 2) n)))
        clear e1 e2 hc
        generalize f k = v at hcell hfk HE
        generalize f (k + 1) = u at hcell1 hfk1 HE
        generalize canon (sumS f k) = x at hcl HE ⊢
        by_cases ht : 65535 < x + (v * 256 + u)
        · obtain ⟨r, hr⟩ : ∃ r, r + 65535 = x + (v * 256 + u) := ⟨_, Nat.sub_add_cancel (by omega)⟩
          have HV := Lib.hid (HE.out r (.inr ⟨ht, by omega⟩))
          have HZ := Lib.hid (show (x : Int) + 256 * (v : Int) + (u : Int) - 65536 + 1 = (r : Int) from by omega)
          have HD := Lib.hid (show (65535 : Int) < (x : Int) + 256 * (v : Int) + (u : Int) from by omega)
          clear HE ht hr
          go_upto_region 8 with fail
          obtain ⟨z, hz⟩ : ∃ z : Int, (x : Int) + 256 * (v : Int) + (u : Int) = z := ⟨_, rfl⟩
          rw [hz] at HZ HD
          have z1 := HD.out
          have z2 : z ≤ 131070 := by omega
          rw [hz]
          clear hz hcl hfk hfk1
          go_wp2
          go_round
          case rel => exact ⟨k + 2, by omega, by omega, by go_num, by rw [← HV.out, ← HZ.out]⟩
          case measure => simp [intOf]; omega
        · have d : decide ((65535 : Int) < (x : Int) + 256 * (v : Int) + (u : Int)) = false := decide_eq_false (by omega)
          have HV := Lib.hid (HE.out (x + (v * 256 + u)) (.inl ⟨by omega, rfl⟩))
          clear HE
          go_wp2
          go_round
          case rel => exact ⟨k + 2, by omega, by omega, by go_num, by rw [← HV.out]; congr 1; omega⟩
          case measure => simp [intOf]; omega
      · have HE := Lib.hid (fun r hr => (canon_two (sumS f k) (f k * 256) (by omega) r hr).trans (by rw [← e1, show min (k + 2) n = k + 1 from by omega]) : ∀ r, _ → r = canon (sumS f (min (k + 2) n)))
        clear e1 e2 hc hfk1
        generalize f k = v at hcell hfk HE
        generalize canon (sumS f k) = x at hcl HE ⊢
        by_cases ht : 65535 < x + v * 256
        · obtain ⟨r, hr⟩ : ∃ r, r + 65535 = x + v * 256 := ⟨_, Nat.sub_add_cancel (by omega)⟩
          have HV := Lib.hid (HE.out r (.inr ⟨ht, by omega⟩))
          have HZ := Lib.hid (show (x : Int) + 256 * (v : Int) - 65536 + 1 = (r : Int) from by omega)
          have HD := Lib.hid (show (65535 : Int) < (x : Int) + 256 * (v : Int) from by omega)
          clear HE ht hr
          go_upto_region 8 with fail
          obtain ⟨z, hz⟩ : ∃ z : Int, (x : Int) + 256 * (v : Int) = z := ⟨_, rfl⟩
          rw [hz] at HZ HD
          have z1 := HD.out
          have z2 : z ≤ 131070 := by omega
          rw [hz]
          clear hz hcl hfk
          go_wp2
          go_round
          case rel => exact ⟨k + 2, by omega, by omega, by go_num, by rw [← HV.out, ← HZ.out]⟩
          case measure => simp [intOf]; omega
        · have d : decide ((65535 : Int) < (x : Int) + 256 * (v : Int)) = false := decide_eq_false (by omega)
          have HV := Lib.hid (HE.out (x + v * 256) (.inl ⟨by omega, rfl⟩))
          clear HE
          go_wp2
          go_round
          case rel => exact ⟨k + 2, by omega, by omega, by go_num, by rw [← HV.out]; congr 1; omega⟩
          case measure => simp [intOf]; omega
    · have HM := Lib.hid (show min k n = n from Nat.min_eq_right (by omega))
      go_wp2
      go_ret
      exact ⟨by rw [HM.out]; rfl, rfl⟩

end Inner
end Go.Proofs.Ytiemcfgjpcnloaa
