/- Package window: what each call answers, as plain arithmetic of the window's number and its two words. -/
import Derived.Test.YtdhjgenijieeaaaKit
import Derived.Test.YtdhjgenijieeaaaWinNum
namespace Go.Proofs.Ytdhjgenijieeaaa
namespace Win
open Go.ChangeShapes Go.WideShapes Go.ChangeAt Go.RowKit
open Num Mem WinT

theorem ret_int {k : IntKind} {a b : Int} (h : a = b) : Ending.returned (.int k a) = .returned (.int k b) := by rw [h]
theorem ret_bool {a b : Bool} (h : a = b) : Ending.returned (.bool a) = .returned (.bool b) := by rw [h]

theorem band1 (d k : Nat) : (bits .and .u64 ((d : Int) / 2 ^ k) 1 == 1) = d.testBit k := by
  rw [show ((d : Int) / 2 ^ k) = ((d / 2 ^ k : Nat) : Int) by rw [Int.natCast_ediv, Int.natCast_pow]; rfl, Nat.testBit, Nat.shiftRight_eq_div_pow]
  have e : bits .and .u64 ((d / 2 ^ k : Nat) : Int) 1 = ((d / 2 ^ k % 2 : Nat) : Int) := by
    generalize d / 2 ^ k = x
    have h : (BitVec.ofInt 64 (x : Int) &&& BitVec.ofInt 64 1).toNat = x % 2 := by
      rw [BitVec.toNat_and, show (BitVec.ofInt 64 1).toNat = 2 ^ 1 - 1 from rfl, Nat.and_two_pow_sub_one_eq_mod, BitVec.toNat_ofInt]
      omega
    show IntKind.u64.wrap ((BitVec.ofInt 64 (x : Int) &&& BitVec.ofInt 64 1).toNat : Int) = _
    rw [h, IntKind.wrap_u64]
    omega
  rw [e, Nat.and_comm, Nat.and_one_is_mod]
  rcases Nat.mod_two_eq_zero_or_one (d / 2 ^ k) with h | h <;> rw [h] <;> rfl

set_option maxRecDepth 100000 in
theorem has_any (a b k : Nat) (hk : k < 128) (w : World) :
    Calls Try.prog 52 #[.agg #[.int .u64 a, .int .u64 b], .int .u64 k] w fun e w' => e = .returned (.bool (bit a b k)) ∧ Below w.heap.size w w' := by
  by_cases h : k < 64
  · have h1 : (k : Int) / 64 = 0 := by omega
    have h2 : (k : Int) % 64 = k := by omega
    have h3 : min k 64 = k := by omega
    go_enter Try.func52, Try.ntmps52
    go_wp2
    go_ret
    exact ⟨ret_bool (by rw [band1]; unfold bit; rw [if_pos h]), below_alloc (Below.refl _ _) _⟩
  · obtain ⟨j, rfl⟩ : ∃ j, k = j + 64 := ⟨k - 64, by omega⟩
    have h1 : ((j : Int) + 64) / 64 = 1 := by omega
    have h2 : ((j : Int) + 64) % 64 = j := by omega
    have h3 : min j 64 = j := by omega
    go_enter Try.func52, Try.ntmps52
    go_wp2
    go_ret
    exact ⟨ret_bool (by rw [band1]; unfold bit; rw [if_neg h, Nat.add_sub_cancel]), below_alloc (Below.refl _ _) _⟩

set_option maxRecDepth 100000 in
theorem below_any (n a b m : Nat) (hn : n < 18446744073709551616) (hm : m < n) (w : World) :
    Calls Try.prog 39 #[.agg #[.int .u64 n, .int .u64 a, .int .u64 b], .int .u64 m] w fun e w' => e = .returned (.int .u64 ((n - 1 - m : Nat) : Int)) ∧ Below w.heap.size w w' := by
  have e : ((n - 1 - m : Nat) : Int) = (n : Int) - 1 - m := by omega
  have E := Lib.hid e
  clear e
  go_enter Try.func39, Try.ntmps39
  go_wp2
  go_ret
  exact ⟨ret_int (by rw [E.out]), below_alloc (Below.refl _ _) _⟩

set_option maxRecDepth 100000 in
theorem known_any (n a b m : Nat) (hn : n < 18446744073709551616) (hm : m < n) (w : World) :
    Calls Try.prog 43 #[.agg #[.int .u64 n, .int .u64 a, .int .u64 b], .int .u64 m] w fun e w' => e = .returned (.bool (decide (n - 1 - m < 128))) ∧ Below w.heap.size w w' := by
  have HB := Lib.hid (fun w => below_any n a b m hn hm w)
  generalize n - 1 - m = k at HB ⊢
  go_enter Try.func43, Try.ntmps43
  go_wp2_with fail
  refine (HB.out _).mono ?_
  rintro e w1 ⟨rfl, hb⟩
  have KB := Lib.hid (below_new (Below.refl _ _) hb)
  clear hb
  go_wp2
  go_ret
  exact ⟨ret_bool (by rw [Bool.eq_iff_iff, decide_eq_true_eq, decide_eq_true_eq]; omega), KB.out⟩
end Win
end Go.Proofs.Ytdhjgenijieeaaa
