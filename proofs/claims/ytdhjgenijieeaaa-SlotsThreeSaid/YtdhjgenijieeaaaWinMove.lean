/- Package window, the digits: with and moved. -/
import Derived.Test.YtdhjgenijieeaaaWin
namespace Go.Proofs.Ytdhjgenijieeaaa
namespace Win
open Go.ChangeShapes Go.WideShapes Go.ChangeAt Go.RowKit
open Num Mem Words Chacha Aead Poly Quiet WinT

theorem or64 (x y : Nat) (hx : x < 2 ^ 64) (hy : y < 2 ^ 64) : bits .or .u64 (x : Int) (y : Int) = ((x ||| y : Nat) : Int) := by
  show IntKind.u64.wrap ((BitVec.ofInt 64 (x : Int) ||| BitVec.ofInt 64 (y : Int)).toNat : Int) = _
  rw [BitVec.toNat_or, BitVec.toNat_ofInt, BitVec.toNat_ofInt, show ((x : Int) % ((2 ^ 64 : Nat) : Int)).toNat = x by omega, show ((y : Int) % ((2 ^ 64 : Nat) : Int)).toNat = y by omega, wrap64_nat, Nat.mod_eq_of_lt (Nat.or_lt_two_pow hx hy)]
theorem cast_pow (k : Nat) : ((2 : Int) ^ k) = ((2 ^ k : Nat) : Int) := by rw [Int.natCast_pow]; rfl
theorem wrap_pow (k : Nat) (hk : k < 64) : IntKind.u64.wrap ((2 : Int) ^ k) = ((2 ^ k : Nat) : Int) := by
  rw [cast_pow, wrap64_nat, Nat.mod_eq_of_lt (Nat.pow_lt_pow_right (by omega) hk)]
theorem wrap_mul (a k : Nat) : IntKind.u64.wrap ((a : Int) * 2 ^ k) = ((a * 2 ^ k % 2 ^ 64 : Nat) : Int) := by
  rw [cast_pow, ← Int.natCast_mul, wrap64_nat]
theorem div_pow (a k : Nat) : ((a : Int) / 2 ^ k) = ((a / 2 ^ k : Nat) : Int) := by rw [cast_pow, Int.natCast_ediv]
theorem or_pow (a k : Nat) (ha : a < 2 ^ 64) (hk : k < 64) : bits .or .u64 (a : Int) (IntKind.u64.wrap ((2 : Int) ^ k)) = ((a ||| 2 ^ k : Nat) : Int) := by
  rw [wrap_pow k hk, or64 _ _ ha (Nat.pow_lt_pow_right (by omega) hk)]
theorem or_mov (a b k : Nat) (ha : a < 2 ^ 64) : bits .or .u64 (IntKind.u64.wrap ((b : Int) * 2 ^ k)) ((a : Int) / 2 ^ (64 - k)) = ((b * 2 ^ k % 2 ^ 64 ||| a / 2 ^ (64 - k) : Nat) : Int) := by
  rw [wrap_mul, div_pow, or64 _ _ (Nat.mod_lt _ (by decide)) (Nat.lt_of_le_of_lt (Nat.div_le_self _ _) ha)]

set_option maxRecDepth 100000 in
theorem with_low (a b k : Nat) (ha : a < 18446744073709551616) (hk : k < 64) (w : World) :
    Calls Try.prog 38 #[.agg #[.int .u64 a, .int .u64 b], .int .u64 k] w fun e w' => e = .returned (.agg #[.int .u64 (with0 a k : Nat), .int .u64 (with1 b k : Nat)]) ∧ Below w.heap.size w w' := by
  have h1 : (k : Int) / 64 = 0 := by omega
  have h2 : (k : Int) % 64 = k := by omega
  have h3 : min k 64 = k := by omega
  go_enter Try.func38, Try.ntmps38
  go_wp2
  refine bodyPost_ret (v := .agg #[.int .u64 (bits .or .u64 (a : Int) (IntKind.u64.wrap ((2 : Int) ^ k))), .int .u64 (b)]) (by simp [results, Try.results38, go_sem]) rfl ⟨?_, (below_alloc (below_alloc (Below.refl _ _) _) _)⟩
  rw [or_pow a k ha hk, show with0 a k = a ||| 2 ^ k from if_pos hk, show with1 b k = b from if_pos hk]
set_option maxRecDepth 100000 in
theorem with_high (a b k : Nat) (hb : b < 18446744073709551616) (hk : k < 64) (w : World) :
    Calls Try.prog 38 #[.agg #[.int .u64 a, .int .u64 b], .int .u64 (k + 64 : Nat)] w fun e w' => e = .returned (.agg #[.int .u64 (with0 a (k + 64) : Nat), .int .u64 (with1 b (k + 64) : Nat)]) ∧ Below w.heap.size w w' := by
  have h1 : ((k : Int) + 64) / 64 = 1 := by omega
  have h2 : ((k : Int) + 64) % 64 = k := by omega
  have h3 : min k 64 = k := by omega
  go_enter Try.func38, Try.ntmps38
  go_wp2
  refine bodyPost_ret (v := .agg #[.int .u64 (a), .int .u64 (bits .or .u64 (b : Int) (IntKind.u64.wrap ((2 : Int) ^ k)))]) (by simp [results, Try.results38, go_sem]) rfl ⟨?_, (below_alloc (below_alloc (Below.refl _ _) _) _)⟩
  rw [or_pow b k hb hk, show with0 a (k + 64) = a from if_neg (by omega), show with1 b (k + 64) = b ||| 2 ^ k by unfold with1; rw [if_neg (by omega), Nat.add_sub_cancel]]
set_option maxRecDepth 100000 in
theorem moved_low (a b k : Nat) (ha : a < 18446744073709551616) (hk : k < 64) (w : World) :
    Calls Try.prog 37 #[.agg #[.int .u64 a, .int .u64 b], .int .u64 k] w fun e w' => e = .returned (.agg #[.int .u64 (mov0 a k : Nat), .int .u64 (mov1 a b k : Nat)]) ∧ Below w.heap.size w w' := by
  have h3 : min k 64 = k := by omega
  go_enter Try.func37, Try.ntmps37
  go_wp2
  refine bodyPost_ret (v := .agg #[.int .u64 (IntKind.u64.wrap ((a : Int) * 2 ^ k)), .int .u64 (bits .or .u64 (IntKind.u64.wrap ((b : Int) * 2 ^ k)) ((a : Int) / 2 ^ (64 - k)))]) (by simp [results, Try.results37, go_sem]) rfl ⟨?_, (below_alloc (below_alloc (Below.refl _ _) _) _)⟩
  rw [or_mov a b k ha, wrap_mul, show mov0 a k = a * 2 ^ k % 2 ^ 64 from if_pos hk, show mov1 a b k = (b * 2 ^ k % 2 ^ 64) ||| (a / 2 ^ (64 - k)) from if_pos hk]
set_option maxRecDepth 100000 in
theorem moved_mid (a b k : Nat) (hk : k < 64) (w : World) :
    Calls Try.prog 37 #[.agg #[.int .u64 a, .int .u64 b], .int .u64 (k + 64 : Nat)] w fun e w' => e = .returned (.agg #[.int .u64 (mov0 a (k + 64) : Nat), .int .u64 (mov1 a b (k + 64) : Nat)]) ∧ Below w.heap.size w w' := by
  have h3 : min k 64 = k := by omega
  go_enter Try.func37, Try.ntmps37
  go_wp2
  refine bodyPost_ret (v := .agg #[.int .u64 (0), .int .u64 (IntKind.u64.wrap ((a : Int) * 2 ^ k))]) (by simp [results, Try.results37, go_sem]) rfl ⟨?_, (below_alloc (below_alloc (Below.refl _ _) _) _)⟩
  rw [wrap_mul, show mov0 a (k + 64) = 0 from if_neg (by omega), show mov1 a b (k + 64) = a * 2 ^ k % 2 ^ 64 by unfold mov1; rw [if_neg (by omega), if_pos (by omega), Nat.add_sub_cancel]]; rfl
set_option maxRecDepth 100000 in
theorem moved_high (a b k : Nat) (hk : 128 ≤ k) (w : World) :
    Calls Try.prog 37 #[.agg #[.int .u64 a, .int .u64 b], .int .u64 k] w fun e w' => e = .returned (.agg #[.int .u64 (mov0 a k : Nat), .int .u64 (mov1 a b k : Nat)]) ∧ Below w.heap.size w w' := by
  go_enter Try.func37, Try.ntmps37
  go_wp2
  refine bodyPost_ret (v := .agg #[.int .u64 (0), .int .u64 (0)]) (by simp [results, Try.results37, go_sem]) rfl ⟨?_, (below_alloc (below_alloc (Below.refl _ _) _) _)⟩
  rw [show mov0 a k = 0 from if_neg (by omega), show mov1 a b k = 0 by unfold mov1; rw [if_neg (by omega), if_neg (by omega)]]; rfl

theorem with_any (a b k : Nat) (ha : a < 18446744073709551616) (hb : b < 18446744073709551616) (hk : k < 128) (w : World) :
    Calls Try.prog 38 #[.agg #[.int .u64 a, .int .u64 b], .int .u64 k] w fun e w' => e = .returned (.agg #[.int .u64 (with0 a k : Nat), .int .u64 (with1 b k : Nat)]) ∧ Below w.heap.size w w' := by
  by_cases h : k < 64
  · exact with_low a b k ha h w
  · obtain ⟨j, rfl⟩ : ∃ j, k = j + 64 := ⟨k - 64, by omega⟩
    exact with_high a b j hb (by omega) w
theorem moved_any (a b k : Nat) (ha : a < 18446744073709551616) (w : World) :
    Calls Try.prog 37 #[.agg #[.int .u64 a, .int .u64 b], .int .u64 k] w fun e w' => e = .returned (.agg #[.int .u64 (mov0 a k : Nat), .int .u64 (mov1 a b k : Nat)]) ∧ Below w.heap.size w w' := by
  by_cases h : k < 64
  · exact moved_low a b k ha h w
  · by_cases g : k < 128
    · obtain ⟨j, rfl⟩ : ∃ j, k = j + 64 := ⟨k - 64, by omega⟩
      exact moved_mid a b j (by omega) w
    · exact moved_high a b k (by omega) w
end Win
end Go.Proofs.Ytdhjgenijieeaaa
