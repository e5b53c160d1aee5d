/- '==' of windows: one with itself is the same. -/
import Derived.Test.YtdhjgenijieeaaaWinAny
import Derived.Test.YtdhjgenijieeaaaEqLits
namespace Go.Proofs.Ytdhjgenijieeaaa
namespace Win
open Mem EqLits WinT

set_option maxRecDepth 10000 in
theorem win_lits (n a b : Nat) (hn : n < 18446744073709551616) (ha : a < 18446744073709551616) (hb : b < 18446744073709551616) : (Try.prog.keyLits 4 32 [.int .u64 n, .int .u64 a, .int .u64 b]).isSome = true := by
  refine lits_struct Try.underlying32 3 _ (by kernel_rfl) (by kernel_rfl) fun f hf => ?_
  simp only [List.mem_cons, List.not_mem_nil, or_false] at hf
  rcases hf with rfl | rfl
  · exact lits_u64 Try.underlying28 2 n hn
  · show (Try.prog.keyLits 3 30 [.int .u64 a, .int .u64 b]).isSome = true
    refine lits_array Try.underlying30 2 _ (by kernel_rfl) fun i hi => ?_
    rw [show Try.prog.cellsOf 28 = 1 by kernel_rfl]
    match i, hi with
    | 0, _ => exact lits_u64 Try.underlying28 1 a ha
    | 1, _ => exact lits_u64 Try.underlying28 1 b hb
theorem win_eq (s : St) (hs : s.ok) (w : World) : (Op.equalIn 10000 32 (.agg #[.int .u64 s.n, .int .u64 s.a, .int .u64 s.b]) (.agg #[.int .u64 s.n, .int .u64 s.a, .int .u64 s.b])).run Try.prog w = .ok true w :=
  eq_of_lits (m := 4) (D := 4) (by kernel_rfl) (by omega) (by kernel_rfl) (win_lits s.n s.a s.b hs.1 hs.2.1 hs.2.2) w
end Win
end Go.Proofs.Ytdhjgenijieeaaa
