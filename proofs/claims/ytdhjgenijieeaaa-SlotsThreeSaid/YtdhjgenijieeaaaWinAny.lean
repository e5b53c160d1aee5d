/- Package window: what Take and Next answer at any window. -/
import Derived.Test.YtdhjgenijieeaaaWinPut
namespace Go.Proofs.Ytdhjgenijieeaaa
namespace Win
open Go.ChangeShapes Go.WideShapes Go.ChangeAt Go.RowKit
open Num Mem Words Chacha Aead Poly Quiet WinT

/-- a window as a value -/
def winV (s : St) : Value := .agg #[.int .u64 s.n, .int .u64 s.a, .int .u64 s.b]
theorem check_or (s : St) (m : Nat) : check s m = 0 ∨ check s m = 80 ∨ check s m = 81 := by
  unfold check
  split
  · simp
  · split <;> simp
theorem take_any (s : St) (hs : s.ok) (m : Nat) (w : World) :
    Calls Try.prog 27 #[winV s, .int .u64 m] w fun e w' => e = .returned (.tuple #[winV (take s m), .int .i64 (check s m : Nat)]) ∧ Below w.heap.size w w' := by
  obtain ⟨n, a, b⟩ := s
  obtain ⟨hn, ha, hb⟩ := hs
  rcases check_or ⟨n, a, b⟩ m with h | h
  · rw [show take ⟨n, a, b⟩ m = put ⟨n, a, b⟩ m from if_pos h, h]
    by_cases hm : n ≤ m
    · rw [show put ⟨n, a, b⟩ m = ⟨m + 1, with0 (mov0 a (m + 1 - n)) 0, with1 (mov1 a b (m + 1 - n)) 0⟩ from if_pos hm]
      exact take_new n a b m hn ha h hm w
    · rw [show put ⟨n, a, b⟩ m = ⟨n, with0 a (n - 1 - m), with1 b (n - 1 - m)⟩ from if_neg hm]
      exact take_old n a b m hn ha hb h (by omega) w
  · rw [show take ⟨n, a, b⟩ m = ⟨n, a, b⟩ from if_neg (by omega)]
    exact take_no n a b m hn _ h rfl w
theorem checkW_any (s : St) (hs : s.ok) (m : Nat) (w : World) :
    Calls Try.prog 36 #[winV s, .int .u64 m] w fun e w' => e = .returned (.int .i64 (check s m : Nat)) ∧ Below w.heap.size w w' := check_any s.n s.a s.b m hs.1 w
theorem hasW_any (s : St) (hs : s.ok) (m : Nat) (w : World) :
    Calls Try.prog 44 #[winV s, .int .u64 m] w fun e w' => e = .returned (.bool (has0 s m)) ∧ Below w.heap.size w w' := has0_any s.n s.a s.b m hs.1 w
end Win
end Go.Proofs.Ytdhjgenijieeaaa
