/- '==' of pairs: one with itself is the same. -/
import Derived.Test.YtcncdejdpcelpaaPairAlive
namespace Go.Proofs.Ytcncdejdpcelpaa
namespace Pr
open Mem EqLits WinT

theorem lits_u8 {P : Program} {e : TypeId} (he : P.underlying e = some (.int .u8)) (d a : Nat) (ha : a < 256) : (P.keyLits (d + 1) e [.int .u8 (a : Nat)]).isSome = true := by
  have h0 : IntKind.min .u8 = 0 := by decide
  have h1 : IntKind.max .u8 = 255 := by decide
  have h : (Lit.int .u8 (a : Nat)).wf = true := by
    show (decide (IntKind.min .u8 ≤ (a : Int)) && decide ((a : Int) ≤ IntKind.max .u8)) = true
    rw [h0, h1, Bool.and_eq_true, decide_eq_true_eq, decide_eq_true_eq]
    omega
  unfold Program.keyLits
  simp only [he]
  rw [if_pos ⟨trivial, h⟩]
  rfl
theorem lits_u32 {P : Program} {e : TypeId} (he : P.underlying e = some (.int .u32)) (d a : Nat) (ha : a < 4294967296) : (P.keyLits (d + 1) e [.int .u32 (a : Nat)]).isSome = true := by
  have h0 : IntKind.min .u32 = 0 := by decide
  have h1 : IntKind.max .u32 = 4294967295 := by decide
  have h : (Lit.int .u32 (a : Nat)).wf = true := by
    show (decide (IntKind.min .u32 ≤ (a : Int)) && decide ((a : Int) ≤ IntKind.max .u32)) = true
    rw [h0, h1, Bool.and_eq_true, decide_eq_true_eq, decide_eq_true_eq]
    omega
  unfold Program.keyLits
  simp only [he]
  rw [if_pos ⟨trivial, h⟩]
  rfl
theorem lits_i64 {P : Program} {e : TypeId} (he : P.underlying e = some (.int .i64)) (d : Nat) (a : Int) (h0 : -9223372036854775808 ≤ a) (h1 : a ≤ 9223372036854775807) : (P.keyLits (d + 1) e [.int .i64 a]).isSome = true := by
  have h2 : IntKind.min .i64 = -9223372036854775808 := by decide
  have h3 : IntKind.max .i64 = 9223372036854775807 := by decide
  have h : (Lit.int .i64 a).wf = true := by
    show (decide (IntKind.min .i64 ≤ a) && decide (a ≤ IntKind.max .i64)) = true
    rw [h2, h3, Bool.and_eq_true, decide_eq_true_eq, decide_eq_true_eq]
    exact ⟨h0, h1⟩
  unfold Program.keyLits
  simp only [he]
  rw [if_pos ⟨trivial, h⟩]
  rfl
theorem lits_bool {P : Program} {e : TypeId} (he : P.underlying e = some .bool) (d : Nat) (a : Bool) : (P.keyLits (d + 1) e [.bool a]).isSome = true := by
  unfold Program.keyLits
  simp only [he]
  rfl
theorem one_at (f : Nat → Nat) (n i : Nat) (h : i < n) : ((byteCells f n).drop (i * 1)).take 1 = [.int .u8 (f i : Nat)] := by
  apply List.ext_getElem?
  intro j
  rw [List.getElem?_take, List.getElem?_drop]
  by_cases hj : j < 1
  · rw [if_pos hj, show i * 1 + j = i by omega, byteCells_get _ _ _ h, show j = 0 by omega]
    rfl
  · rw [if_neg hj, List.getElem?_eq_none (by simp; omega)]
theorem lits_key (f : Nat → Nat) (hf : ∀ i, f i < 256) (d : Nat) : (Try.prog.keyLits (d + 2) 23 (byteCells f 32)).isSome = true := by
  refine lits_array Try.underlying23 (d + 1) _ (by rw [byteCells_length]; kernel_rfl) fun i hi => ?_
  rw [show Try.prog.cellsOf 5 = 1 by kernel_rfl, one_at _ _ _ hi]
  exact lits_u8 Try.underlying5 d _ (hf i)
theorem mid_at {a b c : List Value} {o n : Nat} (ho : a.length = o) (hn : b.length = n) : ((a ++ (b ++ c)).drop o).take n = b := by
  rw [List.drop_append, ho]
  simp [← hn, List.drop_eq_nil_of_le (Nat.le_of_eq ho)]
set_option maxRecDepth 100000 in
theorem lits_keys (p : PS) (hp : p.ok) (d : Nat) : (Try.prog.keyLits (d + 3) 28 (keysL p.s p.r p.l p.m p.one)).isSome = true := by
  refine lits_struct Try.underlying28 (d + 2) _ (by rw [keysL_length]; kernel_rfl) (by kernel_rfl) fun f hf => ?_
  simp only [List.mem_cons, List.not_mem_nil, or_false] at hf
  rcases hf with rfl | rfl | rfl | rfl | rfl
  · show (Try.prog.keyLits (d + 2) 23 (((keysL p.s p.r p.l p.m p.one).drop 0).take 32)).isSome = true
    rw [show ((keysL p.s p.r p.l p.m p.one).drop 0).take 32 = byteCells p.s 32 from mid_at (a := []) rfl (byteCells_length _ _)]
    exact lits_key _ hp.hs d
  · show (Try.prog.keyLits (d + 2) 23 (((keysL p.s p.r p.l p.m p.one).drop 32).take 32)).isSome = true
    rw [show ((keysL p.s p.r p.l p.m p.one).drop 32).take 32 = byteCells p.r 32 from mid_at (byteCells_length _ _) (byteCells_length _ _)]
    exact lits_key _ hp.hr d
  · show (Try.prog.keyLits (d + 2) 24 (((keysL p.s p.r p.l p.m p.one).drop 64).take 1)).isSome = true
    rw [show ((keysL p.s p.r p.l p.m p.one).drop 64).take 1 = [.int .u32 (p.l : Nat)] from by
      rw [show keysL p.s p.r p.l p.m p.one = (byteCells p.s 32 ++ byteCells p.r 32) ++ ([.int .u32 (p.l : Nat)] ++ [.int .u32 (p.m : Nat), .bool p.one]) by simp [keysL]]
      exact mid_at (by simp [byteCells_length]) rfl]
    exact lits_u32 Try.underlying24 (d + 1) _ hp.hl
  · show (Try.prog.keyLits (d + 2) 24 (((keysL p.s p.r p.l p.m p.one).drop 65).take 1)).isSome = true
    rw [show ((keysL p.s p.r p.l p.m p.one).drop 65).take 1 = [.int .u32 (p.m : Nat)] from by
      rw [show keysL p.s p.r p.l p.m p.one = (byteCells p.s 32 ++ (byteCells p.r 32 ++ [.int .u32 (p.l : Nat)])) ++ ([.int .u32 (p.m : Nat)] ++ [.bool p.one]) by simp [keysL]]
      exact mid_at (by simp [byteCells_length]) rfl]
    exact lits_u32 Try.underlying24 (d + 1) _ hp.hm
  · show (Try.prog.keyLits (d + 2) 4 (((keysL p.s p.r p.l p.m p.one).drop 66).take 1)).isSome = true
    rw [show ((keysL p.s p.r p.l p.m p.one).drop 66).take 1 = [.bool p.one] from by
      rw [show keysL p.s p.r p.l p.m p.one = (byteCells p.s 32 ++ (byteCells p.r 32 ++ [.int .u32 (p.l : Nat), .int .u32 (p.m : Nat)])) ++ ([.bool p.one] ++ []) by simp [keysL]]
      exact mid_at (by simp [byteCells_length]) rfl]
    exact lits_bool Try.underlying4 (d + 1) _
set_option maxRecDepth 100000 in
theorem pair_lits (p : PS) (hp : p.ok) : (Try.prog.keyLits 6 35 (pairL p)).isSome = true := by
  refine lits_struct Try.underlying35 5 _ (by rw [pairL_length]; kernel_rfl) (by kernel_rfl) fun f hf => ?_
  simp only [List.mem_cons, List.not_mem_nil, or_false] at hf
  rcases hf with rfl | rfl | rfl | rfl
  · show (Try.prog.keyLits 5 28 (((pairL p).drop 0).take 67)).isSome = true
    rw [show ((pairL p).drop 0).take 67 = keysL p.s p.r p.l p.m p.one from by
      rw [show pairL p = [] ++ (keysL p.s p.r p.l p.m p.one ++ (tailL p).drop 3) by simp [pairL, keysL, tailL]]
      exact mid_at rfl (keysL_length _ _ _ _ _)]
    exact lits_keys p hp 2
  · show (Try.prog.keyLits 5 2 (((pairL p).drop 67).take 1)).isSome = true
    rw [show ((pairL p).drop 67).take 1 = [.int .i64 p.born] from by
      rw [show pairL p = keysL p.s p.r p.l p.m p.one ++ ([.int .i64 p.born] ++ (tailL p).drop 4) by simp [pairL, keysL, tailL]]
      exact mid_at (keysL_length _ _ _ _ _) rfl]
    exact lits_i64 Try.underlying2 4 _ hp.b0 hp.b1
  · show (Try.prog.keyLits 5 29 (((pairL p).drop 68).take 1)).isSome = true
    rw [show ((pairL p).drop 68).take 1 = [.int .u64 (p.sent : Nat)] from by
      rw [show pairL p = (keysL p.s p.r p.l p.m p.one ++ [.int .i64 p.born]) ++ ([.int .u64 (p.sent : Nat)] ++ (tailL p).drop 5) by simp [pairL, keysL, tailL]]
      exact mid_at (by simp [keysL_length]) rfl]
    exact lits_u64 Try.underlying29 4 _ hp.ht
  · show (Try.prog.keyLits 5 33 (((pairL p).drop 69).take 3)).isSome = true
    rw [show ((pairL p).drop 69).take 3 = [.int .u64 (p.win.n : Nat), .int .u64 (p.win.a : Nat), .int .u64 (p.win.b : Nat)] from by
      rw [show pairL p = (keysL p.s p.r p.l p.m p.one ++ [.int .i64 p.born, .int .u64 (p.sent : Nat)]) ++ ([.int .u64 (p.win.n : Nat), .int .u64 (p.win.a : Nat), .int .u64 (p.win.b : Nat)] ++ []) by simp [pairL, keysL, tailL]]
      exact mid_at (by simp [keysL_length]) rfl]
    have h := Win.win_lits p.win.n p.win.a p.win.b hp.hw.1 hp.hw.2.1 hp.hw.2.2
    refine lits_struct Try.underlying33 4 _ (by kernel_rfl) (by kernel_rfl) fun f hf => ?_
    simp only [List.mem_cons, List.not_mem_nil, or_false] at hf
    rcases hf with rfl | rfl
    · exact lits_u64 Try.underlying29 3 _ hp.hw.1
    · show (Try.prog.keyLits 4 31 [.int .u64 p.win.a, .int .u64 p.win.b]).isSome = true
      refine lits_array Try.underlying31 3 _ (by kernel_rfl) fun i hi => ?_
      rw [show Try.prog.cellsOf 29 = 1 by kernel_rfl]
      match i, hi with
      | 0, _ => exact lits_u64 Try.underlying29 2 _ hp.hw.2.1
      | 1, _ => exact lits_u64 Try.underlying29 2 _ hp.hw.2.2
theorem formed_pair (p : PS) : (Value.agg (pairL p).toArray).formed Try.prog 35 = true := by kernel_rfl
theorem pair_eq (p : PS) (hp : p.ok) (w : World) : (Op.equalIn 10000 35 (.agg (pairL p).toArray) (.agg (pairL p).toArray)).run Try.prog w = .ok true w :=
  eq_of_lits (m := 6) (D := 6) (by kernel_rfl) (by omega) (formed_pair p) (pair_lits p hp) w
end Pr
end Go.Proofs.Ytcncdejdpcelpaa
