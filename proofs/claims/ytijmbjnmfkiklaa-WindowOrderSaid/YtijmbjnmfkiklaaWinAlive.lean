/- Layer 15 (window): 'alive' of the statements. -/
import Derived.Test.YtijmbjnmfkiklaaWinAny
namespace Go.Proofs.Ytijmbjnmfkiklaa
namespace Win
open Go.ChangeShapes Go.WideShapes Go.ChangeAt Go.RowKit
open Num Mem Words Chacha Aead Poly Quiet WinT

theorem ok0 : (⟨0, 0, 0⟩ : St).ok := ⟨by decide, by decide, by decide⟩
theorem ok6 : (⟨6, 1, 0⟩ : St).ok := ⟨by decide, by decide, by decide⟩
theorem ok201 : (⟨201, 1, 0⟩ : St).ok := ⟨by decide, by decide, by decide⟩
theorem al1 (w : World) : Calls Try.prog 20 #[.agg #[.int .u64 0, .int .u64 0, .int .u64 0], .int .u64 5] w fun e w' => e = .returned (.tuple #[.agg #[.int .u64 6, .int .u64 1, .int .u64 0], .int .i64 0]) ∧ Below w.heap.size w w' := by
  have h := take_any ⟨0, 0, 0⟩ ok0 5 w
  rw [show take ⟨0, 0, 0⟩ 5 = ⟨6, 1, 0⟩ from rfl, show check ⟨0, 0, 0⟩ 5 = 0 by decide] at h
  exact h
theorem al2 (w : World) : Calls Try.prog 20 #[.agg #[.int .u64 6, .int .u64 1, .int .u64 0], .int .u64 5] w fun e w' => e = .returned (.tuple #[.agg #[.int .u64 6, .int .u64 1, .int .u64 0], .int .i64 80]) ∧ Below w.heap.size w w' := by
  have h := take_any ⟨6, 1, 0⟩ ok6 5 w
  rw [show take ⟨6, 1, 0⟩ 5 = ⟨6, 1, 0⟩ from rfl, show check ⟨6, 1, 0⟩ 5 = 80 by decide] at h
  exact h
theorem al3 (w : World) : Calls Try.prog 20 #[.agg #[.int .u64 6, .int .u64 1, .int .u64 0], .int .u64 200] w fun e w' => e = .returned (.tuple #[.agg #[.int .u64 201, .int .u64 1, .int .u64 0], .int .i64 0]) ∧ Below w.heap.size w w' := by
  have h := take_any ⟨6, 1, 0⟩ ok6 200 w
  rw [show take ⟨6, 1, 0⟩ 200 = ⟨201, 1, 0⟩ from rfl, show check ⟨6, 1, 0⟩ 200 = 0 by decide] at h
  exact h
theorem al4 (w : World) : Calls Try.prog 16 #[.agg #[.int .u64 201, .int .u64 1, .int .u64 0], .int .u64 72] w fun e w' => e = .returned (.int .i64 80) ∧ Below w.heap.size w w' := by
  have h := checkW_any ⟨201, 1, 0⟩ ok201 72 w
  rw [show check ⟨201, 1, 0⟩ 72 = 80 by decide] at h
  exact h
theorem al5 (w : World) : Calls Try.prog 16 #[.agg #[.int .u64 201, .int .u64 1, .int .u64 0], .int .u64 73] w fun e w' => e = .returned (.int .i64 0) ∧ Below w.heap.size w w' := by
  have h := checkW_any ⟨201, 1, 0⟩ ok201 73 w
  rw [show check ⟨201, 1, 0⟩ 73 = 0 by decide] at h
  exact h
theorem al6 (w : World) : Calls Try.prog 21 #[.agg #[.int .u64 201, .int .u64 1, .int .u64 0]] w fun e w' => e = .returned (.int .u64 201) ∧ Below w.heap.size w w' := next_any ⟨201, 1, 0⟩ w
theorem al7 (w : World) : Calls Try.prog 18 #[.agg #[.int .u64 6, .int .u64 1, .int .u64 0], .int .u64 5] w fun e w' => e = .returned (.bool true) ∧ Below w.heap.size w w' := by
  have h := hasW_any ⟨6, 1, 0⟩ ok6 5 w
  rw [show has0 ⟨6, 1, 0⟩ 5 = true by decide] at h
  exact h

set_option maxRecDepth 100000 in
theorem alive_any (w : World) : Calls Try.prog 23 #[] w fun e w' => e = .returned (.bool true) ∧ Below w.heap.size w w' := by
  go_enter Try.func23, Try.ntmps23
  go_wp2_with fail
  refine (al1 _).mono ?_
  rintro e w1 ⟨rfl, hb⟩
  have KB := Lib.hid hb
  have hsz := hb.size
  clear hb
  go_wp2_with fail
  refine (al2 _).mono ?_
  rintro e w2 ⟨rfl, hb⟩
  have A := Lib.hid ((lies_new w1 6 1 0).below hb)
  replace KB := Lib.hid (below_new KB.out hb)
  clear hb hsz
  generalize w1.heap.size = G1 at A ⊢
  have a0 := A.out.c0
  have a1 := A.out.c1
  have a2 := A.out.c2
  have a3 := A.out.lt
  go_wp2_with fail
  refine (al3 _).mono ?_
  rintro e w3 ⟨rfl, hb⟩
  clear a0 a1 a2 a3
  replace A := Lib.hid ((show Lies _ _ 6 1 0 from Whole.alloc A.out _).below hb)
  replace KB := Lib.hid (below_new KB.out hb)
  clear hb
  have a0 := A.out.c0
  have a1 := A.out.c1
  have a2 := A.out.c2
  have a3 := A.out.lt
  go_wp2_with fail
  refine (al4 _).mono ?_
  rintro e w4 ⟨rfl, hb⟩
  clear a0 a1 a2 a3
  have B := Lib.hid ((lies_new w3 201 1 0).below hb)
  replace A := Lib.hid ((show Lies _ _ 6 1 0 from Whole.alloc A.out _).below hb)
  replace KB := Lib.hid (below_new KB.out hb)
  clear hb
  generalize w3.heap.size = G3 at B ⊢
  have a0 := A.out.c0
  have a1 := A.out.c1
  have a2 := A.out.c2
  have a3 := A.out.lt
  have b0 := B.out.c0
  have b1 := B.out.c1
  have b2 := B.out.c2
  have b3 := B.out.lt
  go_wp2_with fail
  refine (al5 _).mono ?_
  rintro e w5 ⟨rfl, hb⟩
  clear a0 a1 a2 a3 b0 b1 b2 b3
  replace A := Lib.hid (A.out.below hb)
  replace B := Lib.hid (B.out.below hb)
  replace KB := Lib.hid (below_trans KB.out hb)
  clear hb
  have a0 := A.out.c0
  have a1 := A.out.c1
  have a2 := A.out.c2
  have a3 := A.out.lt
  have b0 := B.out.c0
  have b1 := B.out.c1
  have b2 := B.out.c2
  have b3 := B.out.lt
  go_wp2_with fail
  refine (al6 _).mono ?_
  rintro e w6 ⟨rfl, hb⟩
  clear a0 a1 a2 a3 b0 b1 b2 b3
  replace A := Lib.hid (A.out.below hb)
  replace B := Lib.hid (B.out.below hb)
  replace KB := Lib.hid (below_trans KB.out hb)
  clear hb
  have a0 := A.out.c0
  have a1 := A.out.c1
  have a2 := A.out.c2
  have a3 := A.out.lt
  have b0 := B.out.c0
  have b1 := B.out.c1
  have b2 := B.out.c2
  have b3 := B.out.lt
  go_wp2_with fail
  refine (al7 _).mono ?_
  rintro e w7 ⟨rfl, hb⟩
  clear a0 a1 a2 a3 b0 b1 b2 b3
  replace A := Lib.hid (A.out.below hb)
  replace B := Lib.hid (B.out.below hb)
  replace KB := Lib.hid (below_trans KB.out hb)
  clear hb
  have a0 := A.out.c0
  have a1 := A.out.c1
  have a2 := A.out.c2
  have a3 := A.out.lt
  have b0 := B.out.c0
  have b1 := B.out.c1
  have b2 := B.out.c2
  have b3 := B.out.lt
  go_wp2_with fail
  go_ret
  exact ⟨rfl, KB.out⟩
end Win
end Go.Proofs.Ytijmbjnmfkiklaa
