/- Structs that are built; a block's tail that is filled. -/
import Derived.Test.YtfbkppabgogdgaaKit
namespace Go.Proofs.Ytfbkppabgogdgaa
namespace Wire
open Go.ChangeShapes Go.WideShapes Go.ChangeAt Go.RowKit
open Num Mem

theorem splice_tail {pre : List Value} (z f : Nat → Nat) (n : Nat) : splice (pre ++ byteCells z n) pre.length (byteCells f n) = pre ++ byteCells f n := by
  unfold splice
  rw [List.take_left, byteCells_length, List.drop_of_length_le (by rw [List.length_append, byteCells_length]; omega), List.append_nil]
theorem wpList_built0 {P : Program} {ops : Array Oper} {rest : List Oper} {o : Oper} {a : Act} {w : World} {Q : Exit → Act → World → Prop} (hg : o.guard = none) (t : TypeId) (ho : o.op = .build t #[])
    (vs : Array Value) (hb : P.built t [] = some vs) (h : wpList P ops Q rest (a.put o.dst (.agg vs)) w) : wpList P ops Q (o :: rest) a w := by
  have e : P.built t ((#[] : Array (Nat × Operand)).map fun (i, x) => (i, a.eval x)).toList = some vs := by simpa using hb
  refine wpList_build hg t #[] ho (by rw [e]; rfl) ?_
  rw [e]
  exact h
theorem wpList_built1 {P : Program} {ops : Array Oper} {rest : List Oper} {o : Oper} {a : Act} {w : World} {Q : Exit → Act → World → Prop} (hg : o.guard = none) (t : TypeId) (k : Nat) (x : Operand) (ho : o.op = .build t #[(k, x)])
    (v : Value) (hx : a.eval x = v) (vs : Array Value) (hb : P.built t [(k, v)] = some vs) (h : wpList P ops Q rest (a.put o.dst (.agg vs)) w) : wpList P ops Q (o :: rest) a w := by
  have e : P.built t ((#[(k, x)] : Array (Nat × Operand)).map fun (i, x) => (i, a.eval x)).toList = some vs := by simpa [hx] using hb
  refine wpList_build hg t #[(k, x)] ho (by rw [e]; rfl) ?_
  rw [e]
  exact h
theorem wpList_built2 {P : Program} {ops : Array Oper} {rest : List Oper} {o : Oper} {a : Act} {w : World} {Q : Exit → Act → World → Prop} (hg : o.guard = none) (t : TypeId) (k m : Nat) (x y : Operand) (ho : o.op = .build t #[(k, x), (m, y)])
    (v u : Value) (hx : a.eval x = v) (hy : a.eval y = u) (vs : Array Value) (hb : P.built t [(k, v), (m, u)] = some vs) (h : wpList P ops Q rest (a.put o.dst (.agg vs)) w) : wpList P ops Q (o :: rest) a w := by
  have e : P.built t ((#[(k, x), (m, y)] : Array (Nat × Operand)).map fun (i, x) => (i, a.eval x)).toList = some vs := by simpa [hx, hy] using hb
  refine wpList_build hg t #[(k, x), (m, y)] ho (by rw [e]; rfl) ?_
  rw [e]
  exact h

end Wire
end Go.Proofs.Ytfbkppabgogdgaa
