/- The calls of package field on bytes, by the numbers that they are; what the statements of layer 5 need of them. -/
import Derived.Test.YtnopjjkijedpeaaFieldZero
namespace Go.Proofs.Ytnopjjkijedpeaa
namespace Field
open Go.ChangeShapes Go.WideShapes Go.ChangeAt Go.RowKit
open Num Mem Words Radix FieldN Chacha Quiet

/-- thirty-two bytes as a value -/
abbrev B32 (f : Nat → Nat) : Value := .agg (byteCells f 32).toArray
/-- a call that answers bytes, and writes nothing that was there -/
def Tells (fn : FuncId) (args : Array Value) (f : Nat → Nat) : Prop := ∀ w, Calls Try.prog fn args w fun e w' => e = .returned (B32 f) ∧ Below w.heap.size w w'

theorem le_byteAt32 (v : Nat) (h : v < T) : le (byteAt v) 0 32 = v := le_byteAt v 32 (by
  rw [← T_two] at h
  exact Nat.lt_trans h (by decide))
theorem tk_byteAt {v : Nat} (h : v < P) : tk (byteAt v) = v := by
  unfold tk
  rw [le_byteAt32 v (below_T h), Nat.mod_eq_of_lt (below_T h), Nat.mod_eq_of_lt h]

theorem addV {f g : Nat → Nat} (hf : ∀ i, f i < 256) (hg : ∀ i, g i < 256) {a b v : Nat} (ha : tk f = a) (hb : tk g = b) (hv : v = (a + b) % P) : Tells 11 #[B32 f, B32 g] (byteAt v) := by
  subst ha hb hv
  exact addB_any f g hf hg
theorem subV {f g : Nat → Nat} (hf : ∀ i, f i < 256) (hg : ∀ i, g i < 256) {a b v : Nat} (ha : tk f = a) (hb : tk g = b) (hv : v = (a + (P - b)) % P) : Tells 12 #[B32 f, B32 g] (byteAt v) := by
  subst ha hb hv
  exact subB_any f g hf hg
theorem mulV {f g : Nat → Nat} (hf : ∀ i, f i < 256) (hg : ∀ i, g i < 256) {a b v : Nat} (ha : tk f = a) (hb : tk g = b) (hv : v = a * b % P) : Tells 39 #[B32 f, B32 g] (byteAt v) := by
  subst ha hb hv
  exact mulB_any f g hf hg
theorem invV {f : Nat → Nat} (hf : ∀ i, f i < 256) {a v : Nat} (ha : tk f = a) (hv : v = a ^ (P - 2) % P) : Tells 57 #[B32 f] (byteAt v) := by
  subst ha hv
  exact invertB_any f hf
theorem redV {f : Nat → Nat} (hf : ∀ i, f i < 256) {a : Nat} (ha : tk f = a) : Tells 13 #[B32 f] (byteAt a) := by
  subst ha
  exact reduceB_any f hf
theorem zerV {f : Nat → Nat} (hf : ∀ i, f i < 256) {a : Nat} (ha : tk f = a) (r : Bool) (hr : r = true ↔ a = 0) (w : World) : Calls Try.prog 18 #[B32 f] w fun e w' => e = .returned (.bool r) ∧ Below w.heap.size w w' := by
  subst ha
  exact zeroB_any f hf r hr w

/-- '==' of bytes that are of one number -/
def Same (f g : Nat → Nat) : Prop := ∀ w, (Op.equalIn 10000 22 (B32 f) (B32 g)).run Try.prog w = .ok true w
theorem same_of {v u : Nat} (h : v = u) : Same (byteAt v) (byteAt u) := by
  subst h
  exact eql32 (byteAt v) (byteAt v) (byteAt_lt v) (byteAt_lt v) true (by simp)

theorem none_built : Try.prog.built 22 [] = some (byteCells (byteAt 0) 32).toArray := by kernel_rfl
theorem one_built : Try.prog.built 22 [(0, .int .u8 1)] = some (byteCells (byteAt 1) 32).toArray := by kernel_rfl

theorem run_built0 {P : Program} {o : Oper} {a : Act} {w : World} (t : TypeId) (ho : o.op = .build t #[]) (vs : Array Value) (hb : P.built t [] = some vs) : (execOp a.eval o).run P w = .ok (.value (.agg vs)) w := by
  have e : P.built t (Array.map (fun (x : Nat × Operand) => (x.1, a.eval x.2)) #[]).toList = some vs := by simpa using hb
  unfold execOp
  simp only [ho, Sem.run_bind, run_build w t _ vs e, Result.andThen_ok, Sem.run_pure]
theorem run_built1 {P : Program} {o : Oper} {a : Act} {w : World} (t : TypeId) (k : Nat) (x : Operand) (ho : o.op = .build t #[(k, x)]) (v : Value) (hx : a.eval x = v) (vs : Array Value) (hb : P.built t [(k, v)] = some vs) : (execOp a.eval o).run P w = .ok (.value (.agg vs)) w := by
  have e : P.built t (Array.map (fun (x : Nat × Operand) => (x.1, a.eval x.2)) #[(k, x)]).toList = some vs := by simpa [hx] using hb
  unfold execOp
  simp only [ho, Sem.run_bind, run_build w t _ vs e, Result.andThen_ok, Sem.run_pure]

end Field
end Go.Proofs.Ytnopjjkijedpeaa
