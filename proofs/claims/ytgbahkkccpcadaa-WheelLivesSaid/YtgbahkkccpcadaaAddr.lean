/- Addresses as cells, their '==', and cidr's Right. Out of layer 12's texts (mkaddr.py). -/
import Derived.Test.YtgbahkkccpcadaaKit
import Derived.Test.YtgbahkkccpcadaaOps
import Derived.Laws.StructEq
import Derived.Deep.DeepCutAuto
namespace Go.Proofs.Ytgbahkkccpcadaa
namespace Adr
open Go.ChangeShapes Go.WideShapes Go.ChangeAt Go.RowKit
open Num Mem Words Chacha Aead Poly Ops

/-- an address as cells -/
def addrL (six : Bool) (f : Nat → Nat) : List Value := .bool six :: byteCells f 16

def nought : Nat → Nat := fun _ => 0

theorem addrL_length (s : Bool) (f : Nat → Nat) : (addrL s f).length = 17 := by simp [addrL, byteCells_length]

theorem addr_size (s : Bool) (f : Nat → Nat) : (addrL s f).toArray.size = 17 := by rw [List.size_toArray, addrL_length]

theorem addr_each (s : Bool) (f : Nat → Nat) : ∀ v ∈ addrL s f, v.oneCell' = true := by
  intro v hv
  rcases List.mem_cons.1 hv with h | h
  · subst h; rfl
  · exact bytes_each f 16 v h

theorem addr_one (s : Bool) (f : Nat → Nat) : (addrL s f).toArray.all (·.oneCell') = true := by
  rw [List.all_toArray, List.all_eq_true]
  exact addr_each _ _

theorem addr_congr {s : Bool} {f g : Nat → Nat} (h : ∀ i, i < 16 → f i = g i) : addrL s f = addrL s g := by
  unfold addrL
  rw [byteCells_congr h]

theorem addr_splice (s : Bool) (f F G : Nat → Nat) (m : Nat) (hm : m ≤ 16) (hG : ∀ i, i < 16 → G i = if i < m then F i else f i) : splice (addrL s f) 1 (byteCells F m) = addrL s G := by
  have e := byteCells_splice f F G 16 0 m (by omega) (fun i hi => by
    rw [hG i hi]
    by_cases l : i < m
    · rw [if_pos l, if_pos ⟨by omega, by omega⟩, Nat.sub_zero]
    · rw [if_neg l, if_neg (by omega)])
  unfold splice at e ⊢
  rw [byteCells_length] at e ⊢
  unfold addrL
  rw [List.take_succ_cons, Nat.add_comm 1 m, List.drop_succ_cons, ← e]
  simp

theorem wpList_built0 {P : Program} {ops : Array Oper} {rest : List Oper} {o : Oper} {a : Act} {w : World} {Q : Exit → Act → World → Prop} (hg : o.guard = none) (t : TypeId) (ho : o.op = .build t #[])
    (vs : Array Value) (hb : P.built t [] = some vs) (h : wpList P ops Q rest (a.put o.dst (.agg vs)) w) : wpList P ops Q (o :: rest) a w := by
  have e : P.built t ((#[] : Array (Nat × Operand)).map fun (i, x) => (i, a.eval x)).toList = some vs := by simpa using hb
  refine wpList_build hg t #[] ho (by rw [e]; rfl) ?_
  rw [e]
  exact h

theorem wpList_built1 {P : Program} {ops : Array Oper} {rest : List Oper} {o : Oper} {a : Act} {w : World} {Q : Exit → Act → World → Prop} (hg : o.guard = none) (t : TypeId) (k : Nat) (x : Operand) (ho : o.op = .build t #[(k, x)])
    (v : Value) (hx : a.eval x = v) (vs : Array Value) (hb : P.built t [(k, v)] = some vs) (h : wpList P ops Q rest (a.put o.dst (.agg vs)) w) : wpList P ops Q (o :: rest) a w := by
  have e : P.built t ((#[(k, x)] : Array (Nat × Operand)).map fun (i, x) => (i, a.eval x)).toList = some vs := by simpa [hx] using hb
  refine wpList_build hg t #[(k, x)] ho (by rw [e]; rfl) ?_
  rw [e]
  exact h

theorem wpList_built3 {P : Program} {ops : Array Oper} {rest : List Oper} {o : Oper} {a : Act} {w : World} {Q : Exit → Act → World → Prop} (hg : o.guard = none) (t : TypeId) (k1 k2 k3 : Nat) (x1 x2 x3 : Operand) (ho : o.op = .build t #[(k1, x1), (k2, x2), (k3, x3)])
    (v1 v2 v3 : Value) (h1 : a.eval x1 = v1) (h2 : a.eval x2 = v2) (h3 : a.eval x3 = v3) (vs : Array Value) (hb : P.built t [(k1, v1), (k2, v2), (k3, v3)] = some vs) (h : wpList P ops Q rest (a.put o.dst (.agg vs)) w) : wpList P ops Q (o :: rest) a w := by
  have e : P.built t ((#[(k1, x1), (k2, x2), (k3, x3)] : Array (Nat × Operand)).map fun (i, x) => (i, a.eval x)).toList = some vs := by simpa [h1, h2, h3] using hb
  refine wpList_build hg t #[(k1, x1), (k2, x2), (k3, x3)] ho (by rw [e]; rfl) ?_
  rw [e]
  exact h

def at4 (f : Nat → Nat) (p i : Nat) : Nat := if i < 4 then f (p + i) else 0

theorem at4_lt {f : Nat → Nat} (hf : ∀ i, f i < 256) (p i : Nat) : at4 f p i < 256 := by
  have := hf (p + i)
  unfold at4
  split <;> omega

theorem part_six (s : Bool) (f : Nat → Nat) (w : World) : (part 4 (addrL s f).toArray 0).run Try.prog w = .ok (.bool s) w := by
  simp [part, isAgg, run_underlying Try.underlying4, addrL]

theorem grown_below {w w' : World} {g : Nat} (h : Below w.heap.size w w') : w.grownBy w' (some g) := ⟨h.os, h.tape, h.output, h.size, fun i hi _ => h.block i hi⟩

/-- an address may be -/
def rightB (six : Bool) (f : Nat → Nat) : Bool := six || decide (∀ i : Fin 16, 4 ≤ i.1 → f i.1 = 0)

end Adr
end Go.Proofs.Ytgbahkkccpcadaa
