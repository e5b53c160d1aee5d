/- Cells of layer 12 (inner): addresses and packets' headers as rows of cells; what a call tells of a header. Nothing that the program does. -/
import Derived.Test.YtiemcfgjpcnloaaInnerSum
import Derived.Test.YtiemcfgjpcnloaaKit
import Derived.Deep.QuietTactic
import Derived.BigQuiet
import Derived.Deep.DeepCutAuto
namespace Go.Proofs.Ytiemcfgjpcnloaa
namespace Inner
open Go.ChangeShapes Go.WideShapes Go.ChangeAt Go.RowKit
open Num Mem Words Chacha Aead

/-- an address as cells -/
def addrL (six : Bool) (f : Nat → Nat) : List Value := .bool six :: byteCells f 16
/-- a packet's header as cells -/
def packL (s1 : Bool) (f1 : Nat → Nat) (s2 : Bool) (f2 : Nat → Nat) (z : Int) : List Value := addrL s1 f1 ++ (addrL s2 f2 ++ [.int .i64 z])
def nought : Nat → Nat := fun _ => 0

theorem addrL_length (s : Bool) (f : Nat → Nat) : (addrL s f).length = 17 := by simp [addrL, byteCells_length]
theorem packL_length (s1 : Bool) (f1 : Nat → Nat) (s2 : Bool) (f2 : Nat → Nat) (z : Int) : (packL s1 f1 s2 f2 z).length = 35 := by simp [packL, addrL_length]
theorem pack_size (s1 : Bool) (f1 : Nat → Nat) (s2 : Bool) (f2 : Nat → Nat) (z : Int) : (packL s1 f1 s2 f2 z).toArray.size = 35 := by rw [List.size_toArray, packL_length]
theorem addr_size (s : Bool) (f : Nat → Nat) : (addrL s f).toArray.size = 17 := by rw [List.size_toArray, addrL_length]
theorem addr_each (s : Bool) (f : Nat → Nat) : ∀ v ∈ addrL s f, v.oneCell' = true := by
  intro v hv
  rcases List.mem_cons.1 hv with h | h
  · subst h; rfl
  · exact bytes_each f 16 v h
theorem pack_each (s1 : Bool) (f1 : Nat → Nat) (s2 : Bool) (f2 : Nat → Nat) (z : Int) : ∀ v ∈ packL s1 f1 s2 f2 z, v.oneCell' = true := by
  intro v hv
  rcases List.mem_append.1 hv with h | h
  · exact addr_each _ _ v h
  · rcases List.mem_append.1 h with h | h
    · exact addr_each _ _ v h
    · rcases List.mem_cons.1 h with h | h
      · subst h; rfl
      · cases h
theorem pack_one (s1 : Bool) (f1 : Nat → Nat) (s2 : Bool) (f2 : Nat → Nat) (z : Int) : (packL s1 f1 s2 f2 z).toArray.all (·.oneCell') = true := by
  rw [List.all_toArray, List.all_eq_true]
  exact pack_each _ _ _ _ _
theorem addr_one (s : Bool) (f : Nat → Nat) : (addrL s f).toArray.all (·.oneCell') = true := by
  rw [List.all_toArray, List.all_eq_true]
  exact addr_each _ _
theorem addr_congr {s : Bool} {f g : Nat → Nat} (h : ∀ i, i < 16 → f i = g i) : addrL s f = addrL s g := by
  unfold addrL
  rw [byteCells_congr h]

theorem addr_splice (s : Bool) (f F G : Nat → Nat) (m : Nat) (hm : m ≤ 16) (hG : ∀ i, i < 16 → G i = if i < m then F i else f i) : splice (addrL s f) 1 (byteCells F m) = addrL s G := by
  have e := byteCells_splice f F G 16 0 m (by omega) (fun i hi => by
    rw [hG i hi]
    by_cases l : i < m
    · rw [if_pos l, if_pos ⟨by omega, by omega⟩, Nat.sub_zero]
    · rw [if_neg l, if_neg (by omega)])
  unfold splice at e ⊢
  rw [byteCells_length] at e ⊢
  unfold addrL
  rw [List.take_succ_cons, Nat.add_comm 1 m, List.drop_succ_cons, ← e]
  simp
theorem pack_splice1 (s1 : Bool) (f1 : Nat → Nat) (s2 : Bool) (f2 : Nat → Nat) (z : Int) (F G : Nat → Nat) (m : Nat) (hm : m ≤ 16) (hG : ∀ i, i < 16 → G i = if i < m then F i else f1 i) :
    splice (packL s1 f1 s2 f2 z) 1 (byteCells F m) = packL s1 G s2 f2 z := by
  have e := addr_splice s1 f1 F G m hm hG
  unfold splice at e ⊢
  rw [byteCells_length] at e ⊢
  unfold packL
  have h17 := addrL_length s1 f1
  rw [List.take_append_of_le_length (by omega), List.drop_append_of_le_length (by omega), ← e]
  simp only [List.append_assoc]
theorem pack_splice2 (s1 : Bool) (f1 : Nat → Nat) (s2 : Bool) (f2 : Nat → Nat) (z : Int) (F G : Nat → Nat) (m : Nat) (hm : m ≤ 16) (hG : ∀ i, i < 16 → G i = if i < m then F i else f2 i) :
    splice (packL s1 f1 s2 f2 z) 18 (byteCells F m) = packL s1 f1 s2 G z := by
  have e := addr_splice s2 f2 F G m hm hG
  unfold splice at e ⊢
  rw [byteCells_length] at e ⊢
  unfold packL
  have h17 := addrL_length s1 f1
  have h18 := addrL_length s2 f2
  rw [show (18 : Nat) = 17 + 1 from rfl, List.take_append, List.drop_append, h17, List.take_of_length_le (by omega), List.drop_of_length_le (by omega), show 17 + 1 - 17 = 1 from rfl, show 17 + 1 + m - 17 = 1 + m from by omega]
  rw [List.take_append_of_le_length (by omega), List.drop_append_of_le_length (by omega), ← e]
  simp only [List.append_assoc, List.nil_append]

theorem zero_pack (w : World) : (zeroValue 28).run Try.prog w = .ok (.agg (packL false nought false nought 0).toArray) w := by kernel_rfl
theorem zero_addr (w : World) : (zeroValue 26).run Try.prog w = .ok (.agg (addrL false nought).toArray) w := by kernel_rfl
theorem pack_built0 : Try.prog.built 28 [] = some (packL false nought false nought 0).toArray := by kernel_rfl
theorem pack_built1 (z : Int) : Try.prog.built 28 [(2, .int .i64 z)] = some (packL false nought false nought z).toArray := by kernel_rfl
theorem addr_built0 : Try.prog.built 26 [] = some (addrL false nought).toArray := by kernel_rfl
theorem addr_built1 (s : Bool) : Try.prog.built 26 [(0, .bool s)] = some (addrL s nought).toArray := by kernel_rfl
theorem pack_built3 (s1 : Bool) (f1 : Nat → Nat) (s2 : Bool) (f2 : Nat → Nat) (z : Int) : Try.prog.built 28 [(0, .agg (addrL s1 f1).toArray), (1, .agg (addrL s2 f2).toArray), (2, .int .i64 z)] = some (packL s1 f1 s2 f2 z).toArray := by kernel_rfl

theorem wpList_built0 {P : Program} {ops : Array Oper} {rest : List Oper} {o : Oper} {a : Act} {w : World} {Q : Exit → Act → World → Prop} (hg : o.guard = none) (t : TypeId) (ho : o.op = .build t #[])
    (vs : Array Value) (hb : P.built t [] = some vs) (h : wpList P ops Q rest (a.put o.dst (.agg vs)) w) : wpList P ops Q (o :: rest) a w := by
  have e : P.built t ((#[] : Array (Nat × Operand)).map fun (i, x) => (i, a.eval x)).toList = some vs := by simpa using hb
  refine wpList_build hg t #[] ho (by rw [e]; rfl) ?_
  rw [e]
  exact h
theorem wpList_built1 {P : Program} {ops : Array Oper} {rest : List Oper} {o : Oper} {a : Act} {w : World} {Q : Exit → Act → World → Prop} (hg : o.guard = none) (t : TypeId) (k : Nat) (x : Operand) (ho : o.op = .build t #[(k, x)])
    (v : Value) (hx : a.eval x = v) (vs : Array Value) (hb : P.built t [(k, v)] = some vs) (h : wpList P ops Q rest (a.put o.dst (.agg vs)) w) : wpList P ops Q (o :: rest) a w := by
  have e : P.built t ((#[(k, x)] : Array (Nat × Operand)).map fun (i, x) => (i, a.eval x)).toList = some vs := by simpa [hx] using hb
  refine wpList_build hg t #[(k, x)] ho (by rw [e]; rfl) ?_
  rw [e]
  exact h
theorem wpList_built3 {P : Program} {ops : Array Oper} {rest : List Oper} {o : Oper} {a : Act} {w : World} {Q : Exit → Act → World → Prop} (hg : o.guard = none) (t : TypeId) (k1 k2 k3 : Nat) (x1 x2 x3 : Operand) (ho : o.op = .build t #[(k1, x1), (k2, x2), (k3, x3)])
    (v1 v2 v3 : Value) (h1 : a.eval x1 = v1) (h2 : a.eval x2 = v2) (h3 : a.eval x3 = v3) (vs : Array Value) (hb : P.built t [(k1, v1), (k2, v2), (k3, v3)] = some vs) (h : wpList P ops Q rest (a.put o.dst (.agg vs)) w) : wpList P ops Q (o :: rest) a w := by
  have e : P.built t ((#[(k1, x1), (k2, x2), (k3, x3)] : Array (Nat × Operand)).map fun (i, x) => (i, a.eval x)).toList = some vs := by simpa [h1, h2, h3] using hb
  refine wpList_build hg t #[(k1, x1), (k2, x2), (k3, x3)] ho (by rw [e]; rfl) ?_
  rw [e]
  exact h

/-! ### what is told of a header -/
def hd4 (f : Nat → Nat) : Nat := 4 * (f 0 % 16)
def sz4 (f : Nat → Nat) : Nat := f 2 * 256 + f 3
def sz6 (f : Nat → Nat) : Nat := f 4 * 256 + f 5 + 40
def ok4 (f : Nat → Nat) (n : Nat) : Prop := 20 ≤ hd4 f ∧ hd4 f ≤ sz4 f ∧ sz4 f ≤ n ∧ canon (sumS f (hd4 f)) = 65535
instance (f : Nat → Nat) (n : Nat) : Decidable (ok4 f n) := by unfold ok4; infer_instance
def at4 (f : Nat → Nat) (p i : Nat) : Nat := if i < 4 then f (p + i) else 0
def at6 (f : Nat → Nat) (p i : Nat) : Nat := f (p + i)
/-- the error -/
def rdE (f : Nat → Nat) (n : Nat) : Nat :=
  if n = 0 then 10 else if f 0 / 16 = 4 then (if n < 20 then 10 else if ok4 f n then 0 else 50) else if f 0 / 16 = 6 then (if n < 40 then 10 else if sz6 f ≤ n then 0 else 50) else 50
/-- the header, if there is none -/
def rdL (f : Nat → Nat) (n : Nat) : List Value :=
  if rdE f n = 0 then (if f 0 / 16 = 4 then packL false (at4 f 12) false (at4 f 16) (sz4 f) else packL true (at6 f 8) true (at6 f 24) (sz6 f)) else packL false nought false nought 0
/-- the size -/
def rdN (f : Nat → Nat) (n : Nat) : Nat := if rdE f n = 0 then (if f 0 / 16 = 4 then sz4 f else sz6 f) else 0
theorem rdE_zero {f : Nat → Nat} {n : Nat} : rdE f n = 0 ↔ (f 0 / 16 = 4 ∧ 20 ≤ n ∧ ok4 f n) ∨ (f 0 / 16 = 6 ∧ 40 ≤ n ∧ sz6 f ≤ n) := by
  unfold rdE
  by_cases h0 : n = 0
  · rw [if_pos h0]
    constructor
    · intro h; cases h
    · rintro (⟨_, h, _⟩ | ⟨_, h, _⟩) <;> omega
  rw [if_neg h0]
  by_cases h4 : f 0 / 16 = 4
  · rw [if_pos h4]
    by_cases hn : n < 20
    · rw [if_pos hn]
      constructor
      · intro h; cases h
      · rintro (⟨_, h, _⟩ | ⟨h, _⟩) <;> omega
    · rw [if_neg hn]
      by_cases hk : ok4 f n
      · rw [if_pos hk]
        exact ⟨fun _ => .inl ⟨h4, by omega, hk⟩, fun _ => rfl⟩
      · rw [if_neg hk]
        constructor
        · intro h; cases h
        · rintro (⟨_, _, h⟩ | ⟨h, _⟩)
          · exact absurd h hk
          · omega
  · rw [if_neg h4]
    by_cases h6 : f 0 / 16 = 6
    · rw [if_pos h6]
      by_cases hn : n < 40
      · rw [if_pos hn]
        constructor
        · intro h; cases h
        · rintro (⟨h, _⟩ | ⟨_, h, _⟩) <;> omega
      · rw [if_neg hn]
        by_cases hk : sz6 f ≤ n
        · rw [if_pos hk]
          exact ⟨fun _ => .inr ⟨h6, by omega, hk⟩, fun _ => rfl⟩
        · rw [if_neg hk]
          constructor
          · intro h; cases h
          · rintro (⟨h, _⟩ | ⟨_, _, h⟩) <;> omega
    · rw [if_neg h6]
      constructor
      · intro h; cases h
      · rintro (⟨h, _⟩ | ⟨h, _⟩) <;> omega
theorem rdN_le (f : Nat → Nat) (n : Nat) : rdN f n ≤ n := by
  unfold rdN
  by_cases h : rdE f n = 0
  · rw [if_pos h]
    rcases rdE_zero.1 h with ⟨h4, _, h5⟩ | ⟨h6, _, h5⟩
    · rw [if_pos h4]; exact h5.2.2.1
    · rw [if_neg (by omega)]; exact h5
  · rw [if_neg h]; omega
theorem rdL_length (f : Nat → Nat) (n : Nat) : (rdL f n).length = 35 := by
  unfold rdL
  (repeat' split) <;> exact packL_length _ _ _ _ _
theorem rdL_each (f : Nat → Nat) (n : Nat) : (rdL f n).toArray.all (·.oneCell') = true := by
  unfold rdL
  (repeat' split) <;> exact pack_one _ _ _ _ _
theorem at4_lt {f : Nat → Nat} (hf : ∀ i, f i < 256) (p i : Nat) : at4 f p i < 256 := by
  have := hf (p + i)
  unfold at4
  split <;> omega

end Inner
end Go.Proofs.Ytiemcfgjpcnloaa
