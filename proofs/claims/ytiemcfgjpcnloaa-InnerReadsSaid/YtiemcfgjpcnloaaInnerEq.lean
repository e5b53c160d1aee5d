/- '==' of addresses and of packets' headers. -/
import Derived.Test.YtiemcfgjpcnloaaInnerCells
import Derived.Test.YtiemcfgjpcnloaaKit
import Derived.Laws.StructEq
namespace Go.Proofs.Ytiemcfgjpcnloaa
namespace Inner
open Go.ChangeShapes Go.WideShapes Go.ChangeAt Go.RowKit
open Num Mem Words Chacha Aead Poly

theorem eqin_bytes (d : Nat) (f g : Nat → Nat) (hf : ∀ i, f i < 256) (hg : ∀ i, g i < 256) (r : Bool) (hr : r = true ↔ ∀ i, i < 16 → f i = g i) (w : World) :
    (Op.equalIn (d + 2) 24 (.agg (byteCells f 16).toArray) (.agg (byteCells g 16).toArray)).run Try.prog w = .ok r w := by
  rw [byteCells_cell f hf, byteCells_cell g hg, run_equalIn_bytes w d 24 5 16 Try.underlying24 Try.underlying5 size_u8 _ _ (by simp) (by simp)]
  congr 1
  rw [Bool.eq_iff_iff, hr, beq_iff_eq]
  constructor
  · intro h i hi
    have h3 := congrArg (fun l : List UInt8 => l[i]?) h
    simp only [List.getElem?_map, List.getElem?_range hi, Option.map_some, Option.some.injEq] at h3
    have h4 := congrArg UInt8.toNat h3
    simp only [UInt8.toNat_ofNat'] at h4
    have := hf i
    have := hg i
    omega
  · intro h
    exact List.map_congr_left fun i hi => by rw [h i (List.mem_range.1 hi)]

theorem size16 (w : World) : (sizeOf 24).run Try.prog w = .ok 16 w := by kernel_rfl
theorem size17 (w : World) : (sizeOf 26).run Try.prog w = .ok 17 w := by kernel_rfl
theorem part_six (s : Bool) (f : Nat → Nat) (w : World) : (part 4 (addrL s f).toArray 0).run Try.prog w = .ok (.bool s) w := by
  simp [part, isAgg, run_underlying Try.underlying4, addrL]
theorem part_row (s : Bool) (f : Nat → Nat) (w : World) : (part 24 (addrL s f).toArray 1).run Try.prog w = .ok (.agg (byteCells f 16).toArray) w := by
  simp only [part, isAgg, run_underlying Try.underlying24, Sem.run_bind, Result.andThen_ok, Sem.run_pure, if_true, size16]
  congr 2
theorem eqin_addr (d : Nat) (s t : Bool) (f g : Nat → Nat) (hf : ∀ i, f i < 256) (hg : ∀ i, g i < 256) (r : Bool) (hr : r = true ↔ s = t ∧ ∀ i, i < 16 → f i = g i) (w : World) :
    (Op.equalIn (d + 3) 26 (.agg (addrL s f).toArray) (.agg (addrL t g).toArray)).run Try.prog w = .ok r w := by
  rw [run_equalIn_struct w (d + 2) 26 _ _ (by simp only [Program.fieldsOf, Try.underlying26]) (by kernel_rfl)]
  have e : (Try.prog.fieldsOf 26).toList = [{ name := "Six", type := 4, offset := 0, embedded := false, tag := "", pkgPath := "", byteOffset := 0 }, { name := "B", type := 24, offset := 1, embedded := false, tag := "", pkgPath := "", byteOffset := 1 }] := by
    simp only [Program.fieldsOf, Try.underlying26]
  rw [e]
  simp only [Op.eqFields]
  rw [if_pos (by decide)]
  simp only [Sem.run_bind, part_six, Result.andThen_ok, run_equalIn_bool w (d + 1) 4 s t Try.underlying4]
  by_cases hst : s = t
  · subst hst
    have e2 := eqin_bytes d f g hf hg r (hr.trans ⟨fun h => h.2, fun h => ⟨rfl, h⟩⟩) w
    simp only [beq_self_eq_true, Bool.not_true, Bool.false_eq_true, if_false, ne_eq, String.reduceEq, not_false_eq_true, if_true, Sem.run_bind, part_row, Result.andThen_ok, e2]
    cases r <;> simp
  · have e3 : (s == t) = false := by rw [beq_eq_false_iff_ne]; exact hst
    have e4 : r = false := by
      cases r
      · rfl
      · exact absurd (hr.1 rfl).1 hst
    subst e4
    simp [e3]

theorem part_from (s1 : Bool) (f1 : Nat → Nat) (s2 : Bool) (f2 : Nat → Nat) (z : Int) (w : World) : (part 26 (packL s1 f1 s2 f2 z).toArray 0).run Try.prog w = .ok (.agg (addrL s1 f1).toArray) w := by
  simp only [part, isAgg, run_underlying Try.underlying26, Sem.run_bind, Result.andThen_ok, Sem.run_pure, if_true, size17]
  congr 2
theorem part_to (s1 : Bool) (f1 : Nat → Nat) (s2 : Bool) (f2 : Nat → Nat) (z : Int) (w : World) : (part 26 (packL s1 f1 s2 f2 z).toArray 17).run Try.prog w = .ok (.agg (addrL s2 f2).toArray) w := by
  simp only [part, isAgg, run_underlying Try.underlying26, Sem.run_bind, Result.andThen_ok, Sem.run_pure, if_true, size17]
  congr 2
theorem part_size (s1 : Bool) (f1 : Nat → Nat) (s2 : Bool) (f2 : Nat → Nat) (z : Int) (w : World) : (part 3 (packL s1 f1 s2 f2 z).toArray 34).run Try.prog w = .ok (.int .i64 z) w := by
  have e : (packL s1 f1 s2 f2 z).toArray[34]? = some (.int .i64 z) := rfl
  simp only [part, isAgg, run_underlying Try.underlying3, Sem.run_bind, Result.andThen_ok, Sem.run_pure, e]
  rfl
theorem eqin_pack (d : Nat) (s1 t1 s2 t2 : Bool) (f1 g1 f2 g2 : Nat → Nat) (z y : Int) (hf1 : ∀ i, f1 i < 256) (hg1 : ∀ i, g1 i < 256) (hf2 : ∀ i, f2 i < 256) (hg2 : ∀ i, g2 i < 256) (r : Bool)
    (hr : r = true ↔ (s1 = t1 ∧ ∀ i, i < 16 → f1 i = g1 i) ∧ (s2 = t2 ∧ ∀ i, i < 16 → f2 i = g2 i) ∧ z = y) (w : World) :
    (Op.equalIn (d + 4) 28 (.agg (packL s1 f1 s2 f2 z).toArray) (.agg (packL t1 g1 t2 g2 y).toArray)).run Try.prog w = .ok r w := by
  rw [run_equalIn_struct w (d + 3) 28 _ _ (by simp only [Program.fieldsOf, Try.underlying28]) (by kernel_rfl)]
  have e : (Try.prog.fieldsOf 28).toList = [{ name := "From", type := 26, offset := 0, embedded := false, tag := "", pkgPath := "", byteOffset := 0 }, { name := "To", type := 26, offset := 17, embedded := false, tag := "", pkgPath := "", byteOffset := 17 }, { name := "Size", type := 3, offset := 34, embedded := false, tag := "", pkgPath := "", byteOffset := 40 }] := by
    simp only [Program.fieldsOf, Try.underlying28]
  rw [e]
  have x1 : ∀ w, (Op.equalIn (d + 3) 26 (.agg (addrL s1 f1).toArray) (.agg (addrL t1 g1).toArray)).run Try.prog w = .ok (decide (s1 = t1 ∧ ∀ i : Fin 16, f1 i = g1 i)) w := fun w =>
    eqin_addr d s1 t1 f1 g1 hf1 hg1 _ (by rw [decide_eq_true_eq]; exact ⟨fun h => ⟨h.1, fun i hi => h.2 ⟨i, hi⟩⟩, fun h => ⟨h.1, fun i => h.2 i.1 i.2⟩⟩) w
  have x2 : ∀ w, (Op.equalIn (d + 3) 26 (.agg (addrL s2 f2).toArray) (.agg (addrL t2 g2).toArray)).run Try.prog w = .ok (decide (s2 = t2 ∧ ∀ i : Fin 16, f2 i = g2 i)) w := fun w =>
    eqin_addr d s2 t2 f2 g2 hf2 hg2 _ (by rw [decide_eq_true_eq]; exact ⟨fun h => ⟨h.1, fun i hi => h.2 ⟨i, hi⟩⟩, fun h => ⟨h.1, fun i => h.2 i.1 i.2⟩⟩) w
  have hr' : r = (decide (s1 = t1 ∧ ∀ i : Fin 16, f1 i = g1 i) && (decide (s2 = t2 ∧ ∀ i : Fin 16, f2 i = g2 i) && (z == y))) := by
    rw [Bool.eq_iff_iff, hr]
    simp only [Bool.and_eq_true, decide_eq_true_eq, beq_iff_eq]
    exact ⟨fun h => ⟨⟨h.1.1, fun i => h.1.2 i.1 i.2⟩, ⟨h.2.1.1, fun i => h.2.1.2 i.1 i.2⟩, h.2.2⟩, fun h => ⟨⟨h.1.1, fun i hi => h.1.2 ⟨i, hi⟩⟩, ⟨h.2.1.1, fun i hi => h.2.1.2 ⟨i, hi⟩⟩, h.2.2⟩⟩
  generalize decide (s1 = t1 ∧ ∀ i : Fin 16, f1 i = g1 i) = b1 at x1 hr'
  generalize decide (s2 = t2 ∧ ∀ i : Fin 16, f2 i = g2 i) = b2 at x2 hr'
  subst hr'
  have n1 : ("From" : String) ≠ "_" := by decide
  have n2 : ("To" : String) ≠ "_" := by decide
  have n3 : ("Size" : String) ≠ "_" := by decide
  simp only [Op.eqFields, if_pos n1, if_pos n2, if_pos n3, Sem.run_bind, part_from, Result.andThen_ok, x1]
  cases b1 <;> cases b2 <;> cases h : (z == y) <;> simp [part_to, part_size, x2, run_equalIn_int w (d + 2) 3 .i64 .i64 z y Try.underlying3, h]

theorem run_eql_op {P : Program} {o : Oper} {a : Act} (t : TypeId) (x y : Operand) (t2 : TypeId) (ho : o.op = .binOp .eql t x y t2) (xs ys : Array Value) (hx : a.eval x = .agg xs) (hy : a.eval y = .agg ys) (r : Bool)
    (hg : P.eqGuardType P.depth t = false) (hE : ∀ w, (Op.equalIn 10000 t (.agg xs) (.agg ys)).run P w = .ok r w) (w : World) : (execOp a.eval o).run P w = .ok (.value (.bool r)) w := by
  unfold execOp
  simp only [ho, hx, hy, Sem.run_bind, run_eqGuard_agg w _ _ _ _ _ _ hg, Result.andThen_ok, run_eql_struct, hE, Sem.run_pure]

theorem wpList_value_if {P : Program} {ops : Array Oper} {rest : List Oper} {o : Oper} {a : Act} {w : World} {Q : Exit → Act → World → Prop} (hw : Region.wanted o (yielded ops a.tmps) = true) (v : Value)
    (hr : (execOp a.eval o).run P w = .ok (.value v) w) (h : wpList P ops Q rest (a.put o.dst v) w) : wpList P ops Q (o :: rest) a w :=
  wpList_step fun _ hK => by
    rw [if_pos hw]
    unfold Oper.wp
    rw [hr]
    exact hK _ _ h

end Inner
end Go.Proofs.Ytiemcfgjpcnloaa
