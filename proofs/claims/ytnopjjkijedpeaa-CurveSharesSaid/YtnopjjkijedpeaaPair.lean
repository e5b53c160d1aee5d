/- Pairs of bytes as they stand on the ladder; the calls of package field told over Fin P. -/
import Derived.Test.YtnopjjkijedpeaaFieldKit
import Derived.Test.YtnopjjkijedpeaaCurveMath
import Derived.Test.YtnopjjkijedpeaaFloat
import Derived.Deep.MidRow
namespace Go.Proofs.Ytnopjjkijedpeaa
namespace Curve
open Go.ChangeShapes Go.WideShapes Go.ChangeAt Go.RowKit
open Num Mem Words Radix FieldN Chacha Quiet Go.Proofs.Ytnopjjkijedpeaa.Field Edwards

/-- two rows of bytes, one behind the other -/
def pr (f g : Nat → Nat) (i : Nat) : Nat := if i < 32 then f i else g (i - 32)
theorem pr_first (f g : Nat → Nat) (i : Nat) (h : i < 32) : pr f g i = f i := if_pos h
theorem pr_second (f g : Nat → Nat) (i : Nat) : pr f g (32 + i) = g i := by
  unfold pr
  rw [if_neg (by omega), Nat.add_sub_cancel_left]
theorem pr_lt {f g : Nat → Nat} (hf : ∀ i, f i < 256) (hg : ∀ i, g i < 256) (i : Nat) : pr f g i < 256 := by
  unfold pr
  split
  · exact hf _
  · exact hg _
/-- a pair's row -/
def pw2 (f g : Nat → Nat) : Array Value := (byteCells (pr f g) 64).toArray
theorem pw2_size (f g : Nat → Nat) : (pw2 f g).size = 64 := by rw [pw2, List.size_toArray, byteCells_length]
theorem pw2_one (f g : Nat → Nat) : (pw2 f g).all (·.oneCell') = true := bytes_one _ _
theorem pair_first {w : World} {B : Nat} {t : TypeId} {f g : Nat → Nat} (h : Whole w B t (pw2 f g)) : w.rangeAt B 0 (byteCells f 32) := by
  intro j v hj
  have hl : j < 32 := by
    have := (List.getElem?_eq_some_iff.1 hj).1
    rwa [byteCells_length] at this
  rw [byteCells_get f 32 j hl] at hj
  rw [Nat.zero_add, h.cell, pw2, List.getElem?_toArray, byteCells_get _ 64 j (by omega), pr_first f g j hl]
  exact hj
theorem pair_second {w : World} {B : Nat} {t : TypeId} {f g : Nat → Nat} (h : Whole w B t (pw2 f g)) : w.rangeAt B 32 (byteCells g 32) := by
  intro j v hj
  have hl : j < 32 := by
    have := (List.getElem?_eq_some_iff.1 hj).1
    rwa [byteCells_length] at this
  rw [byteCells_get g 32 j hl] at hj
  rw [h.cell, pw2, List.getElem?_toArray, byteCells_get _ 64 _ (by omega), pr_second f g j]
  exact hj
theorem run_part {P : Program} {o : Oper} {a : Act} {w : World} (ty : TypeId) (x : Operand) (ho : o.op = .load ty x) (b off : Nat) (hx : a.eval x = .pointer (some ⟨b, off, none⟩)) (f : Nat → Nat) (hc : w.rangeAt b off (byteCells f 32)) {d : TypeDesc}
    (hu : P.underlying ty = some d) (hd : d.isRow = true) (hi : (P.info? ty).map (·.size) = some 32) : (execOp a.eval o).run P w = .ok (.value (B32 f)) w := by
  unfold execOp
  simp only [ho, hx, Instr.loadAt, Instr.sureAddr, Sem.run_bind, Sem.run_pure, Result.andThen_ok, run_loadVar_mid w b off ty (byteCells f 32) d hc hu hd (by rw [byteCells_length]; exact hi)]
theorem built_pair (f g : Nat → Nat) : Try.prog.built 78 [(0, B32 f), (1, B32 g)] = some (pw2 f g) := by
  unfold B32 pw2
  kernel_rfl
theorem built_pair1 (f : Nat → Nat) : Try.prog.built 78 [(0, B32 f)] = some (pw2 f (fun _ => 0)) := by
  unfold B32 pw2
  kernel_rfl

theorem whole_range {w : World} {g : Nat} {t : TypeId} {cs : List Value} (h : Whole w g t cs.toArray) : w.rangeAt g 0 cs := by
  intro j v hj
  rw [Nat.zero_add, h.cell, List.getElem?_toArray]
  exact hj
theorem results_two {fn : Func} {p q : Tmp} {ty ty2 : TypeId} {P : Program} (h : fn.results = #[.cell p ty, .cell q ty2]) (tmps : Array Value) (w : World) (g : Nat) (t : TypeId) (cs : Array Value) (d : TypeDesc)
    (hp : tmps.getD p undef = .pointer (some ⟨g, 0, none⟩)) (hg : Whole w g t cs)
    (hu : P.underlying ty = some d) (hd : d.isRow = true) (hi : (P.info? ty).map (·.size) = some cs.size)
    (g2 : Nat) (t2 : TypeId) (cs2 : Array Value) (d2 : TypeDesc)
    (hq : tmps.getD q undef = .pointer (some ⟨g2, 0, none⟩)) (hg2 : Whole w g2 t2 cs2)
    (hu2 : P.underlying ty2 = some d2) (hd2 : d2.isRow = true) (hi2 : (P.info? ty2).map (·.size) = some cs2.size) :
    (results fn tmps).run P w = .ok (.tuple #[.agg cs, .agg cs2]) w := by
  have hp' : tmps[p]?.getD undef = .pointer (some ⟨g, 0, none⟩) := by simpa using hp
  have hq' : tmps[q]?.getD undef = .pointer (some ⟨g2, 0, none⟩) := by simpa using hq
  have e1 := run_loadVar_mid (P := P) w g 0 ty cs.toList d (whole_range (t := t) (by simpa using hg)) hu hd (by simpa using hi)
  have e2 := run_loadVar_mid (P := P) w g2 0 ty2 cs2.toList d2 (whole_range (t := t2) (by simpa using hg2)) hu2 hd2 (by simpa using hi2)
  simp only [Array.toArray_toList] at e1 e2
  simp [results, h, hp', hq', asAddr, e1, e2]

theorem run_pair {o : Oper} {a : Act} {w : World} (x y : Operand) (ho : o.op = .build 78 #[(0, x), (1, y)]) (f g : Nat → Nat) (hx : a.eval x = B32 f) (hy : a.eval y = B32 g) : (execOp a.eval o).run Try.prog w = .ok (.value (.agg (pw2 f g))) w := by
  have e : Try.prog.built 78 (Array.map (fun (x : Nat × Operand) => (x.1, a.eval x.2)) #[(0, x), (1, y)]).toList = some (pw2 f g) := by simpa [hx, hy] using built_pair f g
  unfold execOp
  simp only [ho, Sem.run_bind, run_build w 78 _ _ e, Result.andThen_ok, Sem.run_pure]

/-- an element's row -/
def er (a : Fin P) : Array Value := (qcells (dg 2251799813685248 a.val) 5).toArray
theorem er_size (a : Fin P) : (er a).size = 5 := qcells_size _ _
theorem er_one (a : Fin P) : (er a).all (·.oneCell') = true := qcells_one _ _
def zr : Array Value := (qcells (fun _ => 0) 5).toArray
theorem zr_size : zr.size = 5 := qcells_size _ _
theorem zr_one : zr.all (·.oneCell') = true := qcells_one _ _

def Gives (fn : FuncId) (args : Array Value) (v : Value) : Prop := ∀ w, Calls Try.prog fn args w fun e w' => e = .returned v ∧ Below w.heap.size w w'

theorem plusF (a b : Fin P) : Gives 20 #[.agg (er a), .agg (er b)] (.agg (er (a + b))) := fun w => by
  have h := add_any a.val b.val a.isLt b.isLt w
  rw [← Fin.val_add] at h
  exact h
theorem minusF (a b : Fin P) : Gives 21 #[.agg (er a), .agg (er b)] (.agg (er (a - b))) := fun w => by
  have h := sub_any a.val b.val a.isLt b.isLt w
  have e : (a - b).val = (a.val + (P - b.val)) % P := by rw [Fin.sub_def, Nat.add_comm]
  rw [← e] at h
  exact h
theorem timesF (a b : Fin P) : Gives 22 #[.agg (er a), .agg (er b)] (.agg (er (a * b))) := fun w => by
  have h := times_any a.val b.val a.isLt b.isLt w
  rw [← val_mul] at h
  exact h
theorem kP_val : kP.val = 121665 := by
  show kL = 121665
  unfold kL
  rfl
theorem littleF (a : Fin P) : Gives 24 #[.agg (er a), .int .u32 121665] (.agg (er (kP * a))) := fun w => by
  have h := small_any a.val 121665 a.isLt (by omega) w
  have e : (kP * a).val = a.val * 121665 % P := by rw [val_mul, kP_val, Nat.mul_comm]
  rw [← e] at h
  exact h
theorem takeF {f : Nat → Nat} (hf : ∀ i, f i < 256) {x : Fin P} (h : tk f = x.val) : Gives 19 #[B32 f] (.agg (er x)) := fun w => by
  have h1 := take_any f hf w
  rw [h] at h1
  exact h1
theorem bytesF (a : Fin P) : Gives 28 #[.agg (er a)] (B32 (byteAt a.val)) := fun w => bytes_any a.val a.isLt w

theorem tk_of (a : Fin P) : tk (byteAt a.val) = a.val := tk_byteAt a.isLt

end Curve
end Go.Proofs.Ytnopjjkijedpeaa
