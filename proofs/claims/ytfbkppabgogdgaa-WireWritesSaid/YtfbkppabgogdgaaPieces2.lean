/- Texts that lie in pieces, one behind the other. -/
import Derived.Test.YtfbkppabgogdgaaKit
namespace Go.Proofs.Ytfbkppabgogdgaa
namespace Cuts
open Go.ChangeShapes Go.WideShapes Go.ChangeAt Go.RowKit
open Num Mem

/-- a part: where it lies, how long it is, its capacity, its bytes -/
structure Part where
  A : Option Addr
  m : Nat
  c : Nat
  f : Nat → Nat
def Part.val (p : Part) : Value := .slice p.A p.m p.c
def lenAll : List Part → Nat
  | [] => 0
  | p :: r => p.m + lenAll r
def textOf : List Part → Nat → Nat
  | [], _ => 0
  | p :: r, i => if i < p.m then p.f i else textOf r (i - p.m)
theorem lenAll_take {l : List Part} : ∀ {j : Nat} {p : Part}, l[j]? = some p → lenAll (l.take (j + 1)) = lenAll (l.take j) + p.m := by
  induction l with
  | nil => intro j p h; simp at h
  | cons q r ih =>
    intro j p h
    cases j with
    | zero =>
      simp at h
      subst h
      simp [lenAll]
    | succ j =>
      simp at h
      simp only [List.take_succ_cons, lenAll]
      rw [ih h]
      omega
theorem lenAll_le (l : List Part) (j : Nat) : lenAll (l.take j) ≤ lenAll l := by
  induction l generalizing j with
  | nil => simp [lenAll]
  | cons q r ih =>
    cases j with
    | zero => simp [lenAll]
    | succ j =>
      simp only [List.take_succ_cons, lenAll]
      have := ih j
      omega
theorem textOf_at {l : List Part} : ∀ {j : Nat} {p : Part}, l[j]? = some p → ∀ i, i < p.m → textOf l (lenAll (l.take j) + i) = p.f i := by
  induction l with
  | nil => intro j p h; simp at h
  | cons q r ih =>
    intro j p h i hi
    cases j with
    | zero =>
      simp at h
      subst h
      simp [lenAll, textOf, hi]
    | succ j =>
      simp at h
      simp only [List.take_succ_cons, lenAll, textOf]
      rw [if_neg (by omega), ← ih h i hi]
      congr 1
      omega
theorem textOf_lt {l : List Part} (h : ∀ (j : Nat) (p : Part), l[j]? = some p → ∀ i, p.f i < 256) (i : Nat) : textOf l i < 256 := by
  induction l generalizing i with
  | nil => simp [textOf]
  | cons q r ih =>
    unfold textOf
    split
    · exact h 0 q rfl i
    · exact ih (fun j p hj => h (j + 1) p (by simpa using hj)) _

/-- a row of parts lies at ⟨pb, po⟩ -/
structure PartsAt (w : World) (pb po : Nat) (l : List Part) : Prop where
  lt : pb < w.heap.size
  cell : ∀ (j : Nat) (p : Part), l[j]? = some p → w.cell? ⟨pb, po + j, none⟩ = some p.val
  cap : ∀ (j : Nat) p, l[j]? = some p → p.m ≤ p.c
  rd : ∀ (j : Nat) p, l[j]? = some p → Rd w p.A p.m p.f
  byte : ∀ (j : Nat) p, l[j]? = some p → ∀ i, p.f i < 256
theorem PartsAt.below {w w' : World} {pb po B : Nat} {l : List Part} (h : PartsAt w pb po l) (hb : Below B w w') (hB : w.heap.size ≤ B) : PartsAt w' pb po l :=
  ⟨Nat.lt_of_lt_of_le h.lt hb.size, fun j p hj => (hb.cell (p := ⟨pb, po + j, none⟩) (Nat.lt_of_lt_of_le h.lt hB)).trans (h.cell j p hj), h.cap, fun j p hj => (h.rd j p hj).below hb hB, h.byte⟩


theorem rd_whole {l : List Part} (h : ∀ (j : Nat) (p : Part), l[j]? = some p → p.A = none → p.m = 0 ∧ p.c = 0) {w : World} {pb po : Nat} (hP : PartsAt w pb po l) {j : Nat} {p : Part} (hj : l[j]? = some p) : Src w p.A p.m p.c p.f := src_rd (hP.rd j p hj) (h j p hj)
/-- an own row with room behind it -/
theorem own_room {w : World} {B n : Nat} {t : TypeId} (hB : B ≤ w.heap.size) (hn : n ≤ 140737488355328) (f : Nat → Nat) : Own (w.alloc (.cells (byteCells (fun _ => 0) n).toArray t)) B t (some ⟨w.heap.size, 0, none⟩) 0 n f :=
  ⟨rfl, .inr ⟨w.heap.size, n, _, rfl, hB, Whole.new _ _ _, Nat.zero_le _, by simp only [maxLen]; omega, by rw [List.size_toArray, byteCells_length, Nat.mul_one], rfl⟩⟩
theorem made_cap (n : Nat) (hn : n ≤ 140737488355328) (w : World) :
    (Instr.makeSlice 36 (.int .i64 0) (.int .i64 n)).run Try.prog w = .ok (.slice (some ⟨w.heap.size, 0, none⟩) 0 n) (w.alloc (.cells (byteCells (fun _ => 0) n).toArray 5)) := by
  obtain ⟨i0, hi, hz0, hz1, hz2⟩ := info_parts (show (Try.prog.info? 5).map (fun i => (i.zero, i.size, i.bytes)) = some (some (.int .u8 0), 1, 1) by kernel_rfl)
  rw [run_make w 36 5 i0 (.int .u8 0) Try.underlying36 hi hz0 .i64 .i64 0 n (by omega) (by omega) (by rw [hz2]; omega) (by omega)]
  have e : madeCells (Value.int .u8 0).cells (((n : Int)).toNat * i0.size) = (byteCells (fun _ => 0) n).toArray := by
    rw [hz1]
    apply Array.ext_getElem?
    intro i
    by_cases hi : i < n <;> simp [madeCells, Value.cells, byteCells, hi, Nat.mod_one]
  rw [e]
  rfl

end Cuts
end Go.Proofs.Ytfbkppabgogdgaa
