/- Memory words: a block that is known whole, and what it gives; a row of bytes read as a function of the place. Nothing of the program. -/
import Derived.Below
import Derived.Laws.OwnMore
import Derived.Laws.Rows
import Derived.Deep.Draws
import Derived.OwnWalk
namespace Go.Proofs.YtcoppcididemkaaDoor
namespace Mem
open Go.RowKit

/-- block g of w is just the cells cs of element type t, none frozen -/
def Whole (w : World) (g : Nat) (t : TypeId) (cs : Array Value) : Prop := w.heap[g]? = some (.cells cs t (0, 0))

section
variable {w w' : World} {g : Nat} {t : TypeId} {cs : Array Value}
theorem Whole.lt (h : Whole w g t cs) : g < w.heap.size := by
  unfold Whole at h
  rcases Nat.lt_or_ge g w.heap.size with k | k
  · exact k
  · rw [Array.getElem?_eq_none k] at h
    cases h
theorem Whole.cell (h : Whole w g t cs) (i : Nat) : w.cell? ⟨g, i, none⟩ = cs[i]? := cell_of_row w g i cs t (0, 0) h
theorem Whole.free (h : Whole w g t cs) (i : Nat) : w.frozen? ⟨g, i, none⟩ = false := by
  unfold Whole at h
  simp [World.frozen?, h]
theorem Whole.new (w : World) (t : TypeId) (cs : Array Value) : Whole (w.alloc (.cells cs t)) w.heap.size t cs := heap_alloc_new w _
theorem Whole.alloc (h : Whole w g t cs) (o : Obj) : Whole (w.alloc o) g t cs := (Below.heap_alloc w o g h.lt).trans h
theorem Whole.drewN (h : Whole w g t cs) (n : Nat) : Whole (w.drewN n) g t cs := h
theorem Whole.drew (h : Whole w g t cs) : Whole w.drew g t cs := h
theorem Whole.put (h : Whole w g t cs) (i : Nat) (u : Value) : Whole (w.setCell ⟨g, i, none⟩ u) g t (cs.setIfInBounds i u) := by
  unfold Whole at h ⊢
  simp [World.setCell, Array.getElem?_modify, h]
theorem Whole.far (h : Whole w g t cs) {p : Addr} (hp : g ≠ p.block) (u : Value) : Whole (w.setCell p u) g t cs := (Below.heap_setCell w p u g hp).trans h
theorem Whole.below {B : Nat} (h : Whole w g t cs) (hb : Below B w w') (hg : g < B) : Whole w' g t cs := (hb.block g hg).trans h
end

theorem below_drewN {B : Nat} {a w : World} (h : Below B a w) (n : Nat) : Below B a (w.drewN n) := ⟨h.os, h.tape, h.output, h.size, h.block⟩

theorem below_trans {w w1 w2 : World} (h : Below w.heap.size w w1) (k : Below w1.heap.size w1 w2) : Below w.heap.size w w2 := h.trans (k.mono h.size)
theorem below_alloc {w w1 : World} (h : Below w.heap.size w w1) (o : Obj) : Below w.heap.size w (w1.alloc o) := h.alloc h.size o
theorem below_new {w w1 w2 : World} {o : Obj} (h : Below w.heap.size w w1) (k : Below (w1.alloc o).heap.size (w1.alloc o) w2) : Below w.heap.size w w2 := below_trans (below_alloc h o) k

/-- what is told of a slice of integers that came in: it is nil; or it leads to a row of 'cap' cells, the numbers 'zs', each fitting its kind -/
def IsRow (k : IntKind) (w : World) (a : Option Addr) (len cap : Nat) (zs : List Int) : Prop :=
  (a = none ∧ len = 0 ∧ cap = 0 ∧ zs = []) ∨
  ∃ x, a = some x ∧ len ≤ cap ∧ cap ≤ maxLen ∧ zs.length = cap ∧ (∀ i, i < zs.length → w.cell? (x.add i) = some (.int k (zs.getD i 0))) ∧ ∀ n ∈ zs, (Lit.int k n).wf = true

theorem nat_u8 {a : Int} (h : (Lit.int .u8 a).wf = true) : ∃ v : Nat, a = (v : Int) ∧ v < 2 ^ 8 := by
  simp [Lit.wf, IntKind.min, IntKind.max, IntKind.signed, IntKind.bits] at h
  exact ⟨a.toNat, by omega, by omega⟩
theorem nat_u32 {a : Int} (h : (Lit.int .u32 a).wf = true) : ∃ v : Nat, a = (v : Int) ∧ v < 2 ^ 32 := by
  simp [Lit.wf, IntKind.min, IntKind.max, IntKind.signed, IntKind.bits] at h
  exact ⟨a.toNat, by omega, by omega⟩
theorem nat_u64 {a : Int} (h : (Lit.int .u64 a).wf = true) : ∃ v : Nat, a = (v : Int) ∧ v < 2 ^ 64 := by
  simp [Lit.wf, IntKind.min, IntKind.max, IntKind.signed, IntKind.bits] at h
  exact ⟨a.toNat, by omega, by omega⟩
theorem int_i64 {a : Int} (h : (Lit.int .i64 a).wf = true) : -9223372036854775808 ≤ a ∧ a ≤ 9223372036854775807 := by
  simp [Lit.wf, IntKind.min, IntKind.max, IntKind.signed, IntKind.bits] at h
  omega

/-- the cells of a row of bytes -/
def byteCells (f : Nat → Nat) (n : Nat) : List Value := (List.range n).map fun i => .int .u8 (f i : Nat)

theorem byteCells_lit4 (f : Nat → Nat) : (byteCells f 4).toArray = #[.int .u8 (f 0 : Nat), .int .u8 (f 1 : Nat), .int .u8 (f 2 : Nat), .int .u8 (f 3 : Nat)] := rfl
theorem byteCells_lit8 (f : Nat → Nat) : (byteCells f 8).toArray = #[.int .u8 (f 0 : Nat), .int .u8 (f 1 : Nat), .int .u8 (f 2 : Nat), .int .u8 (f 3 : Nat), .int .u8 (f 4 : Nat), .int .u8 (f 5 : Nat), .int .u8 (f 6 : Nat), .int .u8 (f 7 : Nat)] := rfl
theorem byteCells_lit12 (f : Nat → Nat) : (byteCells f 12).toArray = #[.int .u8 (f 0 : Nat), .int .u8 (f 1 : Nat), .int .u8 (f 2 : Nat), .int .u8 (f 3 : Nat), .int .u8 (f 4 : Nat), .int .u8 (f 5 : Nat), .int .u8 (f 6 : Nat), .int .u8 (f 7 : Nat), .int .u8 (f 8 : Nat), .int .u8 (f 9 : Nat), .int .u8 (f 10 : Nat), .int .u8 (f 11 : Nat)] := rfl
theorem byteCells_lit16 (f : Nat → Nat) : (byteCells f 16).toArray = #[.int .u8 (f 0 : Nat), .int .u8 (f 1 : Nat), .int .u8 (f 2 : Nat), .int .u8 (f 3 : Nat), .int .u8 (f 4 : Nat), .int .u8 (f 5 : Nat), .int .u8 (f 6 : Nat), .int .u8 (f 7 : Nat), .int .u8 (f 8 : Nat), .int .u8 (f 9 : Nat), .int .u8 (f 10 : Nat), .int .u8 (f 11 : Nat), .int .u8 (f 12 : Nat), .int .u8 (f 13 : Nat), .int .u8 (f 14 : Nat), .int .u8 (f 15 : Nat)] := rfl
theorem byteCells_lit32 (f : Nat → Nat) : (byteCells f 32).toArray = #[.int .u8 (f 0 : Nat), .int .u8 (f 1 : Nat), .int .u8 (f 2 : Nat), .int .u8 (f 3 : Nat), .int .u8 (f 4 : Nat), .int .u8 (f 5 : Nat), .int .u8 (f 6 : Nat), .int .u8 (f 7 : Nat), .int .u8 (f 8 : Nat), .int .u8 (f 9 : Nat), .int .u8 (f 10 : Nat), .int .u8 (f 11 : Nat), .int .u8 (f 12 : Nat), .int .u8 (f 13 : Nat), .int .u8 (f 14 : Nat), .int .u8 (f 15 : Nat), .int .u8 (f 16 : Nat), .int .u8 (f 17 : Nat), .int .u8 (f 18 : Nat), .int .u8 (f 19 : Nat), .int .u8 (f 20 : Nat), .int .u8 (f 21 : Nat), .int .u8 (f 22 : Nat), .int .u8 (f 23 : Nat), .int .u8 (f 24 : Nat), .int .u8 (f 25 : Nat), .int .u8 (f 26 : Nat), .int .u8 (f 27 : Nat), .int .u8 (f 28 : Nat), .int .u8 (f 29 : Nat), .int .u8 (f 30 : Nat), .int .u8 (f 31 : Nat)] := rfl
theorem byteCells_lit64 (f : Nat → Nat) : (byteCells f 64).toArray = #[.int .u8 (f 0 : Nat), .int .u8 (f 1 : Nat), .int .u8 (f 2 : Nat), .int .u8 (f 3 : Nat), .int .u8 (f 4 : Nat), .int .u8 (f 5 : Nat), .int .u8 (f 6 : Nat), .int .u8 (f 7 : Nat), .int .u8 (f 8 : Nat), .int .u8 (f 9 : Nat), .int .u8 (f 10 : Nat), .int .u8 (f 11 : Nat), .int .u8 (f 12 : Nat), .int .u8 (f 13 : Nat), .int .u8 (f 14 : Nat), .int .u8 (f 15 : Nat), .int .u8 (f 16 : Nat), .int .u8 (f 17 : Nat), .int .u8 (f 18 : Nat), .int .u8 (f 19 : Nat), .int .u8 (f 20 : Nat), .int .u8 (f 21 : Nat), .int .u8 (f 22 : Nat), .int .u8 (f 23 : Nat), .int .u8 (f 24 : Nat), .int .u8 (f 25 : Nat), .int .u8 (f 26 : Nat), .int .u8 (f 27 : Nat), .int .u8 (f 28 : Nat), .int .u8 (f 29 : Nat), .int .u8 (f 30 : Nat), .int .u8 (f 31 : Nat), .int .u8 (f 32 : Nat), .int .u8 (f 33 : Nat), .int .u8 (f 34 : Nat), .int .u8 (f 35 : Nat), .int .u8 (f 36 : Nat), .int .u8 (f 37 : Nat), .int .u8 (f 38 : Nat), .int .u8 (f 39 : Nat), .int .u8 (f 40 : Nat), .int .u8 (f 41 : Nat), .int .u8 (f 42 : Nat), .int .u8 (f 43 : Nat), .int .u8 (f 44 : Nat), .int .u8 (f 45 : Nat), .int .u8 (f 46 : Nat), .int .u8 (f 47 : Nat), .int .u8 (f 48 : Nat), .int .u8 (f 49 : Nat), .int .u8 (f 50 : Nat), .int .u8 (f 51 : Nat), .int .u8 (f 52 : Nat), .int .u8 (f 53 : Nat), .int .u8 (f 54 : Nat), .int .u8 (f 55 : Nat), .int .u8 (f 56 : Nat), .int .u8 (f 57 : Nat), .int .u8 (f 58 : Nat), .int .u8 (f 59 : Nat), .int .u8 (f 60 : Nat), .int .u8 (f 61 : Nat), .int .u8 (f 62 : Nat), .int .u8 (f 63 : Nat)] := rfl

theorem byteCells_get (f : Nat → Nat) (n i : Nat) (h : i < n) : (byteCells f n)[i]? = some (.int .u8 (f i : Nat)) := by
  simp [byteCells, h]

theorem byteCells_length (f : Nat → Nat) (n : Nat) : (byteCells f n).length = n := by simp [byteCells]

theorem byteCells_congr {f g : Nat → Nat} {n : Nat} (h : ∀ i, i < n → f i = g i) : byteCells f n = byteCells g n := by
  unfold byteCells
  exact List.map_congr_left fun i hi => by rw [h i (List.mem_range.1 hi)]

theorem Whole.bytes {w : World} {g n : Nat} {t : TypeId} {f : Nat → Nat} (h : Whole w g t (byteCells f n).toArray) (i : Nat) (hi : i < n) : w.cell? ⟨g, 0 + i, none⟩ = some (.int .u8 (f i : Nat)) := by
  rw [Nat.zero_add, h.cell, List.getElem?_toArray, byteCells_get f n i hi]

/-- a store into a row of bytes -/
theorem byteCells_set (f : Nat → Nat) (n j v : Nat) : (byteCells f n).toArray.setIfInBounds j (.int .u8 (v : Nat)) = (byteCells (fun i => if i = j then v else f i) n).toArray := by
  apply Array.ext_getElem?
  intro i
  rw [Array.getElem?_setIfInBounds]
  by_cases hi : i < n
  · by_cases hj : j = i
    · subst hj
      simp [byteCells, hi]
    · have : ¬ i = j := fun e => hj e.symm
      simp [byteCells, hi, hj, this]
  · simp [byteCells, hi]
    omega

end Mem
end Go.Proofs.YtcoppcididemkaaDoor
