/- The cells of a hash in memory: what is read of them, what a store leaves; nothing that the program does. -/
import Derived.Test.YtcoppcididemkaaDoorBlakeNums
import Derived.Test.YtcoppcididemkaaDoorCopy
import Derived.Test.YtcoppcididemkaaDoorBlock
import Derived.Deep.MidRow
namespace Go.Proofs.YtcoppcididemkaaDoor
namespace Blake
open Go.RowKit
open Num Mem Words State Chacha

section
variable {S : List Nat} (hS : S.length = 8) (size : Nat) (b : Nat → Nat) (filled count : Nat)
include hS
omit hS in
theorem hash_size : (hashCells size S b filled count)[0]? = some (.int .i64 size) := rfl
theorem hash_sum (i : Nat) (h : i < 8) : (hashCells size S b filled count)[1 + i]? = some (.int .u32 (S.getD i 0 : Nat)) := by
  unfold hashCells
  rw [Nat.add_comm 1 i, List.getElem?_cons_succ, List.getElem?_append_left (by rw [wcells_length]; omega), wcells_get _ _ (by omega)]
theorem hash_block (i : Nat) (h : i < 64) : (hashCells size S b filled count)[9 + i]? = some (.int .u8 (b i : Nat)) := by
  unfold hashCells
  rw [show 9 + i = (8 + i) + 1 by omega, List.getElem?_cons_succ, List.getElem?_append_right (by rw [wcells_length]; omega), wcells_length, hS, Nat.add_sub_cancel_left, List.getElem?_append_left (by rw [byteCells_length]; omega), byteCells_get _ _ _ h]
theorem hash_filled : (hashCells size S b filled count)[73]? = some (.int .i64 filled) := by
  unfold hashCells
  rw [show (73 : Nat) = 72 + 1 by rfl, List.getElem?_cons_succ, List.getElem?_append_right (by rw [wcells_length]; omega), wcells_length, hS, List.getElem?_append_right (by rw [byteCells_length]; omega), byteCells_length]
  rfl
theorem hash_count : (hashCells size S b filled count)[74]? = some (.int .u64 count) := by
  unfold hashCells
  rw [show (74 : Nat) = 73 + 1 by rfl, List.getElem?_cons_succ, List.getElem?_append_right (by rw [wcells_length]; omega), wcells_length, hS, List.getElem?_append_right (by rw [byteCells_length]; omega), byteCells_length]
  rfl
theorem hash_set_sum (i v : Nat) (h : i < 8) : (hashCells size S b filled count).toArray.setIfInBounds (1 + i) (.int .u32 (v : Nat)) = (hashCells size (S.set i v) b filled count).toArray := by
  unfold hashCells
  rw [List.setIfInBounds_toArray, Nat.add_comm 1 i, List.set_cons_succ, List.set_append_left _ _ (by rw [wcells_length]; omega)]
  simp only [wcells, List.map_set]
theorem hash_set_block (i v : Nat) (h : i < 64) : (hashCells size S b filled count).toArray.setIfInBounds (9 + i) (.int .u8 (v : Nat)) = (hashCells size S (fun j => if j = i then v else b j) filled count).toArray := by
  have e := byteCells_set b 64 i v
  rw [List.setIfInBounds_toArray] at e
  have e2 : (byteCells b 64).set i (.int .u8 (v : Nat)) = byteCells (fun j => if j = i then v else b j) 64 := by
    have := congrArg Array.toList e
    simpa using this
  unfold hashCells
  rw [List.setIfInBounds_toArray, show 9 + i = (8 + i) + 1 by omega, List.set_cons_succ, List.set_append_right _ _ (by rw [wcells_length]; omega), wcells_length, hS, Nat.add_sub_cancel_left, List.set_append_left _ _ (by rw [byteCells_length]; omega), e2]
theorem hash_set_filled (v : Nat) : (hashCells size S b filled count).toArray.setIfInBounds 73 (.int .i64 (v : Nat)) = (hashCells size S b v count).toArray := by
  unfold hashCells
  rw [List.setIfInBounds_toArray, show (73 : Nat) = 72 + 1 by rfl, List.set_cons_succ, List.set_append_right _ _ (by rw [wcells_length]; omega), wcells_length, hS, List.set_append_right _ _ (by rw [byteCells_length]; omega), byteCells_length]
  rfl
theorem hash_set_count (v : Nat) : (hashCells size S b filled count).toArray.setIfInBounds 74 (.int .u64 (v : Nat)) = (hashCells size S b filled v).toArray := by
  unfold hashCells
  rw [List.setIfInBounds_toArray, show (74 : Nat) = 73 + 1 by rfl, List.set_cons_succ, List.set_append_right _ _ (by rw [wcells_length]; omega), wcells_length, hS, List.set_append_right _ _ (by rw [byteCells_length]; omega), byteCells_length]
  rfl
/-- bytes laid over a part of the block -/
theorem hash_splice (p m : Nat) (F : Nat → Nat) (h : p + m ≤ 64) : splice (hashCells size S b filled count) (9 + p) (byteCells F m) = hashCells size S (fun i => if p ≤ i ∧ i < p + m then F (i - p) else b i) filled count := by
  have e := byteCells_splice b F (fun i => if p ≤ i ∧ i < p + m then F (i - p) else b i) 64 p m h (fun i _ => rfl)
  unfold splice at e ⊢
  rw [byteCells_length] at e ⊢
  unfold hashCells
  have w8 : (wcells S).length = 8 := by rw [wcells_length, hS]
  rw [show 9 + p = (8 + p) + 1 by omega, show 8 + p + 1 + m = (8 + (p + m)) + 1 by omega, List.take_succ_cons, List.drop_succ_cons]
  rw [List.take_append, List.drop_append, w8, Nat.add_sub_cancel_left, Nat.add_sub_cancel_left, List.take_of_length_le (l := wcells S) (by omega), List.drop_of_length_le (l := wcells S) (by omega)]
  rw [List.take_append_of_le_length (by rw [byteCells_length]; omega), List.drop_append_of_le_length (by rw [byteCells_length]; omega), ← e]
  simp only [List.cons_append, List.append_assoc, List.nil_append]
end

/-- a hash lies in block g -/
def HashAt (w : World) (g size : Nat) (S : List Nat) (b : Nat → Nat) (filled count : Nat) : Prop := Whole w g 41 (hashCells size S b filled count).toArray

section
variable {w : World} {g size : Nat} {S : List Nat} {b : Nat → Nat} {filled count : Nat}
theorem HashAt.lt (h : HashAt w g size S b filled count) : g < w.heap.size := Whole.lt h
theorem HashAt.cell_size (h : HashAt w g size S b filled count) : w.cell? ⟨g, 0, none⟩ = some (.int .i64 size) := by
  rw [Whole.cell h]
  rfl
theorem HashAt.cell_sum (h : HashAt w g size S b filled count) (hS : S.length = 8) (i : Nat) (hi : i < 8) : w.cell? ⟨g, 1 + i, none⟩ = some (.int .u32 (S.getD i 0 : Nat)) := by
  rw [Whole.cell h, List.getElem?_toArray, hash_sum hS _ _ _ _ _ hi]
theorem HashAt.cell_block (h : HashAt w g size S b filled count) (hS : S.length = 8) (i : Nat) (hi : i < 64) : w.cell? ⟨g, 9 + i, none⟩ = some (.int .u8 (b i : Nat)) := by
  rw [Whole.cell h, List.getElem?_toArray, hash_block hS _ _ _ _ _ hi]
theorem HashAt.cell_filled (h : HashAt w g size S b filled count) (hS : S.length = 8) : w.cell? ⟨g, 73, none⟩ = some (.int .i64 filled) := by
  rw [Whole.cell h, List.getElem?_toArray, hash_filled hS]
theorem HashAt.cell_count (h : HashAt w g size S b filled count) (hS : S.length = 8) : w.cell? ⟨g, 74, none⟩ = some (.int .u64 count) := by
  rw [Whole.cell h, List.getElem?_toArray, hash_count hS]
theorem HashAt.free (h : HashAt w g size S b filled count) (i : Nat) : w.frozen? ⟨g, i, none⟩ = false := Whole.free h i
theorem HashAt.set_sum (h : HashAt w g size S b filled count) (hS : S.length = 8) (i v : Nat) (hi : i < 8) : HashAt (w.setCell ⟨g, 1 + i, none⟩ (.int .u32 (v : Nat))) g size (S.set i v) b filled count := by
  have := Whole.put h (1 + i) (.int .u32 (v : Nat))
  rwa [hash_set_sum hS _ _ _ _ _ _ hi] at this
theorem HashAt.set_filled (h : HashAt w g size S b filled count) (hS : S.length = 8) (v : Nat) : HashAt (w.setCell ⟨g, 73, none⟩ (.int .i64 (v : Nat))) g size S b v count := by
  have := Whole.put h 73 (.int .i64 (v : Nat))
  rwa [hash_set_filled hS] at this
theorem HashAt.set_count (h : HashAt w g size S b filled count) (hS : S.length = 8) (v : Nat) : HashAt (w.setCell ⟨g, 74, none⟩ (.int .u64 (v : Nat))) g size S b filled v := by
  have := Whole.put h 74 (.int .u64 (v : Nat))
  rwa [hash_set_count hS] at this
theorem HashAt.below {B : Nat} {w' : World} (h : HashAt w g size S b filled count) (hb : Below B w w') (hg : g < B) : HashAt w' g size S b filled count := Whole.below h hb hg
theorem HashAt.drew (h : HashAt w g size S b filled count) : HashAt w.drew g size S b filled count := h
theorem HashAt.grown {w' : World} {k : Nat} (h : HashAt w g size S b filled count) (hb : w.grownBy w' (some k)) (hg : g ≠ k) : HashAt w' g size S b filled count := (hb.block g (Whole.lt h) (by simpa using hg)).trans h
theorem HashAt.range (h : HashAt w g size S b filled count) (hS : S.length = 8) : w.rangeAt g 9 (byteCells b 64) := by
  intro j v hj
  have hj' : j < 64 := by
    rcases Nat.lt_or_ge j 64 with k | k
    · exact k
    · rw [List.getElem?_eq_none (by rw [byteCells_length]; exact k)] at hj
      cases hj
  rw [h.cell_block hS j hj', ← hj, byteCells_get b 64 j hj']
theorem HashAt.there (h : HashAt w g size S b filled count) (hS : S.length = 8) : w.there g 9 64 := fun j hj => by
  rw [h.cell_block hS j hj]
  exact ⟨rfl, h.free _⟩
theorem hash_puts (hS : S.length = 8) (F : Nat → Nat) : ∀ (m s o : Nat) (w : World) (b : Nat → Nat), HashAt w g size S b filled count → o + m ≤ 64 →
    HashAt (w.setCells g (9 + o) ((List.range' s m).map fun i => .int .u8 (F i : Nat))) g size S (fun i => if o ≤ i ∧ i < o + m then F (i - o + s) else b i) filled count
  | 0, s, o, w, b, h, _ => by
    rw [show (fun i => if o ≤ i ∧ i < o + 0 then F (i - o + s) else b i) = b from funext fun i => if_neg (by omega)]
    exact h
  | m + 1, s, o, w, b, h, hm => by
    rw [List.range'_succ, List.map_cons, World.setCells]
    have h1 := Whole.put h (9 + o) (.int .u8 (F s : Nat))
    rw [hash_set_block hS _ _ _ _ _ _ (by omega)] at h1
    have h2 := hash_puts hS F m (s + 1) (o + 1) _ _ h1 (by omega)
    rw [show (fun i => if o ≤ i ∧ i < o + (m + 1) then F (i - o + s) else b i) = (fun i => if o + 1 ≤ i ∧ i < o + 1 + m then F (i - (o + 1) + (s + 1)) else if i = o then F s else b i) from funext fun i => by
      by_cases e : i = o
      · subst e
        rw [if_pos (by omega), if_neg (by omega), if_pos rfl, Nat.sub_self, Nat.zero_add]
      · by_cases l : o + 1 ≤ i ∧ i < o + 1 + m
        · rw [if_pos l, if_pos (by omega)]
          congr 1
          omega
        · rw [if_neg l, if_neg e, if_neg (by omega)]]
    exact h2
theorem HashAt.puts (h : HashAt w g size S b filled count) (hS : S.length = 8) (F : Nat → Nat) : HashAt (w.setCells g 9 (byteCells F 64)) g size S F filled count := by
  have h1 := hash_puts hS F 64 0 0 w b h (by omega)
  rw [← List.range_eq_range'] at h1
  have e : hashCells size S (fun i => if 0 ≤ i ∧ i < 0 + 64 then F (i - 0 + 0) else b i) filled count = hashCells size S F filled count := by
    unfold hashCells
    rw [byteCells_congr (f := fun i => if 0 ≤ i ∧ i < 0 + 64 then F (i - 0 + 0) else b i) (g := F) (n := 64) fun i hi => by rw [if_pos (by omega)]; rfl]
  unfold HashAt at h1 ⊢
  rw [e] at h1
  exact h1
theorem HashAt.congr {f : Nat → Nat} (h : HashAt w g size S b filled count) (e : ∀ i, i < 64 → b i = f i) : HashAt w g size S f filled count := by
  unfold HashAt hashCells at h ⊢
  rwa [← byteCells_congr e]
end

theorem grown_puts (g : Nat) : ∀ (vs : List Value) (o : Nat) (w : World), w.grownBy (w.setCells g o vs) (some g)
  | [], _, _ => World.grownBy.refl _ _
  | v :: r, o, w => grown_trans (grown_set w g o v) (grown_puts g r (o + 1) _)

theorem wpList_built0 {P : Program} {ops : Array Oper} {rest : List Oper} {o : Oper} {a : Act} {w : World} {Q : Exit → Act → World → Prop} (hg : o.guard = none) (t : TypeId) (ho : o.op = .build t #[])
    (vs : Array Value) (hb : P.built t [] = some vs) (h : wpList P ops Q rest (a.put o.dst (.agg vs)) w) : wpList P ops Q (o :: rest) a w := by
  have e : P.built t ((#[] : Array (Nat × Operand)).map fun (i, x) => (i, a.eval x)).toList = some vs := by simpa using hb
  refine wpList_build hg t #[] ho (by rw [e]; rfl) ?_
  rw [e]
  exact h
theorem wpList_built1 {P : Program} {ops : Array Oper} {rest : List Oper} {o : Oper} {a : Act} {w : World} {Q : Exit → Act → World → Prop} (hg : o.guard = none) (t : TypeId) (k : Nat) (x : Operand) (ho : o.op = .build t #[(k, x)])
    (v : Value) (hx : a.eval x = v) (vs : Array Value) (hb : P.built t [(k, v)] = some vs) (h : wpList P ops Q rest (a.put o.dst (.agg vs)) w) : wpList P ops Q (o :: rest) a w := by
  have e : P.built t ((#[(k, x)] : Array (Nat × Operand)).map fun (i, x) => (i, a.eval x)).toList = some vs := by simpa [hx] using hb
  refine wpList_build hg t #[(k, x)] ho (by rw [e]; rfl) ?_
  rw [e]
  exact h

end Blake
end Go.Proofs.YtcoppcididemkaaDoor
