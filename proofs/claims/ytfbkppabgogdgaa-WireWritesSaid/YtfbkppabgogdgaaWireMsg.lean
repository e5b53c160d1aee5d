/- Messages as rows of cells: their numbers, and the bytes behind them. -/
import Derived.Test.YtfbkppabgogdgaaWirePut
import Derived.Test.YtfbkppabgogdgaaWireKind
namespace Go.Proofs.Ytfbkppabgogdgaa
namespace Wire
open Go.ChangeShapes Go.WideShapes Go.ChangeAt Go.RowKit
open Num Mem Words Ref Cuts Chacha Quiet

/-- a message of one number, of two; n bytes behind them -/
def one (s : Nat) (g : Nat → Nat) (n : Nat) : List Value := [.int .u32 (s : Nat)] ++ byteCells g n
def two (s r : Nat) (g : Nat → Nat) (n : Nat) : List Value := [.int .u32 (s : Nat), .int .u32 (r : Nat)] ++ byteCells g n
theorem one_length (s : Nat) (g : Nat → Nat) (n : Nat) : (one s g n).length = n + 1 := by simp [one, byteCells_length]
theorem two_length (s r : Nat) (g : Nat → Nat) (n : Nat) : (two s r g n).length = n + 2 := by simp [two, byteCells_length]
theorem cells_one (l : List Value) (h : ∀ v ∈ l, v.oneCell' = true) : l.toArray.all (·.oneCell') = true := by
  rw [List.all_toArray, List.all_eq_true]
  exact h
theorem one_one (s : Nat) (g : Nat → Nat) (n : Nat) : (one s g n).toArray.all (·.oneCell') = true := cells_one _ fun v hv => by
  rcases List.mem_append.1 hv with h | h
  · rw [List.mem_singleton] at h; subst h; rfl
  · exact bytes_each _ _ v h
theorem two_one (s r : Nat) (g : Nat → Nat) (n : Nat) : (two s r g n).toArray.all (·.oneCell') = true := cells_one _ fun v hv => by
  rcases List.mem_append.1 hv with h | h
  · simp at h; rcases h with h | h <;> (subst h; rfl)
  · exact bytes_each _ _ v h

/-- bytes that lie behind other cells -/
theorem rd_tail {w : World} {g t n : Nat} {pre : List Value} {f : Nat → Nat} (h : Whole w g t (pre ++ byteCells f n).toArray) (q o m : Nat) (hq : q = pre.length + o) (hm : o + m ≤ n) : Rd w (some ⟨g, q, none⟩) m (fun i => f (o + i)) := by
  right
  refine ⟨g, q, rfl, h.lt, fun i hi => ?_⟩
  rw [h.cell, List.getElem?_toArray, hq, List.getElem?_append_right (by omega), show pre.length + o + i - pre.length = o + i by omega]
  exact byteCells_get f n (o + i) (by omega)
theorem parts_of {X : World} {h t : Nat} {l : List Part} (hw : Whole X h t (l.map Part.val).toArray) (hp : ∀ p ∈ l, p.m ≤ p.c ∧ Rd X p.A p.m p.f ∧ ∀ i, p.f i < 256) : PartsAt X h 0 l := by
  refine ⟨hw.lt, fun j p hj => ?_, fun j p hj => (hp p (List.mem_of_getElem? hj)).1, fun j p hj => (hp p (List.mem_of_getElem? hj)).2.1, fun j p hj => (hp p (List.mem_of_getElem? hj)).2.2⟩
  rw [hw.cell, List.getElem?_toArray, List.getElem?_map, Nat.zero_add, hj]
  rfl
theorem no_nil {l : List Part} (h : ∀ p ∈ l, p.A ≠ none) : ∀ (j : Nat) (p : Part), l[j]? = some p → p.A = none → p.m = 0 ∧ p.c = 0 := fun _ p hj e => absurd e (h p (List.mem_of_getElem? hj))

theorem cut_post {F : Exit → Act → World → Prop} {e : Exit} {a : Act} {w : World} (R : World → Prop) (hR : R w) (h : ∀ w', R w' → F e a w') : F e a w := h w hR

/-- the bytes of a message of a kind -/
def out1 (k s : Nat) (g : Nat → Nat) (i : Nat) : Nat := if i < 4 then byteAt k i else if i < 8 then byteAt s (i - 4) else g (i - 8)
def out2 (k s r : Nat) (g : Nat → Nat) (i : Nat) : Nat := if i < 4 then byteAt k i else if i < 8 then byteAt s (i - 4) else if i < 12 then byteAt r (i - 8) else g (i - 12)
theorem out1_lt {k s : Nat} {g : Nat → Nat} (hg : ∀ i, g i < 256) (i : Nat) : out1 k s g i < 256 := by
  unfold out1
  (repeat' split) <;> first | exact byteAt_lt _ _ | exact hg _
theorem out2_lt {k s r : Nat} {g : Nat → Nat} (hg : ∀ i, g i < 256) (i : Nat) : out2 k s r g i < 256 := by
  unfold out2
  (repeat' split) <;> first | exact byteAt_lt _ _ | exact hg _

end Wire
end Go.Proofs.Ytfbkppabgogdgaa
