/- ChaCha20 as plain arithmetic on rows of sixteen numbers: a turn, a quarter, a round of two, the first state, a block. Nothing of the program. -/
import Derived.Test.YtcoppcididemkaaDoorNum
import Derived.Test.YtcoppcididemkaaDoorMem
namespace Go.Proofs.YtcoppcididemkaaDoor
namespace State
open Num

def M : Nat := 4294967296

/-- the number at place 'to' grows by that at 'from_', the one at 'by_' is xor'ed with it and turned by n -/
def turn (s : List Nat) (to from_ by_ n : Nat) : List Nat :=
  let x := (s.getD to 0 + s.getD from_ 0) % 4294967296
  let t := s.set to x
  t.set by_ (rotl (t.getD by_ 0 ^^^ t.getD to 0) n)

def quarter (s : List Nat) (a b c d : Nat) : List Nat := turn (turn (turn (turn s a b d 16) c d b 12) a b d 8) c d b 7

def two (s : List Nat) : List Nat :=
  quarter (quarter (quarter (quarter (quarter (quarter (quarter (quarter s 0 4 8 12) 1 5 9 13) 2 6 10 14) 3 7 11 15) 0 5 10 15) 1 6 11 12) 2 7 8 13) 3 4 9 14

def rounds : Nat → List Nat → List Nat
  | 0, s => s
  | k + 1, s => two (rounds k s)

def stir (s : List Nat) : List Nat := rounds 10 s

/-- k numbers of four bytes each, from place p on -/
def nums (f : Nat → Nat) (p k : Nat) : List Nat := (List.range k).map fun i => le f (p + 4 * i) 4

def first (key : Nat → Nat) (four : List Nat) : List Nat := [1634760805, 857760878, 2036477234, 1797285236] ++ nums key 0 8 ++ four

/-- a row of numbers below 2^32 -/
def Fits (s : List Nat) : Prop := ∀ i, s.getD i 0 < 4294967296

theorem getD_set (s : List Nat) (i j v : Nat) (hi : i < s.length) : (s.set i v).getD j 0 = if j = i then v else s.getD j 0 := by
  simp only [List.getD_eq_getElem?_getD, List.getElem?_set]
  by_cases h : i = j
  · subst h
    simp [hi]
  · have h' : ¬ j = i := fun e => h e.symm
    simp [h, h']

theorem Fits.set {s : List Nat} (h : Fits s) (i v : Nat) (hv : v < 4294967296) : Fits (s.set i v) := by
  intro j
  by_cases hi : i < s.length
  · rw [getD_set s i j v hi]
    split
    · exact hv
    · exact h j
  · rw [List.set_eq_of_length_le (by omega)]
    exact h j

theorem turn_length (s : List Nat) (a b c n : Nat) : (turn s a b c n).length = s.length := by simp [turn]
theorem turn_fits {s : List Nat} (h : Fits s) (a b c n : Nat) (hn : n ≤ 31) : Fits (turn s a b c n) := by
  unfold turn
  have h1 : Fits (s.set a ((s.getD a 0 + s.getD b 0) % 4294967296)) := h.set _ _ (Nat.mod_lt _ (by omega))
  exact h1.set _ _ (rotl_lt _ _ (Nat.xor_lt_two_pow (h1 _) (h1 _)) hn)
theorem quarter_length (s : List Nat) (a b c d : Nat) : (quarter s a b c d).length = s.length := by simp [quarter, turn_length]
theorem quarter_fits {s : List Nat} (h : Fits s) (a b c d : Nat) : Fits (quarter s a b c d) :=
  turn_fits (turn_fits (turn_fits (turn_fits h _ _ _ _ (by omega)) _ _ _ _ (by omega)) _ _ _ _ (by omega)) _ _ _ _ (by omega)
theorem two_length (s : List Nat) : (two s).length = s.length := by simp [two, quarter_length]
theorem two_fits {s : List Nat} (h : Fits s) : Fits (two s) :=
  quarter_fits (quarter_fits (quarter_fits (quarter_fits (quarter_fits (quarter_fits (quarter_fits (quarter_fits h _ _ _ _) _ _ _ _) _ _ _ _) _ _ _ _) _ _ _ _) _ _ _ _) _ _ _ _) _ _ _ _
theorem rounds_length (k : Nat) (s : List Nat) : (rounds k s).length = s.length := by
  induction k with
  | zero => rfl
  | succ k ih => rw [rounds, two_length, ih]
theorem rounds_fits (k : Nat) {s : List Nat} (h : Fits s) : Fits (rounds k s) := by
  induction k with
  | zero => exact h
  | succ k ih => exact two_fits ih

/-- the cells of a row of numbers -/
def wcells (s : List Nat) : List Value := s.map fun x => .int .u32 (x : Nat)
theorem wcells_length (s : List Nat) : (wcells s).length = s.length := by simp [wcells]
theorem wcells_get (s : List Nat) (i : Nat) (h : i < s.length) : (wcells s)[i]? = some (.int .u32 (s.getD i 0 : Nat)) := by
  simp [wcells, h, List.getD]
theorem wcells_set (s : List Nat) (i v : Nat) : (wcells s).toArray.setIfInBounds i (.int .u32 (v : Nat)) = (wcells (s.set i v)).toArray := by
  simp [wcells, List.map_set]

end State
end Go.Proofs.YtcoppcididemkaaDoor
