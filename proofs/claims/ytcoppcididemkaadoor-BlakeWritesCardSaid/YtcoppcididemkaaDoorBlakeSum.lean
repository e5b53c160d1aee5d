/- BLAKE2s by definition: what a block is taken in as, all blocks ahead of the last one, and the sum of a text; nothing of the program. -/
import Derived.Test.YtcoppcididemkaaDoorBlakeNum
import Derived.Test.YtcoppcididemkaaDoorWordsTwo
namespace Go.Proofs.YtcoppcididemkaaDoor
namespace Blake
open Num State Words

/-- the numbers of a block that begins at place p -/
def numsOf (f : Nat → Nat) (p : Nat) : List Nat := (List.range 16).map fun i => le f (p + 4 * i) 4
theorem numsOf_length (f : Nat → Nat) (p : Nat) : (numsOf f p).length = 16 := by simp [numsOf]
theorem numsOf_congr {f g : Nat → Nat} {p q : Nat} (h : ∀ i, i < 64 → f (p + i) = g (q + i)) : numsOf f p = numsOf g q := by
  unfold numsOf
  refine List.map_congr_left fun i hi => le_congr 4 fun j hj => ?_
  have := List.mem_range.1 hi
  rw [Nat.add_assoc, Nat.add_assoc]
  exact h _ (by omega)

def roundsL (m s : List Nat) : Nat → List Nat := upto (fun s k => roundL k m s) s
def startL (S : List Nat) (c : Nat) (last : Bool) : List Nat := S ++ [1779033703, 3144134277, 1013904242, 2773480762, 1359893119 ^^^ (c % 4294967296), 2600822924 ^^^ (c / 4294967296), if last then 3766232660 else 528734635, 1541459225]
def foldL (S v : List Nat) : List Nat := (List.range 8).map fun i => S.getD i 0 ^^^ (v.getD i 0 ^^^ v.getD (8 + i) 0)
def takeL (S m : List Nat) (c : Nat) (last : Bool) : List Nat := foldL S (roundsL m (startL S c last) 10)

theorem roundL_length (n : Nat) (m s : List Nat) : (roundL n m s).length = s.length := by unfold roundL; rw [upto_slant_length, upto_col_length]
theorem roundL_fits {s : List Nat} (n : Nat) (m : List Nat) (h : Fits s) : Fits (roundL n m s) := upto_slant_fits n m (upto_col_fits n m h 4) 4
theorem upto_zero (f : List Nat → Nat → List Nat) (s : List Nat) : upto f s 0 = s := rfl
theorem upto_succ (f : List Nat → Nat → List Nat) (s : List Nat) (k : Nat) : upto f s (k + 1) = f (upto f s k) k := rfl
theorem roundsL_zero (m s : List Nat) : roundsL m s 0 = s := by
  unfold roundsL
  rw [upto_zero]
theorem roundsL_succ (m s : List Nat) (k : Nat) : roundsL m s (k + 1) = roundL k m (roundsL m s k) := by
  unfold roundsL
  rw [upto_succ]
theorem roundsL_length (m s : List Nat) (k : Nat) : (roundsL m s k).length = s.length := by
  induction k with
  | zero => rw [roundsL_zero]
  | succ k ih => rw [roundsL_succ, roundL_length, ih]
theorem roundsL_fits {s : List Nat} (m : List Nat) (h : Fits s) (k : Nat) : Fits (roundsL m s k) := by
  induction k with
  | zero => rw [roundsL_zero]; exact h
  | succ k ih => rw [roundsL_succ]; exact roundL_fits k m ih
theorem takeL_length (S m : List Nat) (c : Nat) (last : Bool) : (takeL S m c last).length = 8 := by simp [takeL, foldL]
theorem startL_length {S : List Nat} (h : S.length = 8) (c : Nat) (last : Bool) : (startL S c last).length = 16 := by simp [startL, h]

theorem fits_of {s : List Nat} (h : ∀ x ∈ s, x < 2 ^ 32) : Fits s := by
  intro i
  by_cases hi : i < s.length
  · rw [List.getD, List.getElem?_eq_getElem hi]
    exact h _ (List.getElem_mem hi)
  · rw [List.getD, List.getElem?_eq_none (Nat.le_of_not_lt hi)]
    exact (by decide : 0 < 4294967296)
theorem fits_mem {s : List Nat} (h : Fits s) (x : Nat) (hx : x ∈ s) : x < 2 ^ 32 := by
  obtain ⟨i, hi, rfl⟩ := List.getElem_of_mem hx
  have := h i
  rwa [List.getD, List.getElem?_eq_getElem hi] at this
theorem startL_fits {S : List Nat} (h : Fits S) (c : Nat) (hc : c < 18446744073709551616) (last : Bool) : Fits (startL S c last) := by
  refine fits_of fun x hx => ?_
  unfold startL at hx
  rcases List.mem_append.1 hx with hx | hx
  · exact fits_mem h x hx
  · have h1 : 1359893119 ^^^ (c % 4294967296) < 2 ^ 32 := Nat.xor_lt_two_pow (by omega) (by omega)
    have h2 : 2600822924 ^^^ (c / 4294967296) < 2 ^ 32 := Nat.xor_lt_two_pow (by omega) (by omega)
    simp only [List.mem_cons, List.not_mem_nil, or_false] at hx
    rcases hx with rfl | rfl | rfl | rfl | rfl | rfl | rfl | rfl
    · omega
    · omega
    · omega
    · omega
    · exact h1
    · exact h2
    · split <;> omega
    · omega
theorem foldL_fits {S v : List Nat} (h : Fits S) (k : Fits v) : Fits (foldL S v) := by
  refine fits_of fun x hx => ?_
  unfold foldL at hx
  obtain ⟨i, _, rfl⟩ := List.mem_map.1 hx
  exact Nat.xor_lt_two_pow (h i) (Nat.xor_lt_two_pow (k i) (k (8 + i)))
theorem takeL_fits {S : List Nat} (h : Fits S) (m : List Nat) (c : Nat) (hc : c < 18446744073709551616) (last : Bool) : Fits (takeL S m c last) :=
  foldL_fits h (roundsL_fits m (startL_fits h c hc last) 10)

/-- the sum of the first k blocks, none of them the last -/
def blocks (S : List Nat) (f : Nat → Nat) : Nat → List Nat
  | 0 => S
  | k + 1 => takeL (blocks S f k) (numsOf f (64 * k)) (64 * (k + 1)) false
theorem blocks_length {S : List Nat} (h : S.length = 8) (f : Nat → Nat) : ∀ k, (blocks S f k).length = 8
  | 0 => h
  | _ + 1 => takeL_length ..
theorem blocks_fits {S : List Nat} (h : Fits S) (f : Nat → Nat) : ∀ k, 64 * k < 18446744073709551616 → Fits (blocks S f k)
  | 0, _ => h
  | k + 1, hk => takeL_fits (blocks_fits h f k (by omega)) _ _ hk _
theorem blocks_congr {S : List Nat} {f g : Nat → Nat} : ∀ k, (∀ i, i < 64 * k → f i = g i) → blocks S f k = blocks S g k
  | 0, _ => rfl
  | k + 1, h => by
    unfold blocks
    rw [blocks_congr k (fun i hi => h i (by omega)), numsOf_congr (f := f) (g := g) (p := 64 * k) (q := 64 * k) (fun i hi => h _ (by omega))]

/-- how many blocks of n bytes are ahead of the last one -/
def ahead (n : Nat) : Nat := (n - 1) / 64
/-- n bytes, and noughts behind them -/
def upTo (f : Nat → Nat) (n i : Nat) : Nat := if i < n then f i else 0
def finalL (S : List Nat) (f : Nat → Nat) (n : Nat) : List Nat := takeL (blocks S f (ahead n)) (numsOf (upTo f n) (64 * ahead n)) n true
theorem finalL_congr {S : List Nat} {f g : Nat → Nat} {n : Nat} (h : ∀ i, i < n → f i = g i) : finalL S f n = finalL S g n := by
  unfold finalL
  rw [blocks_congr (f := f) (g := g) (ahead n) (fun i hi => h i (by unfold ahead at hi; omega)), numsOf_congr (f := upTo f n) (g := upTo g n) (p := 64 * ahead n) (q := 64 * ahead n) (fun i hi => by
    unfold upTo
    split
    · exact h _ (by assumption)
    · rfl)]
theorem finalL_length (S : List Nat) (f : Nat → Nat) (n : Nat) : (finalL S f n).length = 8 := takeL_length ..
theorem finalL_fits {S : List Nat} (h : Fits S) (f : Nat → Nat) (n : Nat) (hn : n < 18446744073709551616) : Fits (finalL S f n) :=
  takeL_fits (blocks_fits h f _ (by unfold ahead; omega)) _ _ hn _

/-- the numbers that a sum of a size, with a key of k bytes, begins with -/
def firstL (size k : Nat) : List Nat := eight.set 0 (1779033703 ^^^ (16842752 + 256 * k + size))
theorem firstL_length (size k : Nat) : (firstL size k).length = 8 := by simp [firstL, eight]
theorem eight_fits : Fits eight := fits_of (by decide)
theorem firstL_fits (size k : Nat) (hs : size ≤ 32) (hk : k ≤ 32) : Fits (firstL size k) := eight_fits.set _ _ (Nat.xor_lt_two_pow (n := 32) (by omega) (by omega))

/-- what is summed: a key that is filled up to a block, if there is one, and the text behind it -/
def withKey (key : Nat → Nat) (k : Nat) (f : Nat → Nat) (i : Nat) : Nat := if k = 0 then f i else if i < 64 then upTo key k i else f (i - 64)
def keyLen (k : Nat) : Nat := if k = 0 then 0 else 64
/-- byte i of a sum -/
def sumAt (S : List Nat) (i : Nat) : Nat := byteAt (S.getD (i / 4) 0) (i % 4)
theorem sumAt_lt (S : List Nat) (i : Nat) : sumAt S i < 256 := byteAt_lt _ _
def digest (size : Nat) (key : Nat → Nat) (k : Nat) (f : Nat → Nat) (n : Nat) : Nat → Nat := sumAt (finalL (firstL size k) (withKey key k f) (keyLen k + n))
theorem withKey_congr {key key' f f' : Nat → Nat} {k n : Nat} (hk : ∀ i, i < k → key i = key' i) (hf : ∀ i, i < n → f i = f' i) (i : Nat) (hi : i < keyLen k + n) : withKey key k f i = withKey key' k f' i := by
  unfold withKey upTo
  unfold keyLen at hi
  by_cases e : k = 0
  · rw [if_pos e, if_pos e]
    rw [if_pos e] at hi
    exact hf i (by omega)
  · rw [if_neg e, if_neg e]
    rw [if_neg e] at hi
    by_cases l : i < 64
    · rw [if_pos l, if_pos l]
      by_cases l2 : i < k
      · rw [if_pos l2, if_pos l2]
        exact hk i l2
      · rw [if_neg l2, if_neg l2]
    · rw [if_neg l, if_neg l]
      exact hf _ (by omega)
theorem digest_congr {size : Nat} {key key' f f' : Nat → Nat} {k n : Nat} (hk : ∀ i, i < k → key i = key' i) (hf : ∀ i, i < n → f i = f' i) : digest size key k f n = digest size key' k f' n := by
  unfold digest
  rw [finalL_congr (withKey_congr hk hf)]
theorem digest_lt (size : Nat) (key : Nat → Nat) (k : Nat) (f : Nat → Nat) (n i : Nat) : digest size key k f n i < 256 := sumAt_lt _ _

/-- the cells of a hash -/
def hashCells (size : Nat) (S : List Nat) (b : Nat → Nat) (filled count : Nat) : List Value :=
  .int .i64 size :: (wcells S ++ (Mem.byteCells b 64 ++ [.int .i64 filled, .int .u64 count]))
theorem hashCells_length {S : List Nat} (h : S.length = 8) (size : Nat) (b : Nat → Nat) (filled count : Nat) : (hashCells size S b filled count).length = 75 := by
  simp [hashCells, Mem.byteCells_length, wcells, h]

end Blake
end Go.Proofs.YtcoppcididemkaaDoor
