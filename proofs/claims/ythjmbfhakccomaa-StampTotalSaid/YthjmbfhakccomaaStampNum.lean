/- Numbers of layer 9 (stamp): a time's label as a function of the place, what a label tells, and how rows of bytes stand. Nothing of the program. -/
import Derived.Test.YthjmbfhakccomaaWordsTwo
import Derived.Test.YthjmbfhakccomaaStr
import Derived.Lib.Strings
namespace Go.Proofs.Ythjmbfhakccomaa
namespace Stamp
open Num Mem Words

theorem byteAt_le (f : Nat → Nat) (hf : ∀ i, f i < 256) (k i : Nat) (h : i < k) : byteAt (le f 0 k) i = f i := by
  induction k with
  | zero => omega
  | succ k ih =>
    unfold byteAt at ih ⊢
    rw [show le f 0 (k + 1) = le f 0 k + f (0 + k) * 2 ^ (8 * k) from rfl, Nat.zero_add]
    by_cases e : i = k
    · subst e
      rw [Nat.add_mul_div_right _ _ (Nat.pow_pos (by omega)), Nat.div_eq_of_lt (le_lt hf 0 i), Nat.zero_add, Nat.mod_eq_of_lt (hf i)]
    · have hik : i < k := by omega
      rw [← ih hik]
      have e2 : 8 * k = 8 * i + (8 + 8 * (k - i - 1)) := by omega
      rw [e2, Nat.pow_add, Nat.mul_left_comm, Nat.add_mul_div_left _ _ (Nat.pow_pos (by omega)), Nat.pow_add, show (2 : Nat) ^ 8 = 256 from rfl, Nat.mul_left_comm, Nat.add_mul_mod_self_left]

theorem byteAt_be (f : Nat → Nat) (hf : ∀ i, f i < 256) (p k i : Nat) (h : i < k) : byteAt (be f p k) (k - 1 - i) = f (p + i) := by
  rw [be_le, byteAt_le _ (fun j => hf _) k _ (by omega)]
  congr 1
  omega

theorem be_inj (f g : Nat → Nat) (hf : ∀ i, f i < 256) (hg : ∀ i, g i < 256) (p k : Nat) (h : be f p k = be g p k) (i : Nat) (hi : i < k) : f (p + i) = g (p + i) := by
  rw [← byteAt_be f hf p k i hi, ← byteAt_be g hg p k i hi, h]

/-- what a label's bytes tell as one number -/
def whole (f : Nat → Nat) : Nat := be f 0 12

theorem be_add (f : Nat → Nat) (p a b : Nat) : be f p (a + b) = be f p a * 2 ^ (8 * b) + be f (p + a) b := by
  induction b with
  | zero => simp [be]
  | succ b ih =>
    rw [← Nat.add_assoc, show be f p (a + b + 1) = be f p (a + b) * 256 + f (p + (a + b)) from rfl, ih,
      show be f (p + a) (b + 1) = be f (p + a) b * 256 + f (p + a + b) from rfl, pow8_succ, Nat.add_mul, Nat.mul_assoc, Nat.mul_comm (2 ^ (8 * b)) 256,
      Nat.add_assoc p a b]
    omega

theorem whole_eq (f : Nat → Nat) : whole f = be f 0 8 * 4294967296 + be f 8 4 := by
  unfold whole
  rw [show (12 : Nat) = 8 + 4 from rfl, be_add]

theorem whole_inj (f g : Nat → Nat) (hf : ∀ i, f i < 256) (hg : ∀ i, g i < 256) : whole f = whole g ↔ ∀ i, i < 12 → f i = g i := by
  constructor
  · intro h i hi
    have := be_inj f g hf hg 0 12 h i hi
    rwa [Nat.zero_add] at this
  · intro h
    exact be_congr 12 fun i hi => by rw [Nat.zero_add]; exact h i hi

/-- where two rows part, the greater byte makes the greater number -/
theorem be_part (f g : Nat → Nat) (hg : ∀ i, g i < 256) (p k n : Nat) (hk : k < n) (e : be f p k = be g p k) (h : g (p + k) < f (p + k)) : be g p n < be f p n := by
  obtain ⟨m, rfl⟩ : ∃ m, n = (k + 1) + m := ⟨n - (k + 1), by omega⟩
  rw [be_add g p (k + 1) m, be_add f p (k + 1) m, show be f p (k + 1) = be f p k * 256 + f (p + k) from rfl, show be g p (k + 1) = be g p k * 256 + g (p + k) from rfl, e]
  have h1 := be_lt hg (p + (k + 1)) m
  generalize be g (p + (k + 1)) m = z at h1 ⊢
  generalize be f (p + (k + 1)) m = y
  generalize be g p k * 256 = x
  generalize 2 ^ (8 * m) = P at h1 ⊢
  have h2 : (x + g (p + k) + 1) * P ≤ (x + f (p + k)) * P := Nat.mul_le_mul_right _ (by omega)
  rw [Nat.add_mul (x + g (p + k)), Nat.one_mul] at h2
  omega

/-- how strings of as many bytes stand -/
theorem less_be (f g : Nat → Nat) (hf : ∀ i, f i < 256) (hg : ∀ i, g i < 256) (n : Nat) : ∀ p, Op.bytesLess ((List.range' p n).map fun i => UInt8.ofNat (f i)) ((List.range' p n).map fun i => UInt8.ofNat (g i)) = decide (be f p n < be g p n) := by
  induction n with
  | zero =>
    intro p
    simp [Op.bytesLess, be]
  | succ n ih =>
    intro p
    rw [List.range'_succ, List.map_cons, List.map_cons]
    rw [show ∀ (a b : UInt8) (x y : List UInt8), Op.bytesLess (a :: x) (b :: y) = (decide (a < b) || (a == b && Op.bytesLess x y)) from fun _ _ _ _ => rfl]
    rw [ih (p + 1), be_step, be_step]
    have h1 := be_lt hf (p + 1) n
    have h2 := be_lt hg (p + 1) n
    have e1 : (UInt8.ofNat (f p) < UInt8.ofNat (g p)) ↔ f p < g p := by
      rw [UInt8.lt_iff_toNat_lt, UInt8.toNat_ofNat', UInt8.toNat_ofNat', Nat.mod_eq_of_lt (hf p), Nat.mod_eq_of_lt (hg p)]
    have e2 : (UInt8.ofNat (f p) = UInt8.ofNat (g p)) ↔ f p = g p := by
      rw [← UInt8.toNat_inj, UInt8.toNat_ofNat', UInt8.toNat_ofNat', Nat.mod_eq_of_lt (hf p), Nat.mod_eq_of_lt (hg p)]
    generalize 2 ^ (8 * n) = P at h1 h2 ⊢
    rw [Bool.eq_iff_iff]
    simp only [Bool.or_eq_true, Bool.and_eq_true, decide_eq_true_eq, beq_iff_eq, e1, e2]
    generalize be f (p + 1) n = y at h1 ⊢
    generalize be g (p + 1) n = z at h2 ⊢
    rcases Nat.lt_trichotomy (f p) (g p) with h | h | h
    · have : (f p + 1) * P ≤ g p * P := Nat.mul_le_mul_right _ (by omega)
      rw [Nat.add_mul, Nat.one_mul] at this
      omega
    · rw [h]
      omega
    · have : (g p + 1) * P ≤ f p * P := Nat.mul_le_mul_right _ (by omega)
      rw [Nat.add_mul, Nat.one_mul] at this
      omega

theorem strOf_list (f : Nat → Nat) (n : Nat) : (strOf f n).toList = (List.range' 0 n).map fun i => UInt8.ofNat (f i) := by
  rw [ByteArray.toList_eq]
  simp [strOf, List.range_eq_range']

theorem strings_beq (s t : ByteArray) : (s.toList == t.toList) = decide (s = t) := by
  rw [ByteArray.toList_eq, ByteArray.toList_eq]
  rcases s with ⟨a⟩
  rcases t with ⟨b⟩
  rw [Bool.eq_iff_iff, beq_iff_eq, decide_eq_true_eq]
  constructor
  · intro h
    congr 1
    exact Array.toList_inj.1 h
  · intro h
    rw [ByteArray.mk.injEq] at h
    rw [h]

/-- 'a > b' of two strings of as many bytes -/
theorem gtr_be (f g : Nat → Nat) (hf : ∀ i, f i < 256) (hg : ∀ i, g i < 256) (n : Nat) : (!(Op.bytesLess (strOf f n).toList (strOf g n).toList || (strOf f n).toList == (strOf g n).toList)) = decide (be g 0 n < be f 0 n) := by
  rw [strings_beq, strOf_list, strOf_list, less_be f g hf hg]
  have e : strOf f n = strOf g n ↔ be f 0 n = be g 0 n := by
    rw [strOf_eq_iff hf hg]
    constructor
    · rintro ⟨_, h⟩
      exact be_congr n fun i hi => by rw [Nat.zero_add]; exact h i hi
    · intro h
      refine ⟨rfl, fun i hi => ?_⟩
      have := be_inj f g hf hg 0 n h i hi
      rwa [Nat.zero_add] at this
  rw [Bool.eq_iff_iff]
  simp only [Bool.not_eq_true', Bool.or_eq_false_iff, decide_eq_false_iff_not, decide_eq_true_eq, e]
  omega

/-! ### labels -/
/-- the seconds that a label tells, and what it tells of the milliseconds left -/
def secs (t : Nat) : Nat := 4611686018427387914 + t / 1000
def left (t : Nat) : Nat := t % 1000 * 1000000

def label (t i : Nat) : Nat := if i < 8 then byteAt (secs t) (7 - i) else byteAt (left t) (11 - i)
theorem label_lt (t i : Nat) : label t i < 256 := by
  unfold label
  split <;> exact byteAt_lt _ _

theorem label_secs (t : Nat) (h : t ≤ 1099511627776) : be (label t) 0 8 = secs t := by
  rw [be_congr (f := label t) (g := fun i => byteAt (secs t) (8 - 1 - i)) (p := 0) (q := 0) 8 (fun i hi => by
    unfold label
    rw [if_pos (by omega)])]
  exact be_byteAt _ 8 (by unfold secs; omega)

theorem label_left (t : Nat) : be (label t) 8 4 = left t := by
  rw [be_congr (f := label t) (g := fun i => byteAt (left t) (4 - 1 - i)) (p := 8) (q := 0) 4 (fun i hi => by
    unfold label
    rw [if_neg (by omega)]
    congr 1
    omega)]
  exact be_byteAt _ 4 (by unfold left; omega)

/-- the answer of a writing: the label, or noughts and the error's number -/
def right (t : Int) : Prop := 0 ≤ t ∧ t ≤ 1099511627776
instance (t : Int) : Decidable (right t) := by unfold right; exact inferInstance
def wF (t : Int) (i : Nat) : Nat := if right t then label t.toNat i else 0
def wE (t : Int) : Nat := if right t then 0 else 1
theorem wF_lt (t : Int) (i : Nat) : wF t i < 256 := by
  unfold wF
  split
  · exact label_lt _ _
  · omega
/-- the time that a row tells, and whether it is a label -/
def timeOf (f : Nat → Nat) : Nat := (be f 0 8 - 4611686018427387914) * 1000 + be f 8 4 / 1000000
def IsLabel (f : Nat → Nat) : Prop := 4611686018427387914 ≤ be f 0 8 ∧ be f 0 8 - 4611686018427387914 ≤ 1099511627 ∧ be f 8 4 % 1000000 = 0 ∧ be f 8 4 / 1000000 < 1000 ∧ timeOf f ≤ 1099511627776
instance (f : Nat → Nat) : Decidable (IsLabel f) := by unfold IsLabel; exact inferInstance

/-- the answer of a reading: the time and the error's number -/
def readV (f : Nat → Nat) : Nat := if IsLabel f then timeOf f else 0
def readE (f : Nat → Nat) : Nat := if IsLabel f then 0 else 3

theorem label_is (t : Nat) (h : t ≤ 1099511627776) : IsLabel (label t) ∧ timeOf (label t) = t := by
  have e : timeOf (label t) = t := by
    unfold timeOf
    rw [label_secs t h, label_left]
    unfold secs left
    omega
  refine ⟨⟨?_, ?_, ?_, ?_, by rw [e]; exact h⟩, e⟩
  · rw [label_secs t h]
    unfold secs
    omega
  · rw [label_secs t h]
    unfold secs
    omega
  · rw [label_left]
    unfold left
    omega
  · rw [label_left]
    unfold left
    omega

/-- a row that is a label is the label of its time -/
theorem is_label (f : Nat → Nat) (hf : ∀ i, f i < 256) (h : IsLabel f) : ∀ i, i < 12 → label (timeOf f) i = f i := by
  obtain ⟨h1, h2, h3, h4, h5⟩ := h
  refine (whole_inj _ _ (label_lt _) hf).1 ?_
  rw [whole_eq, whole_eq, label_secs _ h5, label_left]
  unfold secs left timeOf
  generalize be f 0 8 = S at *
  generalize be f 8 4 = L at *
  have e1 : ((S - 4611686018427387914) * 1000 + L / 1000000) / 1000 = S - 4611686018427387914 := by omega
  have e2 : ((S - 4611686018427387914) * 1000 + L / 1000000) % 1000 = L / 1000000 := by omega
  rw [e1, e2]
  omega

/-- and a row that is the label of a time is a label -/
theorem label_of (f : Nat → Nat) (t : Nat) (ht : t ≤ 1099511627776) (h : ∀ i, i < 12 → label t i = f i) : IsLabel f ∧ timeOf f = t := by
  have e1 : be f 0 8 = be (label t) 0 8 := be_congr 8 fun i hi => (h _ (by omega)).symm
  have e2 : be f 8 4 = be (label t) 8 4 := be_congr 4 fun i hi => (h _ (by omega)).symm
  have := label_is t ht
  unfold IsLabel timeOf at this ⊢
  rw [e1, e2]
  exact this

/-- labels stand as their times do -/
theorem label_order (s t : Nat) (hs : s ≤ 1099511627776) (ht : t ≤ 1099511627776) : whole (label s) < whole (label t) ↔ s < t := by
  rw [whole_eq, whole_eq, label_secs s hs, label_secs t ht, label_left, label_left]
  unfold secs left
  omega

end Stamp
end Go.Proofs.Ythjmbfhakccomaa
