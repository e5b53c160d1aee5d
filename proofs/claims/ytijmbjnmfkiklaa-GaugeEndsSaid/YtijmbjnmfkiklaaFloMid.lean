/- Numbers with a point: a number that is moved on towards another one by an eighth, each step rounded, lies between both. Nothing of the program. -/
import Derived.Test.YtijmbjnmfkiklaaFloOps
namespace Go.Proofs.Ytijmbjnmfkiklaa
namespace Fl
open Ieee
/-- what a word stands for, the endless ones as the first magnitude beyond all -/
theorem val_word (s : Bool) (R : Nat) (h : R < 9223372036854775808) : val (double.word s R) = if s then -(mag R : Int) else mag R := by
  have h3 := word_rung s R h
  unfold val
  rw [h3.1, h3.2.1]
/-- r is the number nearest to S -/
def Near (r : Nat) (S : Int) : Prop := ∀ y, counts y = true → (val y ≤ S → val y ≤ val r) ∧ (S ≤ val y → val r ≤ val y)
theorem val_cases (y : Nat) : (neg y = true ∧ val y = -(mag (rung y) : Int)) ∨ (neg y = false ∧ val y = mag (rung y)) := by
  unfold val
  cases neg y
  · exact .inr ⟨rfl, rfl⟩
  · exact .inl ⟨rfl, rfl⟩
/-- the nearest word, as a value -/
theorem near_val (s : Bool) (m a : Nat) (S : Int) (hS : S = if s then -((m * 2 ^ a : Nat) : Int) else ((m * 2 ^ a : Nat) : Int)) : Near (double.nearest s m (-1074 + (a : Int))) S := by
  obtain ⟨R, h1, h2, hA, hB⟩ := near s m a 0
  rw [show -1074 + (a : Int) - ((0 : Nat) : Int) = -1074 + (a : Int) by omega] at h2
  rw [h2]
  intro y hy
  rw [val_word s R (by omega)]
  unfold counts at hy
  rw [decide_eq_true_eq] at hy
  have hA1 := hA (rung y) (by omega)
  have hB1 := hB (rung y)
  rw [Nat.pow_zero, Nat.mul_one] at hA1 hB1
  generalize m * 2 ^ a = N at *
  have hm1 : rung y ≤ R → mag (rung y) ≤ mag R := mag_le
  have hm2 : R ≤ rung y → mag R ≤ mag (rung y) := mag_le
  cases s
  · simp only [Bool.false_eq_true, if_false] at hS ⊢
    rcases val_cases y with ⟨_, e⟩ | ⟨_, e⟩
    · rw [e]
      refine ⟨fun _ => by omega, fun h => ?_⟩
      have : N ≤ mag (rung y) := by omega
      have := hm2 (hB1 this)
      omega
    · rw [e]
      refine ⟨fun h => ?_, fun h => ?_⟩
      · have := hm1 (hA1 (by omega)); omega
      · have := hm2 (hB1 (by omega)); omega
  · simp only [if_true] at hS ⊢
    rcases val_cases y with ⟨_, e⟩ | ⟨_, e⟩
    · rw [e]
      refine ⟨fun h => ?_, fun h => ?_⟩
      · have := hm2 (hB1 (by omega)); omega
      · have := hm1 (hA1 (by omega)); omega
    · rw [e]
      refine ⟨fun h => ?_, fun _ => by omega⟩
      have : N ≤ mag (rung y) := by omega
      have := hm2 (hB1 this)
      omega
theorem signed_scale (s : Bool) (m i b : Nat) (h : b ≤ i) : signed s m (i - b) * ((2 ^ b : Nat) : Int) = if s then -((m * 2 ^ i : Nat) : Int) else ((m * 2 ^ i : Nat) : Int) := by
  rw [signed_eq]
  have e1 : m * 2 ^ i = m * 2 ^ (i - b) * 2 ^ b := by rw [Nat.mul_assoc, ← Nat.pow_add, Nat.sub_add_cancel h]
  rw [e1, Int.natCast_mul (m * 2 ^ (i - b))]
  cases s <;> simp [Int.neg_mul]
/-- a sum of two numbers is the number nearest to it -/
theorem sum_near (s t : Bool) (m i n j : Nat) : ∃ d, (Datum.number s m (-1074 + (i : Int))).sum (Datum.number t n (-1074 + (j : Int))) = some d ∧ Near (double.write d) ((if s then -((m * 2 ^ i : Nat) : Int) else ((m * 2 ^ i : Nat) : Int)) + (if t then -((n * 2 ^ j : Nat) : Int) else ((n * 2 ^ j : Nat) : Int))) := by
  have hb : ∃ b : Nat, min (-1074 + (i : Int)) (-1074 + (j : Int)) = -1074 + (b : Int) ∧ b ≤ i ∧ b ≤ j := by
    by_cases h : i ≤ j
    · exact ⟨i, by omega, by omega, by omega⟩
    · exact ⟨j, by omega, by omega, by omega⟩
  obtain ⟨b, hb1, hb2, hb3⟩ := hb
  refine ⟨_, rfl, ?_⟩
  rw [hb1, show (-1074 + (i : Int) - (-1074 + (b : Int))).toNat = i - b by omega, show (-1074 + (j : Int) - (-1074 + (b : Int))).toNat = j - b by omega]
  rw [← signed_scale s m i b hb2, ← signed_scale t n j b hb3, ← Int.add_mul]
  generalize signed s m (i - b) + signed t n (j - b) = T
  refine near_val _ _ _ _ ?_
  rw [Int.natCast_mul]
  by_cases h0 : T = 0
  · subst h0
    simp
  · rw [if_neg h0]
    by_cases h1 : T < 0
    · rw [decide_eq_true h1, if_pos rfl, show ((T.natAbs : Nat) : Int) = -T by omega, Int.neg_mul, Int.neg_neg]
    · rw [decide_eq_false h1, if_neg (by simp), show ((T.natAbs : Nat) : Int) = T by omega]
theorem val_read {x : Nat} (h : counts x = true) : ∃ m k : Nat, double.read x = .number (neg x) m (-1074 + (k : Int)) ∧ val x = if neg x then -((m * 2 ^ k : Nat) : Int) else ((m * 2 ^ k : Nat) : Int) := by
  unfold counts at h
  rw [decide_eq_true_eq] at h
  obtain ⟨m, k, e, f⟩ := read_num h
  exact ⟨m, k, e, by unfold val; rw [f]⟩
theorem add_near {x y r : Nat} (hx : counts x = true) (hy : counts y = true) (h : double.add x y = some r) : Near r (val x + val y) := by
  obtain ⟨m, i, e1, f1⟩ := val_read hx
  obtain ⟨n, j, e2, f2⟩ := val_read hy
  obtain ⟨d, hd, hn⟩ := sum_near (neg x) (neg y) m i n j
  unfold Format.add at h
  rw [e1, e2, hd] at h
  injection h with h
  rw [← h, f1, f2]
  exact hn
theorem sub_near {x y r : Nat} (hx : counts x = true) (hy : counts y = true) (h : double.sub x y = some r) : Near r (val x - val y) := by
  obtain ⟨m, i, e1, f1⟩ := val_read hx
  obtain ⟨n, j, e2, f2⟩ := val_read hy
  obtain ⟨d, hd, hn⟩ := sum_near (neg x) (!neg y) m i n j
  unfold Format.sub at h
  rw [e1, e2, show (Datum.number (neg y) n (-1074 + (j : Int))).opposite = Datum.number (!neg y) n (-1074 + (j : Int)) from rfl, hd] at h
  injection h with h
  rw [← h, f1, f2]
  have : (if neg y = true then -((n * 2 ^ j : Nat) : Int) else ((n * 2 ^ j : Nat) : Int)) = -(if (!neg y) = true then -((n * 2 ^ j : Nat) : Int) else ((n * 2 ^ j : Nat) : Int)) := by
    cases neg y <;> simp
  rw [this, Int.sub_neg]
  exact hn
end Fl
end Go.Proofs.Ytijmbjnmfkiklaa
