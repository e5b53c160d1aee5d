/- Sums, products and quotients of numbers with a point: where they are no NaN. Nothing of the program. -/
import Derived.Test.YteombmahglbeeaaFloNum
namespace Go.Proofs.Yteombmahglbeeaa
namespace Fl
open Ieee
theorem word_rung (s : Bool) (R : Nat) (h : R < 9223372036854775808) : rung (double.word s R) = R ∧ neg (double.word s R) = s ∧ double.word s R < 18446744073709551616 := by
  unfold Format.word rung neg
  rw [sw]
  cases s
  · rw [if_neg (by simp)]
    refine ⟨Nat.mod_eq_of_lt h, ?_, by omega⟩
    rw [Nat.div_eq_of_lt h]; rfl
  · rw [if_pos rfl]
    refine ⟨by omega, ?_, by omega⟩
    rw [show (2 ^ 63 + R) / 9223372036854775808 = 1 by omega]; rfl
theorem near_any (s : Bool) (m : Nat) (p : Int) : ∃ R, R ≤ 9218868437227405312 ∧ double.nearest s m p = double.word s R := by
  obtain ⟨R, h1, h2, _⟩ := near s m (p + 1074).toNat (-(p + 1074)).toNat
  refine ⟨R, h1, ?_⟩
  rw [← h2]
  congr 1
  omega
theorem write_num (s : Bool) (m : Nat) (p : Int) : isNum (double.write (.number s m p)) = true ∧ double.write (.number s m p) < 18446744073709551616 := by
  obtain ⟨R, h1, h2⟩ := near_any s m p
  show isNum (double.nearest s m p) = true ∧ double.nearest s m p < 18446744073709551616
  rw [h2]
  have h3 := word_rung s R (by omega)
  refine ⟨?_, h3.2.2⟩
  unfold isNum
  rw [h3.1]
  exact decide_eq_true h1
theorem write_inf (s : Bool) : isNum (double.write (.infinity s)) = true ∧ double.write (.infinity s) < 18446744073709551616 := by
  show isNum (double.word s double.infRung) = true ∧ double.word s double.infRung < 18446744073709551616
  rw [inf]
  have h3 := word_rung s 9218868437227405312 (by omega)
  refine ⟨?_, h3.2.2⟩
  unfold isNum
  rw [h3.1]
  decide
theorem read_of_num {x : Nat} (h : isNum x = true) : (∃ s m p, double.read x = .number s m p) ∨ ∃ s, double.read x = .infinity s := by
  unfold isNum at h
  rw [decide_eq_true_eq] at h
  by_cases c : rung x = 9218868437227405312
  · exact .inr ⟨_, read_inf c⟩
  · obtain ⟨m, k, e, _⟩ := read_num (show rung x < 9218868437227405312 by omega)
    exact .inl ⟨_, _, _, e⟩
theorem mag_pos {x : Nat} (h : rung x ≠ 0) : 0 < mag (rung x) := by have := mag_ge (rung x); omega
theorem read_pos {x : Nat} (h : counts x = true) (h0 : rung x ≠ 0) : ∃ s m p, double.read x = .number s m p ∧ m ≠ 0 := by
  unfold counts at h
  rw [decide_eq_true_eq] at h
  obtain ⟨m, k, e, f⟩ := read_num h
  refine ⟨_, _, _, e, ?_⟩
  rintro rfl
  have := mag_pos h0
  rw [f] at this
  simp at this
theorem read_counts {x : Nat} (h : counts x = true) : ∃ s m p, double.read x = .number s m p := by
  unfold counts at h
  rw [decide_eq_true_eq] at h
  obtain ⟨m, k, e, _⟩ := read_num h
  exact ⟨_, _, _, e⟩
theorem mul_some {x y : Nat} (hx : isNum x = true) (hy : counts y = true) (h0 : rung y ≠ 0) : ∃ r, double.mul x y = some r ∧ isNum r = true ∧ r < 18446744073709551616 := by
  obtain ⟨t, n, q, e2, hn⟩ := read_pos hy h0
  unfold Format.mul
  rcases read_of_num hx with ⟨s, m, p, e1⟩ | ⟨s, e1⟩
  · rw [e1, e2]
    exact ⟨_, rfl, write_num _ _ _⟩
  · rw [e1, e2]
    refine ⟨double.write (.infinity (s ^^ t)), ?_, write_inf _⟩
    show (if n = 0 then none else some (Datum.infinity (s ^^ t))).map double.write = _
    rw [if_neg hn]
    rfl
theorem div_some {x y : Nat} (hx : isNum x = true) (hy : counts y = true) (h0 : rung y ≠ 0) : ∃ r, double.div x y = some r ∧ isNum r = true ∧ r < 18446744073709551616 := by
  obtain ⟨t, n, q, e2, hn⟩ := read_pos hy h0
  unfold Format.div
  rcases read_of_num hx with ⟨s, m, p, e1⟩ | ⟨s, e1⟩
  · rw [e1, e2]
    unfold Datum.quotient
    simp only [if_neg hn]
    exact ⟨_, rfl, write_num _ _ _⟩
  · rw [e1, e2]
    exact ⟨_, rfl, write_inf _⟩
theorem sub_some {x y : Nat} (hx : counts x = true) (hy : counts y = true) : ∃ r, double.sub x y = some r ∧ isNum r = true ∧ r < 18446744073709551616 := by
  obtain ⟨s, m, p, e1⟩ := read_counts hx
  obtain ⟨t, n, q, e2⟩ := read_counts hy
  unfold Format.sub
  rw [e1, e2]
  exact ⟨_, rfl, write_num _ _ _⟩
theorem add_some {x y : Nat} (hx : counts x = true) (hy : isNum y = true) : ∃ r, double.add x y = some r ∧ isNum r = true ∧ r < 18446744073709551616 := by
  obtain ⟨s, m, p, e1⟩ := read_counts hx
  unfold Format.add
  rcases read_of_num hy with ⟨t, n, q, e2⟩ | ⟨t, e2⟩
  · rw [e1, e2]
    exact ⟨_, rfl, write_num _ _ _⟩
  · rw [e1, e2]
    exact ⟨_, rfl, write_inf _⟩
/-- a whole number above 0 as a number with a point -/
theorem int_pos (n : Nat) (h0 : 0 < n) (h : n < 18446744073709551616) : counts (double.write (.number false n 0)) = true ∧ rung (double.write (.number false n 0)) ≠ 0 := by
  obtain ⟨E, hE⟩ : ∃ E : Nat, E = 1074 := ⟨_, rfl⟩
  obtain ⟨R, h1, h2, hA, hB⟩ := near false n E 0
  have e : double.write (.number false n 0) = double.word false R := by
    rw [← h2, show -1074 + (E : Int) - ((0 : Nat) : Int) = 0 by omega]
    rfl
  have h3 := word_rung false R (by omega)
  rw [e]
  unfold counts
  rw [h3.1]
  constructor
  · refine decide_eq_true ?_
    have := hB ((E + 12 + 1) * 2 ^ 52 + 0) (by
      rw [Nat.pow_zero, Nat.mul_one, mag_split (E + 12) 0 (by decide), Nat.add_zero, Nat.pow_add 2 E 12, Nat.mul_comm (2 ^ E), ← Nat.mul_assoc]
      exact Nat.mul_le_mul_right _ (by omega))
    omega
  · have := hA 1 (by omega) (by
      rw [Nat.pow_zero, Nat.mul_one, show mag 1 = 1 from by decide]
      have := Nat.mul_le_mul_right (2 ^ E) h0
      rw [Nat.succ_mul, Nat.zero_mul, Nat.zero_add] at this
      exact Nat.le_trans (Nat.two_pow_pos E) this)
    omega
theorem write_nat_num (n : Nat) : isNum (double.write (.number false n 0)) = true := (write_num _ _ _).1
end Fl
end Go.Proofs.Yteombmahglbeeaa
