/- An eighth of a number with a point, rounded; and that a smooth measure that is moved lies between. Nothing of the program. -/
import Derived.Test.YtijmbjnmfkiklaaFloMid
import Derived.Test.YtijmbjnmfkiklaaGaugeNote
namespace Go.Proofs.Ytijmbjnmfkiklaa
namespace Fl
open Ieee
theorem read_eight : double.read 4620693217682128896 = .number false (2 ^ 52) (-1074 + ((1025 : Nat) : Int)) := by decide +kernel
theorem read_num2 {x : Nat} (h : rung x < 9218868437227405312) : ∃ m k : Nat, double.read x = .number (neg x) m (-1074 + (k : Int)) ∧ mag (rung x) = m * 2 ^ k ∧ m < 2 ^ 53 := by
  unfold Format.read
  rw [sw, bin, inf, lp, show (x / 2 ^ 63 % 2 == 1) = neg x from rfl, show x % 2 ^ 63 = rung x from rfl]
  by_cases h1 : rung x < 2 ^ 52
  · refine ⟨rung x, 0, ?_, ?_, by omega⟩
    · simp [h1]
    · unfold mag; rw [if_pos h1]; simp
  · refine ⟨2 ^ 52 + rung x % 2 ^ 52, rung x / 2 ^ 52 - 1, ?_, ?_, by omega⟩
    · simp only [h1, h, if_true, if_false]
    · unfold mag; rw [if_neg h1]
/-- an eighth: its sign, and where its magnitude lies -/
theorem eighth {d q : Nat} (hd : counts d = true) (h : double.div d 4620693217682128896 = some q) : ∃ Q, q = double.word (neg d) Q ∧ Q ≤ 9218868437227405312 ∧ ∀ t, mag (rung d) ≤ 8 * mag t → Q ≤ t := by
  obtain ⟨m, k, e, f, hm⟩ := read_num2 (show rung d < 9218868437227405312 by unfold counts at hd; rwa [decide_eq_true_eq] at hd)
  unfold Format.div at h
  rw [e, read_eight] at h
  unfold Datum.quotient at h
  have h52 : (2 : Nat) ^ 52 ≠ 0 := by decide
  simp only [if_neg h52] at h
  have hl : m.log2 ≤ 52 := by
    by_cases h0 : m = 0
    · subst h0; decide
    · have := (Nat.log2_lt h0).2 hm; omega
  rw [show double.fractionBits + 2 + (2 ^ 52 : Nat).log2 - m.log2 = 106 - m.log2 from by rw [show (2 ^ 52 : Nat).log2 = 52 by decide +kernel]; rfl] at h
  obtain ⟨u, hu⟩ : ∃ u, 106 - m.log2 = u + 52 := ⟨106 - m.log2 - 52, by omega⟩
  have hu3 : 2 ≤ u := by omega
  rw [hu] at h
  clear hu hl
  have e1 : m <<< (u + 52) = m * 2 ^ u * 2 ^ 52 := by rw [Nat.shiftLeft_eq, Nat.pow_add, Nat.mul_assoc]
  have hp52 : 0 < 2 ^ 52 := by decide
  rw [e1, Nat.mul_div_cancel _ hp52, Nat.mul_mod_left] at h
  injection h with h
  obtain ⟨Q, q1, q2, _, q3⟩ := near (neg d ^^ false) (2 * (m * 2 ^ u)) (k + 48) (u + 52)
  refine ⟨Q, ?_, q1, fun t ht => q3 t ?_⟩
  · rw [← h]
    show double.nearest (neg d ^^ false) (2 * (m * 2 ^ u) + ((0 : Nat) != 0).toNat) _ = _
    rw [show ((0 : Nat) != 0).toNat = 0 from rfl, Nat.add_zero, show (-1074 + (k : Int) - (-1074 + ((1025 : Nat) : Int)) - ((u + 52 : Nat) : Int) - 1) = -1074 + ((k + 48 : Nat) : Int) - ((u + 52 : Nat) : Int) by omega, q2, Bool.xor_false]
  · rw [f] at ht
    have e2 : 2 * (m * 2 ^ u) * 2 ^ (k + 48) = m * 2 ^ k * (2 ^ u * 2 ^ 49) := by
      rw [Nat.pow_add 2 k 48, show (2 : Nat) ^ 49 = 2 * 2 ^ 48 from rfl]
      simp only [Nat.mul_assoc, Nat.mul_left_comm]
    have e3 : mag t * 2 ^ (u + 52) = 8 * mag t * (2 ^ u * 2 ^ 49) := by
      rw [Nat.pow_add 2 u 52, show (2 : Nat) ^ 52 = 8 * 2 ^ 49 from rfl]
      simp only [Nat.mul_assoc, Nat.mul_comm, Nat.mul_left_comm]
    rw [e2, e3]
    exact Nat.mul_le_mul_right _ ht
/-- each power of two is a magnitude -/
theorem pow_rung (p : Nat) : ∃ t, mag t = 2 ^ p := by
  by_cases h : p < 52
  · exact ⟨2 ^ p, mag_small (Nat.pow_lt_pow_right (by omega) (by omega))⟩
  · refine ⟨(p - 52 + 1) * 2 ^ 52 + 0, ?_⟩
    rw [mag_split (p - 52) 0 (by decide), Nat.add_zero, ← Nat.pow_add]
    congr 1
    omega
/-- what is nearest to D is at most twice as great, and an eighth of it, rounded, is at most D -/
theorem eighth_le {D : Nat} {d q : Nat} (hd : counts d = true) (h : double.div d 4620693217682128896 = some q) (hB : ∀ t, D ≤ mag t → rung d ≤ t) : ∃ Q, q = double.word (neg d) Q ∧ Q ≤ 9218868437227405312 ∧ mag Q ≤ D ∧ (rung d = 0 → Q = 0) := by
  obtain ⟨Q, h1, h2, h3⟩ := eighth hd h
  refine ⟨Q, h1, h2, ?_, fun h => by have := h3 0 (by rw [h]; simp [mag_zero]); omega⟩
  by_cases h0 : D = 0
  · subst h0
    have := hB 0 (Nat.zero_le _)
    have hq := h3 0 (by rw [show rung d = 0 by omega]; simp [mag_zero])
    rw [show Q = 0 by omega, mag_zero]
    exact Nat.le_refl _
  · obtain ⟨t1, e1⟩ := pow_rung D.log2
    obtain ⟨t2, e2⟩ := pow_rung (D.log2 + 1)
    have l1 := Nat.log2_self_le h0
    have l2 : D < 2 ^ (D.log2 + 1) := Nat.lt_log2_self
    have l3 := mag_le (hB t2 (by omega))
    rw [e2, Nat.pow_succ] at l3
    have := mag_le (h3 t1 (by omega))
    omega
theorem counts_inf {x : Nat} (hn : isNum x = true) (h : counts x = false) : double.read x = .infinity (neg x) := by
  unfold isNum at hn
  unfold counts at h
  rw [decide_eq_true_eq] at hn
  rw [decide_eq_false_iff_not] at h
  exact read_inf (by omega)
theorem inf_counts (s : Bool) : counts (double.write (.infinity s)) = false := by cases s <;> decide
theorem add_counts {s q r : Nat} (hs : counts s = true) (hq : isNum q = true) (h : double.add s q = some r) (hr : counts r = true) : counts q = true := by
  rcases c : counts q with _ | _
  · obtain ⟨t, m, p, e⟩ := read_counts hs
    unfold Format.add at h
    rw [e, counts_inf hq c] at h
    injection h with h
    rw [← h] at hr
    rw [show double.write (Datum.infinity (neg q)) = double.write (Datum.infinity (neg q)) from rfl, inf_counts] at hr
    cases hr
  · rfl
theorem div_counts {d q : Nat} (hd : isNum d = true) (h : double.div d 4620693217682128896 = some q) (hq : counts q = true) : counts d = true := by
  rcases c : counts d with _ | _
  · unfold Format.div at h
    rw [counts_inf hd c, read_eight] at h
    injection h with h
    rw [← h, inf_counts] at hq
    cases hq
  · rfl
theorem counts_small {t : Nat} (h : t < 9218868437227405312) (s : Bool) : counts (double.word s t) = true ∧ val (double.word s t) = if s then -(mag t : Int) else mag t := by
  have h3 := word_rung s t (by omega)
  refine ⟨?_, val_word s t (by omega)⟩
  unfold counts
  rw [h3.1]
  exact decide_eq_true h
/-- A smooth measure that is moved towards another one lies between both. -/
theorem mv_between {s x : Nat} (hs : counts s = true) (hx : counts x = true) : (val s ≤ val x → val s ≤ val (mv s x) ∧ val (mv s x) ≤ val x) ∧ (val x ≤ val s → val x ≤ val (mv s x) ∧ val (mv s x) ≤ val s) := by
  obtain ⟨d, q, r, h1, h2, h3, hr, e⟩ := mv_some hs hx
  rw [e]
  rcases c : counts r with _ | _
  · rw [if_neg (by simp)]
    exact ⟨fun h => ⟨h, Int.le_refl _⟩, fun h => ⟨Int.le_refl _, h⟩⟩
  · rw [if_pos rfl]
    obtain ⟨d', h1', hdn, _⟩ := sub_some hx hs
    obtain rfl : d = d' := Option.some.inj (h1.symm.trans h1')
    obtain ⟨q', h2', hqn, _⟩ := div_some hdn (show counts 4620693217682128896 = true by decide) (show rung 4620693217682128896 ≠ 0 by decide)
    obtain rfl : q = q' := Option.some.inj (h2.symm.trans h2')
    have cq := add_counts hs hqn h3 c
    have cd := div_counts hdn h2 cq
    have nd := sub_near hx hs h1
    have nr := add_near hs cq h3
    have rd : rung d < 9218868437227405312 := by unfold counts at cd; rwa [decide_eq_true_eq] at cd
    have z := counts_small (show 0 < 9218868437227405312 by decide) false
    have z0 := nd _ z.1
    rw [z.2, if_neg (by simp), mag_zero] at z0
    have hB : ∀ t, (val x - val s).natAbs ≤ mag t → rung d ≤ t := by
      intro t ht
      by_cases big : t < 9218868437227405312
      · have p1 := counts_small big false
        have p2 := counts_small big true
        have n1 := nd _ p1.1
        have n2 := nd _ p2.1
        rw [p1.2, if_neg (by simp)] at n1
        rw [p2.2, if_pos rfl] at n2
        have hm : mag (rung d) ≤ mag t := by
          rcases val_cases d with ⟨_, ed⟩ | ⟨_, ed⟩ <;> omega
        by_cases hh : rung d ≤ t
        · exact hh
        · have := mag_lt (show t < rung d by omega); omega
      · omega
    obtain ⟨Q, e1, e2, e3, e4⟩ := eighth_le cd h2 hB
    have vq : val q = if neg d then -(mag Q : Int) else mag Q := by rw [e1]; exact val_word _ _ (by omega)
    have hz : mag (rung d) = 0 → mag Q = 0 := by
      intro h
      rw [e4 (by have := mag_ge (rung d); omega), mag_zero]
    have ns := nr s hs
    have nx := nr x hx
    rcases val_cases d with ⟨sd, ed⟩ | ⟨sd, ed⟩
    · rw [sd, if_pos rfl] at vq
      constructor
      · intro h
        have : mag (rung d) = 0 := by omega
        have := hz this
        omega
      · intro h
        omega
    · rw [sd, if_neg (by simp)] at vq
      constructor
      · intro h
        omega
      · intro h
        have : mag (rung d) = 0 := by omega
        have := hz this
        omega
end Fl
end Go.Proofs.Ytijmbjnmfkiklaa
