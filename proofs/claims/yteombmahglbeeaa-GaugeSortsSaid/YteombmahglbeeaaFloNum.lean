/- Numbers of 64 digits with a point (IEEE 754, double) as plain arithmetic: their order, and that the nearest number parts nothing. Nothing of the program. -/
import Ieee.Arith
namespace Go.Proofs.Yteombmahglbeeaa
namespace Fl
open Ieee
theorem sw : double.signWeight = 2 ^ 63 := by decide
theorem bin : double.binade = 2 ^ 52 := by decide
theorem inf : double.infRung = 9218868437227405312 := by decide
theorem lp : double.leastPlace = -1074 := by decide
/-- is it below 0 (its greatest digit)? -/
def neg (x : Nat) : Bool := x / 9223372036854775808 % 2 == 1
/-- the magnitude's place among magnitudes -/
def rung (x : Nat) : Nat := x % 9223372036854775808
def isNum (x : Nat) : Bool := decide (rung x ≤ 9218868437227405312)
def counts (x : Nat) : Bool := decide (rung x < 9218868437227405312)
/-- a magnitude in units of the least place -/
def mag (r : Nat) : Nat := if r < 2 ^ 52 then r else (2 ^ 52 + r % 2 ^ 52) * 2 ^ (r / 2 ^ 52 - 1)
theorem mag_split (e f : Nat) (hf : f < 2 ^ 52) : mag ((e + 1) * 2 ^ 52 + f) = (2 ^ 52 + f) * 2 ^ e := by
  unfold mag
  rw [if_neg (by omega), show ((e + 1) * 2 ^ 52 + f) % 2 ^ 52 = f by omega, show ((e + 1) * 2 ^ 52 + f) / 2 ^ 52 - 1 = e by omega]
theorem mag_succ (r : Nat) : mag r < mag (r + 1) := by
  by_cases h : r + 1 < 2 ^ 52
  · unfold mag; rw [if_pos h, if_pos (by omega)]; omega
  · by_cases h0 : r < 2 ^ 52
    · obtain rfl : r = 2 ^ 52 - 1 := by omega
      decide
    · obtain ⟨e, f, hf, rfl⟩ : ∃ e f, f < 2 ^ 52 ∧ r = (e + 1) * 2 ^ 52 + f := ⟨r / 2 ^ 52 - 1, r % 2 ^ 52, Nat.mod_lt _ (by decide), by omega⟩
      rw [mag_split e f hf]
      have hp : 0 < 2 ^ e := Nat.two_pow_pos e
      by_cases h1 : f + 1 < 2 ^ 52
      · rw [Nat.add_assoc, mag_split e (f + 1) h1]
        exact Nat.mul_lt_mul_of_pos_right (by omega) hp
      · obtain rfl : f = 2 ^ 52 - 1 := by omega
        rw [show (e + 1) * 2 ^ 52 + (2 ^ 52 - 1) + 1 = (e + 1 + 1) * 2 ^ 52 + 0 by omega, mag_split (e + 1) 0 (by decide), show 2 ^ (e + 1) = 2 * 2 ^ e by rw [Nat.pow_succ, Nat.mul_comm], ← Nat.mul_assoc]
        exact Nat.mul_lt_mul_of_pos_right (by decide) hp
theorem mag_lt {r s : Nat} (h : r < s) : mag r < mag s := by
  induction s with
  | zero => omega
  | succ s ih =>
    by_cases e : r = s
    · subst e; exact mag_succ r
    · exact Nat.lt_trans (ih (by omega)) (mag_succ s)
theorem mag_le {r s : Nat} (h : r ≤ s) : mag r ≤ mag s := by
  by_cases e : r = s
  · rw [e]; exact Nat.le_refl _
  · exact Nat.le_of_lt (mag_lt (by omega))
/-- what a number that counts stands for, in units of the least place -/
def val (x : Nat) : Int := if neg x then -(mag (rung x) : Int) else mag (rung x)
theorem read_num {x : Nat} (h : rung x < 9218868437227405312) : ∃ m k : Nat, double.read x = .number (neg x) m (-1074 + (k : Int)) ∧ mag (rung x) = m * 2 ^ k := by
  unfold Format.read
  rw [sw, bin, inf, lp, show (x / 2 ^ 63 % 2 == 1) = neg x from rfl, show x % 2 ^ 63 = rung x from rfl]
  by_cases h1 : rung x < 2 ^ 52
  · refine ⟨rung x, 0, ?_, ?_⟩
    · simp [h1]
    · unfold mag; rw [if_pos h1]; simp
  · refine ⟨2 ^ 52 + rung x % 2 ^ 52, rung x / 2 ^ 52 - 1, ?_, ?_⟩
    · simp only [h1, h, if_true, if_false]
    · unfold mag; rw [if_neg h1]
theorem read_inf {x : Nat} (h : rung x = 9218868437227405312) : double.read x = .infinity (neg x) := by
  unfold Format.read
  rw [sw, bin, inf, lp, show (x / 2 ^ 63 % 2 == 1) = neg x from rfl, show x % 2 ^ 63 = rung x from rfl, h]
  rfl
theorem read_nan {x : Nat} (h : 9218868437227405312 < rung x) : ∃ t, double.read x = .nan (neg x) t := by
  unfold Format.read
  rw [sw, bin, inf, lp, show (x / 2 ^ 63 % 2 == 1) = neg x from rfl, show x % 2 ^ 63 = rung x from rfl]
  have h1 : ¬ rung x < 2 ^ 52 := by omega
  have h2 : ¬ rung x < 9218868437227405312 := by omega
  have h3 : ¬ rung x = 9218868437227405312 := by omega
  simp only [h1, h2, h3, if_false]
  exact ⟨_, rfl⟩
theorem signed_eq (s : Bool) (m k : Nat) : signed s m k = if s then -((m * 2 ^ k : Nat) : Int) else ((m * 2 ^ k : Nat) : Int) := by
  unfold signed; rw [Nat.shiftLeft_eq]
/-- a place of a number among all that are no NaN, the endless ones too; -0 and 0 share one -/
def pos (x : Nat) : Int := if neg x then -(rung x : Int) else rung x
theorem cmp_scale (s t : Bool) (m i n j b : Nat) (hi : b ≤ i) (hj : b ≤ j) :
    compare (signed s m (i - b)) (signed t n (j - b)) = compare (if s then -((m * 2 ^ i : Nat) : Int) else ((m * 2 ^ i : Nat) : Int)) (if t then -((n * 2 ^ j : Nat) : Int) else ((n * 2 ^ j : Nat) : Int)) := by
  rw [signed_eq, signed_eq]
  have e1 : m * 2 ^ i = m * 2 ^ (i - b) * 2 ^ b := by rw [Nat.mul_assoc, ← Nat.pow_add, Nat.sub_add_cancel hi]
  have e2 : n * 2 ^ j = n * 2 ^ (j - b) * 2 ^ b := by rw [Nat.mul_assoc, ← Nat.pow_add, Nat.sub_add_cancel hj]
  rw [e1, e2]
  have hp : (0 : Int) < (2 ^ b : Nat) := by have := Nat.two_pow_pos b; omega
  generalize m * 2 ^ (i - b) = M
  generalize n * 2 ^ (j - b) = N
  rw [Int.natCast_mul, Int.natCast_mul]
  generalize ((2 ^ b : Nat) : Int) = P at hp ⊢
  have key : ∀ a c : Int, compare a c = compare (a * P) (c * P) := by
    intro a c
    simp only [compare, compareOfLessAndEq]
    by_cases h : a < c
    · rw [if_pos h, if_pos (Int.mul_lt_mul_of_pos_right h hp)]
    · by_cases g : a = c
      · rw [g]; simp
      · have : c * P < a * P := Int.mul_lt_mul_of_pos_right (by omega) hp
        rw [if_neg h, if_neg g, if_neg (by omega), if_neg (by omega)]
  rw [key]
  cases s <;> cases t <;> simp [Int.neg_mul]
theorem order_num {x y : Nat} (hx : rung x < 9218868437227405312) (hy : rung y < 9218868437227405312) : double.order x y = some (compare (val x) (val y)) := by
  obtain ⟨m, i, e1, f1⟩ := read_num hx
  obtain ⟨n, j, e2, f2⟩ := read_num hy
  unfold Format.order
  rw [e1, e2]
  unfold val
  show some (compare (signed (neg x) m (-1074 + (i : Int) - min (-1074 + (i : Int)) (-1074 + (j : Int))).toNat) (signed (neg y) n (-1074 + (j : Int) - min (-1074 + (i : Int)) (-1074 + (j : Int))).toNat)) = _
  have hb : ∃ b : Nat, min (-1074 + (i : Int)) (-1074 + (j : Int)) = -1074 + (b : Int) ∧ b ≤ i ∧ b ≤ j := by
    by_cases h : i ≤ j
    · exact ⟨i, by omega, by omega, by omega⟩
    · exact ⟨j, by omega, by omega, by omega⟩
  obtain ⟨b, hb1, hb2, hb3⟩ := hb
  rw [hb1, show (-1074 + (i : Int) - (-1074 + (b : Int))).toNat = i - b by omega, show (-1074 + (j : Int) - (-1074 + (b : Int))).toNat = j - b by omega, cmp_scale _ _ _ _ _ _ _ hb2 hb3, f1, f2]

theorem compare_pos {a b c d : Int} (h1 : a < b ↔ c < d) (h2 : a = b ↔ c = d) : compare a b = compare c d := by
  simp only [compare, compareOfLessAndEq]
  by_cases h : a < b
  · rw [if_pos h, if_pos (h1.1 h)]
  · rw [if_neg h, if_neg (fun k => h (h1.2 k))]
    by_cases g : a = b
    · rw [if_pos g, if_pos (h2.1 g)]
    · rw [if_neg g, if_neg (fun k => g (h2.2 k))]
theorem mag_lt_iff {r s : Nat} : mag r < mag s ↔ r < s := by
  constructor
  · intro h
    by_cases k : r < s
    · exact k
    · have := mag_le (show s ≤ r by omega); omega
  · exact mag_lt
theorem mag_inj {r s : Nat} : mag r = mag s ↔ r = s := by
  constructor
  · intro h
    by_cases k : r < s
    · have := mag_lt k; omega
    · by_cases k2 : s < r
      · have := mag_lt k2; omega
      · omega
  · rintro rfl; rfl
theorem mag_zero : mag 0 = 0 := by decide
theorem val_pos (x y : Nat) : compare (val x) (val y) = compare (pos x) (pos y) := by
  have h1 := @mag_lt_iff (rung x) (rung y)
  have h2 := @mag_lt_iff (rung y) (rung x)
  have h3 := @mag_lt_iff 0 (rung x)
  have h4 := @mag_lt_iff 0 (rung y)
  rw [mag_zero] at h3 h4
  have h5 := @mag_inj (rung x) (rung y)
  unfold val pos
  refine compare_pos ?_ ?_
  · cases neg x <;> cases neg y <;> simp <;> omega
  · cases neg x <;> cases neg y <;> simp <;> omega
theorem pos_inf {x : Nat} (h : rung x = 9218868437227405312) : pos x = if neg x then -(9218868437227405312 : Int) else 9218868437227405312 := by
  unfold pos
  rw [h]
  rfl
/-- the order of two that are no NaN -/
theorem order_pos {x y : Nat} (hx : isNum x = true) (hy : isNum y = true) : double.order x y = some (compare (pos x) (pos y)) := by
  unfold isNum at hx hy
  rw [decide_eq_true_eq] at hx hy
  by_cases h1 : rung x = 9218868437227405312 <;> by_cases h2 : rung y = 9218868437227405312
  · unfold Format.order
    rw [read_inf h1, read_inf h2, pos_inf h1, pos_inf h2]
    cases neg x <;> cases neg y <;> decide
  · obtain ⟨m, i, e1, f1⟩ := read_num (show rung y < 9218868437227405312 by omega)
    unfold Format.order
    rw [read_inf h1, e1, pos_inf h1]
    have hp : -(9218868437227405312 : Int) < pos y ∧ pos y < (9218868437227405312 : Int) := by
      have hlt : rung y < 9218868437227405312 := by omega
      unfold pos
      cases neg y <;> simp <;> omega
    show some (if neg x = true then Ordering.lt else Ordering.gt) = _
    congr 1
    simp only [compare, compareOfLessAndEq]
    cases neg x
    · rw [if_neg (by simp), if_neg (by simp; omega), if_neg (by simp; omega)]
    · rw [if_pos rfl, if_pos (by simp; omega)]
  · obtain ⟨m, i, e1, f1⟩ := read_num (show rung x < 9218868437227405312 by omega)
    unfold Format.order
    rw [read_inf h2, e1, pos_inf h2]
    have hp : -(9218868437227405312 : Int) < pos x ∧ pos x < (9218868437227405312 : Int) := by
      have hlt : rung x < 9218868437227405312 := by omega
      unfold pos
      cases neg x <;> simp <;> omega
    show some (if neg y = true then Ordering.gt else Ordering.lt) = _
    congr 1
    simp only [compare, compareOfLessAndEq]
    cases neg y
    · rw [if_neg (by simp), if_pos (by simp; omega)]
    · rw [if_pos rfl, if_neg (by simp; omega), if_neg (by simp; omega)]
  · rw [order_num (by omega) (by omega), val_pos]
theorem order_nan {x y : Nat} (h : isNum x = false ∨ isNum y = false) : double.order x y = none := by
  unfold isNum at h
  simp only [decide_eq_false_iff_not, Nat.not_le] at h
  unfold Format.order
  rcases h with h | h
  · obtain ⟨t, e⟩ := read_nan h
    rw [e]; rfl
  · obtain ⟨t, e⟩ := read_nan h
    rw [e]
    cases double.read x <;> rfl
/-- x == x -/
theorem order_self (x : Nat) : (double.order x x == some .eq) = isNum x := by
  cases h : isNum x
  · rw [order_nan (.inl h)]; rfl
  · rw [order_pos h h, show compare (pos x) (pos x) = .eq by simp [compare, compareOfLessAndEq]]; rfl
theorem cut_even (neg : Bool) (n d : Nat) : (∀ k, n ≤ k * 2 ^ d → Toward.even.cut neg n d ≤ k) ∧ (∀ k, k * 2 ^ d ≤ n → k ≤ Toward.even.cut neg n d) := by
  unfold Toward.cut
  simp only [Nat.shiftLeft_eq, Nat.one_mul]
  by_cases h : d ≤ n.log2 + 2
  · rw [Nat.min_eq_left h]
    have hp := Nat.two_pow_pos d
    have hdm := Nat.div_add_mod n (2 ^ d)
    have hlt := Nat.mod_lt n hp
    generalize hq : n / 2 ^ d = q at hdm ⊢
    generalize hr : n % 2 ^ d = r at hdm hlt ⊢
    generalize 2 ^ d = P at hp hdm hlt ⊢
    constructor
    · intro k hk
      have h1 : q ≤ k := by
        by_cases c : q ≤ k
        · exact c
        · have := Nat.mul_le_mul_left P (show k + 1 ≤ q by omega)
          rw [Nat.mul_add, Nat.mul_one, Nat.mul_comm] at this
          omega
      by_cases c : q = k
      · subst c
        have : r = 0 := by rw [Nat.mul_comm] at hdm; omega
        subst this
        have e1 : decide (P < 2 * 0) = false := decide_eq_false (by omega)
        have e2 : (P == 2 * 0) = false := by rw [beq_eq_false_iff_ne]; omega
        rw [e1, e2]; simp
      · have := Bool.toNat_le (decide (P < 2 * r) || P == 2 * r && q % 2 == 1)
        omega
    · intro k hk
      have h1 : k ≤ q := by
        by_cases c : k ≤ q
        · exact c
        · have := Nat.mul_le_mul_left P (show q + 1 ≤ k by omega)
          rw [Nat.mul_add, Nat.mul_one, Nat.mul_comm P k] at this
          omega
      omega
  · rw [Nat.min_eq_right (by omega)]
    have h0 : n < 2 ^ (n.log2 + 1) := Nat.lt_log2_self
    have h2 : 2 ^ (n.log2 + 2) = 2 * 2 ^ (n.log2 + 1) := by rw [Nat.pow_succ 2 (n.log2 + 1), Nat.mul_comm]
    have h3 : 2 ^ (n.log2 + 2) ≤ 2 ^ d := Nat.pow_le_pow_right (by omega) (by omega)
    rw [Nat.div_eq_of_lt (by omega), Nat.mod_eq_of_lt (by omega), decide_eq_false (show ¬ 2 ^ (n.log2 + 2) < 2 * n by omega), show (2 ^ (n.log2 + 2) == 2 * n) = false by rw [beq_eq_false_iff_ne]; omega]
    constructor
    · intro k _; simp
    · intro k hk
      by_cases c : k = 0
      · subst c; simp
      · have := Nat.mul_le_mul_right (2 ^ d) (show 1 ≤ k by omega)
        omega
theorem mag_ge (r : Nat) : r ≤ mag r := by
  induction r with
  | zero => omega
  | succ r ih => have := mag_succ r; omega
theorem mag_small {r : Nat} (h : r < 2 ^ 53) : mag r = r := by
  unfold mag
  split
  · rfl
  · rw [show r / 2 ^ 52 - 1 = 0 by omega, Nat.pow_zero, Nat.mul_one]; omega
theorem mag_at {e k : Nat} (h : 2 ^ 52 ≤ k) (h2 : k ≤ 2 ^ 53 + 1) : k * 2 ^ e ≤ mag (e * 2 ^ 52 + k) := by
  by_cases c : k < 2 ^ 53
  · rw [show e * 2 ^ 52 + k = (e + 1) * 2 ^ 52 + (k - 2 ^ 52) by omega, mag_split _ _ (by omega), show 2 ^ 52 + (k - 2 ^ 52) = k by omega]
    exact Nat.le_refl _
  · rw [show e * 2 ^ 52 + k = (e + 1 + 1) * 2 ^ 52 + (k - 2 ^ 53) by omega, mag_split _ _ (by omega), show 2 ^ (e + 1) = 2 * 2 ^ e by rw [Nat.pow_succ, Nat.mul_comm], ← Nat.mul_assoc]
    exact Nat.mul_le_mul_right _ (by omega)
theorem cancel {x y P : Nat} (hp : 0 < P) (h : x * P ≤ y * P) : x ≤ y := Nat.le_of_mul_le_mul_right h hp
/-- the word nearest to m * 2 ^ (a - b) units: no number of the format parts it from what it stands for -/
theorem near (s : Bool) (m a b : Nat) : ∃ R, R ≤ 9218868437227405312 ∧ double.nearest s m (-1074 + (a : Int) - (b : Int)) = double.word s R ∧
    (∀ t, t ≤ 9218868437227405312 → mag t * 2 ^ b ≤ m * 2 ^ a → t ≤ R) ∧ (∀ t, m * 2 ^ a ≤ mag t * 2 ^ b → R ≤ t) := by
  by_cases hm : m = 0
  · subst hm
    refine ⟨0, by omega, by unfold Format.nearest; rw [if_pos rfl], ?_, fun _ _ => Nat.zero_le _⟩
    intro t _ ht
    rw [Nat.zero_mul] at ht
    have h1 : mag t = 0 := by
      have := Nat.two_pow_pos b
      rcases Nat.eq_zero_or_pos (mag t) with h | h
      · exact h
      · have := Nat.mul_pos h this; omega
    have := mag_ge t
    omega
  · have hl1 : 2 ^ m.log2 ≤ m := Nat.log2_self_le hm
    have hl2 : m < 2 ^ (m.log2 + 1) := Nat.lt_log2_self
    generalize hl : m.log2 = l at hl1 hl2
    generalize he : a + l - (b + 52) = e
    generalize hu : a - (b + e) = u
    generalize hd : (e + b) - a = d
    have had : a + d = b + e + u := by omega
    have hK := cut_even s (m * 2 ^ u) d
    generalize hKe : Toward.even.cut s (m * 2 ^ u) d = K at hK
    obtain ⟨k1, k2⟩ := hK
    refine ⟨min (e * 2 ^ 52 + K) 9218868437227405312, Nat.min_le_right _ _, ?_, ?_, ?_⟩
    · unfold Format.nearest
      rw [if_neg hm, lp, inf, bin, hl]
      have e1 : max (-1074 + (a : Int) - (b : Int) + (l : Int) - ((52 : Nat) : Int)) (-1074) = -1074 + (e : Int) := by omega
      simp only [show double.fractionBits = 52 from rfl]
      rw [e1, show (-1074 + (a : Int) - (b : Int) - (-1074 + (e : Int))).toNat = u by omega, show (-1074 + (e : Int) - (-1074 + (a : Int) - (b : Int))).toNat = d by omega, show (-1074 + (e : Int) - -1074).toNat = e by omega, Nat.shiftLeft_eq, hKe]
    all_goals
      have low : e = 0 ∨ 2 ^ 52 ≤ K := by
        by_cases c : e = 0
        · exact .inl c
        · refine .inr (k2 _ ?_)
          rw [← Nat.pow_add]
          refine Nat.le_trans ?_ (Nat.mul_le_mul_right _ hl1)
          rw [← Nat.pow_add]
          exact Nat.pow_le_pow_right (by omega) (by omega)
      have high : K ≤ 2 ^ 53 := by
        refine k1 _ ?_
        rw [← Nat.pow_add]
        refine Nat.le_trans (Nat.mul_le_mul_right _ (Nat.le_of_lt hl2)) ?_
        rw [← Nat.pow_add]
        exact Nat.pow_le_pow_right (by omega) (by omega)
      have scale : m * 2 ^ a * 2 ^ d = m * 2 ^ u * 2 ^ (b + e) := by
        rw [Nat.mul_assoc, Nat.mul_assoc, ← Nat.pow_add, ← Nat.pow_add, had, Nat.add_comm u]
    · intro t ht h
      by_cases c : t ≤ e * 2 ^ 52 + K
      · exact Nat.le_min.2 ⟨c, ht⟩
      · exfalso
        have h1 : (K + 1) * 2 ^ e ≤ mag t := by
          refine Nat.le_trans ?_ (mag_le (show e * 2 ^ 52 + (K + 1) ≤ t by omega))
          rcases low with z | z
          · subst z
            rw [Nat.pow_zero, Nat.mul_one]
            exact Nat.le_trans (by omega) (mag_ge _)
          · exact mag_at (by omega) (by omega)
        have h2 : (K + 1) * 2 ^ d * 2 ^ (b + e) ≤ m * 2 ^ u * 2 ^ (b + e) := by
          rw [← scale]
          refine Nat.le_trans ?_ (Nat.mul_le_mul_right _ h)
          refine Nat.le_trans ?_ (Nat.mul_le_mul_right _ (Nat.mul_le_mul_right _ h1))
          rw [Nat.mul_assoc, Nat.mul_assoc, Nat.mul_assoc, ← Nat.pow_add, ← Nat.pow_add, ← Nat.pow_add]
          exact Nat.mul_le_mul_left _ (Nat.pow_le_pow_right (by omega) (by omega))
        have := k2 _ (cancel (Nat.two_pow_pos _) h2)
        omega
    · intro t h
      by_cases c : e * 2 ^ 52 + K ≤ t
      · exact Nat.le_trans (Nat.min_le_left _ _) c
      · exfalso
        have h1 : mag t ≤ (K - 1) * 2 ^ e := by
          by_cases z : e = 0
          · subst z
            rw [mag_small (by omega)]
            omega
          · have hK2 : 2 ^ 52 ≤ K := by omega
            have g1 : 2 ^ 52 * 2 ^ e ≤ mag t := by
              refine cancel (Nat.two_pow_pos b) (Nat.le_trans ?_ h)
              rw [← Nat.pow_add, ← Nat.pow_add]
              refine Nat.le_trans ?_ (Nat.mul_le_mul_right _ hl1)
              rw [← Nat.pow_add]
              exact Nat.pow_le_pow_right (by omega) (by omega)
            have g2 : (e + 1) * 2 ^ 52 + 0 ≤ t := by
              by_cases c2 : (e + 1) * 2 ^ 52 + 0 ≤ t
              · exact c2
              · have := mag_lt (show t < (e + 1) * 2 ^ 52 + 0 by omega)
                rw [mag_split e 0 (by decide)] at this
                omega
            rw [show t = (e + 1) * 2 ^ 52 + (t - (e + 1) * 2 ^ 52) by omega, mag_split _ _ (by omega)]
            exact Nat.mul_le_mul_right _ (by omega)
        have h2 : m * 2 ^ u * 2 ^ (b + e) ≤ (K - 1) * 2 ^ d * 2 ^ (b + e) := by
          rw [← scale]
          refine Nat.le_trans (Nat.mul_le_mul_right _ h) ?_
          refine Nat.le_trans (Nat.mul_le_mul_right _ (Nat.mul_le_mul_right _ h1)) ?_
          rw [Nat.mul_assoc, Nat.mul_assoc, Nat.mul_assoc, ← Nat.pow_add, ← Nat.pow_add, ← Nat.pow_add]
          exact Nat.mul_le_mul_left _ (Nat.pow_le_pow_right (by omega) (by omega))
        have h3 := k1 _ (cancel (Nat.two_pow_pos _) h2)
        by_cases z : K = 0
        · subst z
          rcases low with z2 | z2 <;> omega
        · omega
end Fl
end Go.Proofs.Yteombmahglbeeaa
