/- Poly1305 as plain arithmetic: numbers of five limbs of 26 digits, their products modulo the prime, marks of texts. Nothing of the program. -/
import Derived.Test.YthjmbfhakccomaaNum
namespace Go.Proofs.Ythjmbfhakccomaa
namespace PolyN
open Num

/-- the number of k limbs of 26 digits -/
def lv (a : Nat → Nat) : Nat → Nat
  | 0 => 0
  | k + 1 => lv a k + a k * 2 ^ (26 * k)

theorem pow26_succ (k : Nat) : 2 ^ (26 * (k + 1)) = 2 ^ (26 * k) * 67108864 := by
  rw [show 26 * (k + 1) = 26 * k + 26 from by omega, Nat.pow_add]

theorem lv_congr {a b : Nat → Nat} (k : Nat) (h : ∀ i, i < k → a i = b i) : lv a k = lv b k := by
  induction k with
  | zero => rfl
  | succ k ih => rw [lv, lv, ih (fun i hi => h i (by omega)), h k (by omega)]

theorem lv_lt {a : Nat → Nat} (k : Nat) (h : ∀ i, i < k → a i < 67108864) : lv a k < 2 ^ (26 * k) := by
  induction k with
  | zero => simp [lv]
  | succ k ih =>
    have h1 := ih (fun i hi => h i (by omega))
    have h2 : a k * 2 ^ (26 * k) ≤ 67108863 * 2 ^ (26 * k) := Nat.mul_le_mul_right _ (by have := h k (by omega); omega)
    rw [lv, pow26_succ]
    omega

theorem lv_digits (v k : Nat) : lv (fun i => v / 2 ^ (26 * i) % 67108864) k = v % 2 ^ (26 * k) := by
  induction k with
  | zero => simp [lv, Nat.mod_one]
  | succ k ih =>
    rw [lv, ih, pow26_succ, Nat.mod_mul, Nat.mul_comm (v / 2 ^ (26 * k) % 67108864)]

theorem lv_add (a b : Nat → Nat) (k : Nat) : lv (fun i => a i + b i) k = lv a k + lv b k := by
  induction k with
  | zero => rfl
  | succ k ih => rw [lv, lv, lv, ih, Nat.add_mul]; omega

/-! ### carrying -/
/-- what comes to limb k -/
def pc (a : Nat → Nat) (over : Nat) : Nat → Nat
  | 0 => over
  | k + 1 => (a k + pc a over k) / 67108864
/-- what stays in limb i -/
def po (a : Nat → Nat) (over i : Nat) : Nat := (a i + pc a over i) % 67108864

theorem po_lt (a : Nat → Nat) (over i : Nat) : po a over i < 67108864 := Nat.mod_lt _ (by omega)

theorem pass_val (a : Nat → Nat) (over k : Nat) : lv (po a over) k + pc a over k * 2 ^ (26 * k) = lv a k + over := by
  induction k with
  | zero => simp [lv, pc]
  | succ k ih =>
    rw [lv, lv, pow26_succ, pc, po]
    have h := Nat.div_add_mod (a k + pc a over k) 67108864
    generalize (a k + pc a over k) / 67108864 = q at h
    generalize (a k + pc a over k) % 67108864 = r at h
    have e : (r + q * 67108864) * 2 ^ (26 * k) = (a k + pc a over k) * 2 ^ (26 * k) := by rw [← h, Nat.mul_comm 67108864 q, Nat.add_comm]
    rw [Nat.add_mul, Nat.add_mul] at e
    rw [show q * (2 ^ (26 * k) * 67108864) = q * 67108864 * 2 ^ (26 * k) by rw [Nat.mul_assoc, Nat.mul_comm 67108864]]
    omega

/-- the prime -/
def P : Nat := 1361129467683753853853498429727072845819
theorem P_eq : P + 5 = 2 ^ (26 * 5) := by decide +kernel
theorem P_pos : 0 < P := by decide +kernel

/-- carried: what leaves the last limb comes to the first five times -/
def ca (a : Nat → Nat) (i : Nat) : Nat := if i = 0 then po a 0 0 + 5 * pc a 0 5 else po a 0 i

theorem ca_val (a : Nat → Nat) : lv (ca a) 5 + P * pc a 0 5 = lv a 5 := by
  have h := pass_val a 0 5
  rw [← P_eq] at h
  have e : lv (ca a) 5 = lv (po a 0) 5 + 5 * pc a 0 5 := by
    simp only [lv, ca]
    simp
    omega
  rw [Nat.mul_add, Nat.add_zero] at h
  rw [e, ← h, Nat.mul_comm P]
  omega

theorem ca_mod (a : Nat → Nat) : lv (ca a) 5 % P = lv a 5 % P := by
  rw [← ca_val a, Nat.add_mul_mod_self_left]

/-- a sum of products, carried once -/
theorem ca_wide (a : Nat → Nat) (h : ∀ i, i < 5 → a i < 4611686018427387904) : (∀ i, i < 5 → ca a i < 1099511627776) ∧ ∀ i, 1 ≤ i → i < 5 → ca a i < 67108864 := by
  have h0 := h 0 (by omega)
  have h1 := h 1 (by omega)
  have h2 := h 2 (by omega)
  have h3 := h 3 (by omega)
  have h4 := h 4 (by omega)
  have c1 : pc a 0 1 ≤ 137438953472 := by simp only [pc]; omega
  have c2 : pc a 0 2 ≤ 137438953472 := by rw [pc]; omega
  have c3 : pc a 0 3 ≤ 137438953472 := by rw [pc]; omega
  have c4 : pc a 0 4 ≤ 137438953472 := by rw [pc]; omega
  have c5 : pc a 0 5 ≤ 137438953472 := by rw [pc]; omega
  refine ⟨fun i hi => ?_, fun i hi _ => ?_⟩
  · unfold ca
    have := po_lt a 0 0
    have := po_lt a 0 i
    split <;> omega
  · unfold ca
    rw [if_neg (by omega)]
    exact po_lt _ _ _

/-- carried twice -/
theorem ca_twice (a : Nat → Nat) (h : ∀ i, i < 5 → a i < 1099511627776) (h' : ∀ i, 1 ≤ i → i < 5 → a i < 67108864) : pc a 0 5 ≤ 1 ∧ (∀ i, i < 5 → ca a i < 67108869) ∧ ∀ i, 1 ≤ i → i < 5 → ca a i < 67108864 := by
  have h0 := h 0 (by omega)
  have h1 := h' 1 (by omega) (by omega)
  have h2 := h' 2 (by omega) (by omega)
  have h3 := h' 3 (by omega) (by omega)
  have h4 := h' 4 (by omega) (by omega)
  have c1 : pc a 0 1 ≤ 16384 := by simp only [pc]; omega
  have c2 : pc a 0 2 ≤ 1 := by rw [pc]; omega
  have c3 : pc a 0 3 ≤ 1 := by rw [pc]; omega
  have c4 : pc a 0 4 ≤ 1 := by rw [pc]; omega
  have c5 : pc a 0 5 ≤ 1 := by rw [pc]; omega
  refine ⟨c5, fun i hi => ?_, fun i hi _ => ?_⟩
  · unfold ca
    have := po_lt a 0 0
    have := po_lt a 0 i
    split <;> omega
  · unfold ca
    rw [if_neg (by omega)]
    exact po_lt _ _ _

/-- carried three times: all limbs fit -/
theorem ca_thrice (a : Nat → Nat) (h : ∀ i, i < 5 → a i < 67108869) (h' : ∀ i, 1 ≤ i → i < 5 → a i < 67108864) : ∀ i, i < 5 → ca a i < 67108864 := by
  have h0 := h 0 (by omega)
  have h1 := h' 1 (by omega) (by omega)
  have h2 := h' 2 (by omega) (by omega)
  have h3 := h' 3 (by omega) (by omega)
  have h4 := h' 4 (by omega) (by omega)
  have e1 : pc a 0 1 = (a 0 + 0) / 67108864 := rfl
  have e2 : pc a 0 2 = (a 1 + pc a 0 1) / 67108864 := rfl
  have e3 : pc a 0 3 = (a 2 + pc a 0 2) / 67108864 := rfl
  have e4 : pc a 0 4 = (a 3 + pc a 0 3) / 67108864 := rfl
  have e5 : pc a 0 5 = (a 4 + pc a 0 4) / 67108864 := rfl
  have e0 : po a 0 0 = (a 0 + 0) % 67108864 := rfl
  intro i hi
  unfold ca
  have := po_lt a 0 i
  split <;> omega

/-- the number below the prime -/
def lo (a : Nat → Nat) (i : Nat) : Nat := if pc (ca a) 5 5 = 0 then ca a i else po (ca a) 5 i

theorem lo_spec (a : Nat → Nat) (h : ∀ i, i < 5 → a i < 67108869) (h' : ∀ i, 1 ≤ i → i < 5 → a i < 67108864) :
    pc (ca a) 5 5 ≤ 1 ∧ lv (lo a) 5 = lv a 5 % P ∧ ∀ i, i < 5 → lo a i < 67108864 := by
  have hc := ca_thrice a h h'
  have hlt := lv_lt 5 hc
  have hv := pass_val (ca a) 5 5
  have hpo := lv_lt (a := po (ca a) 5) 5 (fun i _ => po_lt _ _ _)
  have hm := ca_mod a
  rw [← P_eq] at hlt hv hpo
  have hP : 5 < P := by decide +kernel
  generalize lv (ca a) 5 = A at hlt hv hm
  generalize lv (po (ca a) 5) 5 = B at hv hpo
  have hle : pc (ca a) 5 5 ≤ 1 := by
    rcases Nat.lt_or_ge 1 (pc (ca a) 5 5) with hgt | hge
    · have : 2 * (P + 5) ≤ pc (ca a) 5 5 * (P + 5) := Nat.mul_le_mul_right _ hgt
      omega
    · exact hge
  refine ⟨hle, ?_, ?_⟩
  · rcases Nat.eq_zero_or_pos (pc (ca a) 5 5) with e | e
    · have : lv (lo a) 5 = lv (ca a) 5 := lv_congr 5 fun i _ => by unfold lo; rw [if_pos e]
      rw [this]
      have hA : lv (ca a) 5 < P := by
        have h2 := pass_val (ca a) 5 5
        rw [e] at h2
        have h3 := lv_lt (a := po (ca a) 5) 5 (fun i _ => po_lt _ _ _)
        rw [← P_eq] at h3
        omega
      rw [← ca_mod a, Nat.mod_eq_of_lt hA]
    · have e1 : pc (ca a) 5 5 = 1 := by omega
      have : lv (lo a) 5 = lv (po (ca a) 5) 5 := lv_congr 5 fun i _ => by unfold lo; rw [if_neg (by omega)]
      rw [this, ← ca_mod a]
      have h2 := pass_val (ca a) 5 5
      rw [e1, ← P_eq] at h2
      have h3 := lv_lt (a := ca a) 5 hc
      rw [← P_eq] at h3
      have e3 : lv (ca a) 5 = lv (po (ca a) 5) 5 + P := by omega
      rw [e3, Nat.add_mod_right, Nat.mod_eq_of_lt (by omega)]
  · intro i hi
    unfold lo
    split
    · exact hc i hi
    · exact po_lt _ _ _

/-! ### products -/
/-- row i of a product, j columns of it -/
def tmj (a b : Nat → Nat) (i : Nat) : Nat → Nat → Nat
  | 0, _ => 0
  | j + 1, k => tmj a b i j k + if (i + j) % 5 = k then a i * b j * (if 5 ≤ i + j then 5 else 1) else 0
/-- i rows of a product -/
def tmi (a b : Nat → Nat) : Nat → Nat → Nat
  | 0, _ => 0
  | i + 1, k => tmi a b i k + tmj a b i 5 k
/-- i rows and j columns -/
def tm (a b : Nat → Nat) (i j k : Nat) : Nat := tmi a b i k + tmj a b i j k

theorem tm_zero (a b : Nat → Nat) (k : Nat) : tm a b 0 0 k = 0 := rfl
theorem tm_row (a b : Nat → Nat) (i k : Nat) : tm a b (i + 1) 0 k = tm a b i 5 k := rfl
theorem tm_step (a b : Nat → Nat) (i j k : Nat) : tm a b i (j + 1) k = tm a b i j k + if (i + j) % 5 = k then a i * b j * (if 5 ≤ i + j then 5 else 1) else 0 := by
  unfold tm
  rw [tmj]
  omega

theorem lv_bump (f : Nat → Nat) (m c n : Nat) (h : m < n) : lv (fun k => f k + if m = k then c else 0) n = lv f n + c * 2 ^ (26 * m) := by
  induction n with
  | zero => omega
  | succ n ih =>
    rw [lv, lv]
    by_cases e : m = n
    · subst e
      have : lv (fun k => f k + if m = k then c else 0) m = lv f m := lv_congr m fun i hi => by simp; omega
      rw [this, if_pos rfl, Nat.add_mul]
      omega
    · rw [ih (by omega), if_neg e]
      simp only [Nat.add_zero]
      omega

section
variable (q : Nat) (hq : q + 5 = 2 ^ (26 * 5))
include hq
theorem term_mod (x i j : Nat) (hi : i < 5) (hj : j < 5) : (x * (if 5 ≤ i + j then 5 else 1)) * 2 ^ (26 * ((i + j) % 5)) % q = x * 2 ^ (26 * i) * 2 ^ (26 * j) % q := by
  by_cases h : 5 ≤ i + j
  · rw [if_pos h]
    have e : 26 * i + 26 * j = 26 * ((i + j) % 5) + 26 * 5 := by omega
    rw [Nat.mul_assoc x (2 ^ (26 * i)), ← Nat.pow_add, e, Nat.pow_add, ← hq]
    generalize 2 ^ (26 * ((i + j) % 5)) = y
    rw [show x * (y * (q + 5)) = x * 5 * y + q * (x * y) by rw [Nat.mul_add, Nat.mul_add, Nat.mul_comm q (x * y), Nat.mul_assoc x y q, Nat.mul_comm y 5, Nat.mul_assoc]; omega, Nat.add_mul_mod_self_left]
  · rw [if_neg h, Nat.mul_one, Nat.mod_eq_of_lt (by omega : i + j < 5), Nat.mul_assoc x, ← Nat.pow_add, Nat.mul_add]

omit hq in
theorem tm_mod (ht : ∀ x i j : Nat, i < 5 → j < 5 → (x * (if 5 ≤ i + j then 5 else 1)) * 2 ^ (26 * ((i + j) % 5)) % q = x * 2 ^ (26 * i) * 2 ^ (26 * j) % q) (a b : Nat → Nat) (i j : Nat) (hi : i < 5) (hj : j ≤ 5) (h : lv (tm a b i 0) 5 % q = (lv a i * lv b 5) % q) :
    lv (tm a b i j) 5 % q = (lv a i * lv b 5 + a i * 2 ^ (26 * i) * lv b j) % q := by
  induction j with
  | zero => rw [h, show lv b 0 = 0 from rfl, Nat.mul_zero, Nat.add_zero]
  | succ j ih =>
    have e : lv (tm a b i (j + 1)) 5 = lv (tm a b i j) 5 + (a i * b j * (if 5 ≤ i + j then 5 else 1)) * 2 ^ (26 * ((i + j) % 5)) := by
      rw [← lv_bump (tm a b i j) ((i + j) % 5) _ 5 (Nat.mod_lt _ (Nat.zero_lt_succ 4))]
      exact lv_congr 5 fun k _ => tm_step a b i j k
    rw [e, Nat.add_mod, ih (Nat.le_of_succ_le hj), ht _ i j hi hj, ← Nat.add_mod]
    rw [show lv b (j + 1) = lv b j + b j * 2 ^ (26 * j) from rfl]
    generalize lv a i * lv b 5 = x
    generalize 2 ^ (26 * i) = y
    generalize 2 ^ (26 * j) = z
    generalize lv b j = u
    generalize a i = v
    generalize b j = s
    clear h ih e ht
    have : x + v * y * u + v * s * y * z = x + v * y * (u + s * z) := by
      rw [Nat.mul_add, ← Nat.add_assoc]
      congr 1
      rw [Nat.mul_assoc v s y, Nat.mul_comm s y, ← Nat.mul_assoc, Nat.mul_assoc]
    rw [this]

theorem tm_rows (a b : Nat → Nat) (i : Nat) (hi : i ≤ 5) : lv (tm a b i 0) 5 % q = (lv a i * lv b 5) % q := by
  induction i with
  | zero => simp [lv, tm, tmi, tmj]
  | succ i ih =>
    have := tm_mod q (term_mod q hq) a b i 5 hi (Nat.le_refl 5) (ih (Nat.le_of_lt hi))
    rw [show lv (tm a b (i + 1) 0) 5 = lv (tm a b i 5) 5 from lv_congr 5 fun k _ => tm_row a b i k, this, show lv a (i + 1) = lv a i + a i * 2 ^ (26 * i) from rfl, Nat.add_mul]

end

theorem tm_small (a b : Nat → Nat) (ha : ∀ i, i < 5 → a i < 268435456) (hb : ∀ i, i < 5 → b i < 67108864) (i j k : Nat) (hi : i < 5) (hj : j ≤ 5) (h : tm a b i 0 k ≤ i * 450359962737049600) :
    tm a b i j k ≤ i * 450359962737049600 + j * 90071992547409920 := by
  induction j with
  | zero => simpa using h
  | succ j ih =>
    rw [tm_step]
    have h1 := ih (by omega)
    have h2 : a i * b j ≤ 268435456 * 67108864 := Nat.mul_le_mul (Nat.le_of_lt (ha i hi)) (Nat.le_of_lt (hb j (by omega)))
    have h3 : (if (i + j) % 5 = k then a i * b j * (if 5 ≤ i + j then 5 else 1) else 0) ≤ 90071992547409920 := by
      split
      · split <;> omega
      · omega
    omega
theorem tm_small_row (a b : Nat → Nat) (ha : ∀ i, i < 5 → a i < 268435456) (hb : ∀ i, i < 5 → b i < 67108864) (i k : Nat) (hi : i ≤ 5) : tm a b i 0 k ≤ i * 450359962737049600 := by
  induction i with
  | zero => simp [tm, tmi, tmj]
  | succ i ih =>
    rw [tm_row]
    have := tm_small a b ha hb i 5 k (by omega) (by omega) (ih (by omega))
    omega
theorem tm_bound (a b : Nat → Nat) (ha : ∀ i, i < 5 → a i < 268435456) (hb : ∀ i, i < 5 → b i < 67108864) (i j k : Nat) (hi : i < 5) (hj : j ≤ 5) : tm a b i j k < 4611686018427387904 := by
  have := tm_small a b ha hb i j k hi hj (tm_small_row a b ha hb i k (by omega))
  omega
/-- what a product is -/
def ti (a b : Nat → Nat) : Nat → Nat := ca (ca (tm a b 5 0))

theorem ti_spec (a b : Nat → Nat) (ha : ∀ i, i < 5 → a i < 268435456) (hb : ∀ i, i < 5 → b i < 67108864) :
    lv (ti a b) 5 % P = lv a 5 * lv b 5 % P ∧ (∀ i, i < 5 → ti a b i < 67108869) ∧ (∀ i, 1 ≤ i → i < 5 → ti a b i < 67108864) := by
  have hw := ca_wide (tm a b 5 0) (fun k _ => by
    have := tm_small_row a b ha hb 5 k (by omega)
    omega)
  have ht := ca_twice _ hw.1 hw.2
  refine ⟨?_, ht.2.1, ht.2.2⟩
  unfold ti
  rw [ca_mod, ca_mod, tm_rows P P_eq a b 5 (by omega)]

/-! ### bytes and limbs -/
theorem le_part (f : Nat → Nat) (hf : ∀ i, f i < 256) (n p k : Nat) (h : p + k ≤ n) : le f p k = le f 0 n / 2 ^ (8 * p) % 2 ^ (8 * k) := by
  have split : ∀ m, le f 0 (p + m) = le f 0 p + le f p m * 2 ^ (8 * p) := by
    intro m
    induction m with
    | zero => simp [le]
    | succ m ih =>
      rw [show p + (m + 1) = p + m + 1 from rfl, le, ih, le, Nat.add_mul, Nat.zero_add, Nat.mul_assoc (f (p + m)), ← Nat.pow_add]
      rw [show 8 * m + 8 * p = 8 * (p + m) by omega]
      omega
  have split2 : ∀ m, le f p (k + m) % 2 ^ (8 * k) = le f p k := by
    intro m
    induction m with
    | zero => exact Nat.mod_eq_of_lt (le_lt hf p k)
    | succ m ih =>
      rw [show k + (m + 1) = k + m + 1 from rfl, le, show 8 * (k + m) = 8 * k + 8 * m by omega, Nat.pow_add, ← Nat.mul_assoc, Nat.mul_comm (f (p + (k + m))), Nat.mul_assoc, Nat.add_mul_mod_self_left]
      exact ih
  obtain ⟨m, rfl⟩ : ∃ m, n = p + (k + m) := ⟨n - p - k, by omega⟩
  rw [split, Nat.add_mul_div_right _ _ (Nat.two_pow_pos _), Nat.div_eq_of_lt (le_lt hf 0 p), Nat.zero_add, split2]

/-- limb i of seventeen bytes -/
def sp (f : Nat → Nat) (i : Nat) : Nat := le f 0 17 / 2 ^ (26 * i) % 67108864

theorem sp_lt (f : Nat → Nat) (i : Nat) : sp f i < 67108864 := Nat.mod_lt _ (by omega)
theorem sp_val (f : Nat → Nat) (h : le f 0 17 < 2 ^ (26 * 5)) : lv (sp f) 5 = le f 0 17 := by
  have := lv_digits (le f 0 17) 5
  rw [Nat.mod_eq_of_lt h] at this
  exact this
theorem sp_load (f : Nat → Nat) (hf : ∀ i, f i < 256) (i p s : Nat) (hp : p + 4 ≤ 17) (hs : s ≤ 6) (h : 8 * p + s = 26 * i) : le f p 4 / 2 ^ s % 67108864 = sp f i := by
  rw [le_part f hf 17 p 4 hp, sp, ← h, Nat.pow_add, ← Nat.div_div_eq_div_mul]
  generalize le f 0 17 / 2 ^ (8 * p) = x
  have e : 2 ^ (8 * 4) = 2 ^ s * 2 ^ (32 - s) := by rw [← Nat.pow_add]; congr 1; omega
  rw [e, Nat.mod_mul_right_div_self, show 2 ^ (32 - s) = 67108864 * 2 ^ (6 - s) by rw [show 32 - s = 26 + (6 - s) by omega, Nat.pow_add], Nat.mod_mul_right_mod]

end PolyN
end Go.Proofs.Ythjmbfhakccomaa
