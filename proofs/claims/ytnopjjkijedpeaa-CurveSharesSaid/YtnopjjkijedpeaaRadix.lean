/- Numbers of limbs of any base: their values, digits, and what is carried. Nothing of the program. -/
import Derived.Test.YtnopjjkijedpeaaNum
namespace Go.Proofs.Ytnopjjkijedpeaa
namespace Radix

/-- the number of k limbs of base X -/
def rv (X : Nat) (a : Nat → Nat) : Nat → Nat
  | 0 => 0
  | k + 1 => rv X a k + a k * X ^ k
/-- limb i of a number -/
def dg (X v i : Nat) : Nat := v / X ^ i % X
/-- what comes to limb k -/
def cy (X : Nat) (a : Nat → Nat) (over : Nat) : Nat → Nat
  | 0 => over
  | k + 1 => (a k + cy X a over k) / X

theorem rv_congr {X : Nat} {a b : Nat → Nat} (k : Nat) (h : ∀ i, i < k → a i = b i) : rv X a k = rv X b k := by
  induction k with
  | zero => rfl
  | succ k ih => rw [rv, rv, ih (fun i hi => h i (by omega)), h k (by omega)]

theorem rv_lt {X : Nat} {a : Nat → Nat} (k : Nat) (h : ∀ i, i < k → a i < X) : rv X a k < X ^ k := by
  induction k with
  | zero => simp [rv]
  | succ k ih =>
    have h1 := ih (fun i hi => h i (by omega))
    have h2 : (a k + 1) * X ^ k ≤ X * X ^ k := Nat.mul_le_mul_right _ (h k (by omega))
    rw [rv, Nat.pow_succ, Nat.mul_comm (X ^ k)]
    rw [Nat.add_mul] at h2
    omega

theorem dg_lt {X : Nat} (hX : 0 < X) (v i : Nat) : dg X v i < X := Nat.mod_lt _ hX

theorem rv_dg (X v k : Nat) : rv X (dg X v) k = v % X ^ k := by
  induction k with
  | zero => simp [rv, Nat.mod_one]
  | succ k ih => rw [rv, ih, Nat.pow_succ, Nat.mod_mul, dg, Nat.mul_comm (v / X ^ k % X)]

theorem cy_val {X : Nat} (a : Nat → Nat) (over k : Nat) : rv X (fun i => (a i + cy X a over i) % X) k + cy X a over k * X ^ k = rv X a k + over := by
  induction k with
  | zero => simp [rv, cy]
  | succ k ih =>
    rw [rv, rv, cy]
    have h := Nat.div_add_mod (a k + cy X a over k) X
    generalize (a k + cy X a over k) / X = q at h
    generalize (a k + cy X a over k) % X = r at h
    have e : (X * q + r) * X ^ k = (a k + cy X a over k) * X ^ k := by rw [h]
    rw [Nat.add_mul, Nat.add_mul] at e
    rw [show q * X ^ (k + 1) = X * q * X ^ k by rw [Nat.pow_succ, Nat.mul_comm (X ^ k), ← Nat.mul_assoc, Nat.mul_comm q]]
    omega

/-- what is carried out of k limbs -/
theorem cy_div {X : Nat} (hX : 0 < X) (a : Nat → Nat) (over k : Nat) : cy X a over k = (rv X a k + over) / X ^ k := by
  have h := cy_val (X := X) a over k
  have h2 := rv_lt (X := X) (a := fun i => (a i + cy X a over i) % X) k (fun i _ => Nat.mod_lt _ hX)
  rw [← h, Nat.add_mul_div_right _ _ (Nat.pow_pos hX), Nat.div_eq_of_lt h2, Nat.zero_add]

/-- the limbs of a number with another one above it -/
theorem dg_low {X : Nat} (hX : 0 < X) (a x : Nat) (i k : Nat) (h : i < k) : dg X (a + x * X ^ k) i = dg X a i := by
  unfold dg
  obtain ⟨m, rfl⟩ : ∃ m, k = i + 1 + m := ⟨k - (i + 1), by omega⟩
  rw [show x * X ^ (i + 1 + m) = x * X ^ m * X * X ^ i by rw [Nat.pow_add, Nat.pow_succ]; ac_rfl, Nat.add_mul_div_right _ _ (Nat.pow_pos hX), Nat.add_mul_mod_self_right]

theorem dg_mod {X : Nat} (hX : 0 < X) (v i k : Nat) (h : i < k) : dg X (v % X ^ k) i = dg X v i := by
  have e := Nat.div_add_mod v (X ^ k)
  rw [Nat.mul_comm, Nat.add_comm] at e
  conv => rhs; rw [← e]
  rw [dg_low hX _ _ i k h]

/-- the limbs of a row are the digits of its number -/
theorem dg_rv {X : Nat} (hX : 0 < X) {a : Nat → Nat} (n : Nat) (h : ∀ i, i < n → a i < X) (i : Nat) (hi : i < n) : dg X (rv X a n) i = a i := by
  obtain ⟨m, rfl⟩ : ∃ m, n = i + 1 + m := ⟨n - (i + 1), by omega⟩
  have key : ∃ x, rv X a (i + 1 + m) = rv X a (i + 1) + x * X ^ (i + 1) := by
    clear h hi
    induction m with
    | zero => exact ⟨0, by simp⟩
    | succ m ih =>
      obtain ⟨x, hx⟩ := ih
      refine ⟨x + a (i + 1 + m) * X ^ m, ?_⟩
      rw [show i + 1 + (m + 1) = i + 1 + m + 1 from rfl, rv, hx, Nat.add_mul, Nat.mul_assoc, ← Nat.pow_add, Nat.add_comm m (i + 1), Nat.add_assoc]
  obtain ⟨x, hx⟩ := key
  rw [hx, dg_low hX _ _ i (i + 1) (by omega), rv, dg, Nat.add_mul_div_right _ _ (Nat.pow_pos hX), Nat.div_eq_of_lt (rv_lt i (fun j hj => h j (by omega))), Nat.zero_add, Nat.mod_eq_of_lt (h i (by omega))]

/-- what stays in a limb -/
theorem cy_stay {X : Nat} (hX : 0 < X) (a : Nat → Nat) (over n i : Nat) (hi : i < n) : (a i + cy X a over i) % X = dg X (rv X a n + over) i := by
  rw [← cy_val (X := X) a over n, dg_low hX _ _ i n hi, dg_rv hX (a := fun i => (a i + cy X a over i) % X) n (fun i _ => Nat.mod_lt _ hX) i hi]

theorem dg_eq {X : Nat} {n v w : Nat} (hv : v < X ^ n) (hw : w < X ^ n) (h : ∀ i, i < n → dg X v i = dg X w i) : v = w := by
  have h1 := rv_dg X v n
  have h2 := rv_dg X w n
  rw [Nat.mod_eq_of_lt hv] at h1
  rw [Nat.mod_eq_of_lt hw] at h2
  rw [← h1, ← h2]
  exact rv_congr n h

theorem cy_lt {X : Nat} (a : Nat → Nat) (over n B : Nat) (ho : over < B) (h : ∀ i c, i < n → c < B → (a i + c) / X < B) : ∀ k, k ≤ n → cy X a over k < B
  | 0, _ => ho
  | k + 1, hk => h k _ (by omega) (cy_lt a over n B ho h k (by omega))

/-- a number of bytes is a number of limbs of base 256 -/
theorem le_rv (f : Nat → Nat) (k : Nat) : Num.le f 0 k = rv 256 f k := by
  induction k with
  | zero => rfl
  | succ k ih => rw [rv, Num.le, ih, Nat.zero_add, show (256 : Nat) = 2 ^ 8 from rfl, ← Nat.pow_mul]

end Radix
end Go.Proofs.Ytnopjjkijedpeaa
