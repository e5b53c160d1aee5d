/- Numbers that are rows of bytes, the least first: sums, products and what is carried, byte by byte. Nothing of the program. -/
import Derived.Test.YtdffbjlbhjppeaaNum
namespace Go.Proofs.Ytdffbjlbhjppeaa
namespace Num

/-- byte i of a number -/
def byt (v i : Nat) : Nat := v / 2 ^ (8 * i) % 256

/-- a row of n bytes, with noughts behind -/
def zx (f : Nat → Nat) (n i : Nat) : Nat := if i < n then f i else 0
theorem zx_lt {f : Nat → Nat} (h : ∀ i, f i < 256) (n i : Nat) : zx f n i < 256 := by
  have := h i
  unfold zx
  split <;> omega
theorem zx_in {f : Nat → Nat} {n i : Nat} (h : i < n) : zx f n i = f i := if_pos h
theorem zx_out {f : Nat → Nat} {n i : Nat} (h : n ≤ i) : zx f n i = 0 := if_neg (by omega)
theorem le_zx (f : Nat → Nat) (n k : Nat) (h : n ≤ k) : le (zx f n) 0 k = le f 0 n := by
  obtain ⟨m, rfl⟩ : ∃ m, k = n + m := ⟨k - n, by omega⟩
  clear h
  induction m with
  | zero => exact le_congr n fun i hi => by rw [Nat.zero_add]; exact zx_in hi
  | succ m ih =>
    rw [show n + (m + 1) = n + m + 1 from rfl, le, ih, zx_out (by omega), Nat.zero_mul, Nat.add_zero]

/-- what is left of a number above its first k bytes, where the number is known byte by byte -/
theorem le_up (f : Nat → Nat) (k m : Nat) : ∃ x, le f 0 (k + m) = le f 0 k + x * 2 ^ (8 * k) := by
  induction m with
  | zero => exact ⟨0, by simp⟩
  | succ m ih =>
    obtain ⟨x, hx⟩ := ih
    refine ⟨x + f (0 + (k + m)) * 2 ^ (8 * m), ?_⟩
    rw [show k + (m + 1) = k + m + 1 from rfl, le, hx, Nat.add_mul, Nat.mul_assoc, ← Nat.pow_add, show 8 * m + 8 * k = 8 * (k + m) by omega]
    omega

/-- a row's number out of both its parts -/
theorem le_cat (f : Nat → Nat) (p m : Nat) : le f 0 (p + m) = le f 0 p + le f p m * 2 ^ (8 * p) := by
  induction m with
  | zero => simp [le]
  | succ m ih =>
    rw [show p + (m + 1) = p + m + 1 from rfl, le, ih, show le f p (m + 1) = le f p m + f (p + m) * 2 ^ (8 * m) from rfl, Nat.zero_add, Nat.add_mul, Nat.mul_assoc (f (p + m)), ← Nat.pow_add, show 8 * m + 8 * p = 8 * (p + m) by omega]
    omega

/-! ### sums -/
/-- what is carried into byte k of a sum -/
def cry (a b : Nat → Nat) (k : Nat) : Nat := (le a 0 k + le b 0 k) / 2 ^ (8 * k)
theorem cry_zero (a b : Nat → Nat) : cry a b 0 = 0 := by simp [cry, le]
theorem cry_le {a b : Nat → Nat} (ha : ∀ i, a i < 256) (hb : ∀ i, b i < 256) (k : Nat) : cry a b k ≤ 1 := by
  unfold cry
  have h1 := le_lt ha 0 k
  have h2 := le_lt hb 0 k
  have := Nat.div_lt_of_lt_mul (show le a 0 k + le b 0 k < 2 ^ (8 * k) * 2 by omega)
  omega
theorem cry_sum (a b : Nat → Nat) (k : Nat) : (le a 0 (k + 1) + le b 0 (k + 1)) / 2 ^ (8 * k) = cry a b k + a k + b k := by
  unfold cry
  rw [le, le, Nat.zero_add, show le a 0 k + a k * 2 ^ (8 * k) + (le b 0 k + b k * 2 ^ (8 * k)) = le a 0 k + le b 0 k + (a k + b k) * 2 ^ (8 * k) by rw [Nat.add_mul]; omega, Nat.add_mul_div_right _ _ (Nat.two_pow_pos _)]
  omega
theorem cry_step (a b : Nat → Nat) (k : Nat) : cry a b (k + 1) = (cry a b k + a k + b k) / 256 := by
  rw [← cry_sum, Nat.div_div_eq_div_mul, Nat.mul_comm (2 ^ (8 * k)), ← pow8_succ]
  rfl
theorem cry_byte (a b : Nat → Nat) (k N : Nat) (hk : k < N) : byt (le a 0 N + le b 0 N) k = (cry a b k + a k + b k) % 256 := by
  obtain ⟨m, rfl⟩ : ∃ m, N = k + 1 + m := ⟨N - (k + 1), by omega⟩
  obtain ⟨x, hx⟩ := le_up a (k + 1) m
  obtain ⟨y, hy⟩ := le_up b (k + 1) m
  unfold byt
  rw [← cry_sum, hx, hy, show le a 0 (k + 1) + x * 2 ^ (8 * (k + 1)) + (le b 0 (k + 1) + y * 2 ^ (8 * (k + 1))) = le a 0 (k + 1) + le b 0 (k + 1) + (x + y) * 256 * 2 ^ (8 * k) by rw [pow8_succ, Nat.mul_assoc (x + y), Nat.add_mul]; omega,
    Nat.add_mul_div_right _ _ (Nat.two_pow_pos _), Nat.add_mul_mod_self_right]

/-! ### products with a byte -/
/-- what is carried into byte k of a product with x -/
def mry (x : Nat) (b : Nat → Nat) (k : Nat) : Nat := x * le b 0 k / 2 ^ (8 * k)
theorem mry_zero (x : Nat) (b : Nat → Nat) : mry x b 0 = 0 := by simp [mry, le]
theorem mry_le {x : Nat} (hx : x < 256) {b : Nat → Nat} (hb : ∀ i, b i < 256) (k : Nat) : mry x b k < 256 := by
  unfold mry
  have h2 := le_lt hb 0 k
  refine Nat.div_lt_of_lt_mul ?_
  have h3 : x * le b 0 k ≤ x * 2 ^ (8 * k) := Nat.mul_le_mul_left _ (Nat.le_of_lt h2)
  have h4 : x * 2 ^ (8 * k) < 256 * 2 ^ (8 * k) := Nat.mul_lt_mul_of_pos_right hx (Nat.two_pow_pos _)
  rw [Nat.mul_comm (2 ^ (8 * k))]
  omega
theorem mry_sum (x : Nat) (b : Nat → Nat) (k : Nat) : x * le b 0 (k + 1) / 2 ^ (8 * k) = mry x b k + x * b k := by
  unfold mry
  rw [le, Nat.zero_add, Nat.mul_add, ← Nat.mul_assoc, Nat.add_mul_div_right _ _ (Nat.two_pow_pos _)]
theorem mry_step (x : Nat) (b : Nat → Nat) (k : Nat) : mry x b (k + 1) = (mry x b k + x * b k) / 256 := by
  rw [← mry_sum, Nat.div_div_eq_div_mul, Nat.mul_comm (2 ^ (8 * k)), ← pow8_succ]
  rfl
theorem mry_byte (x : Nat) (b : Nat → Nat) (k N : Nat) (hk : k < N) : byt (x * le b 0 N) k = (mry x b k + x * b k) % 256 := by
  obtain ⟨m, rfl⟩ : ∃ m, N = k + 1 + m := ⟨N - (k + 1), by omega⟩
  obtain ⟨y, hy⟩ := le_up b (k + 1) m
  unfold byt
  rw [← mry_sum, hy, Nat.mul_add, show x * (y * 2 ^ (8 * (k + 1))) = x * y * 256 * 2 ^ (8 * k) by rw [pow8_succ, ← Nat.mul_assoc, ← Nat.mul_assoc],
    Nat.add_mul_div_right _ _ (Nat.two_pow_pos _), Nat.add_mul_mod_self_right]

/-- a number is its bytes -/
theorem le_byt (v n : Nat) (h : v < 2 ^ (8 * n)) : le (byt v) 0 n = v := by
  have := le_digits v n
  rw [Nat.mod_eq_of_lt h] at this
  exact this
theorem byt_lt (v i : Nat) : byt v i < 256 := Nat.mod_lt _ (by omega)

/-- where the last byte is not 0 a row is no longer than it must -/
theorem le_top (f : Nat → Nat) (n : Nat) (h : n = 0 ∨ f (n - 1) ≠ 0) (K : Nat) (hv : le f 0 n < 2 ^ (8 * K)) : n ≤ K := by
  rcases h with h | h
  · omega
  · rcases Nat.lt_or_ge K n with hlt | hge
    · exfalso
      obtain ⟨m, rfl⟩ : ∃ m, n = m + 1 := ⟨n - 1, by omega⟩
      rw [le, Nat.zero_add] at hv
      rw [Nat.add_sub_cancel] at h
      have h1 : 2 ^ (8 * K) ≤ 2 ^ (8 * m) := Nat.pow_le_pow_right (by omega) (by omega)
      have h2 : 1 * 2 ^ (8 * m) ≤ f m * 2 ^ (8 * m) := Nat.mul_le_mul_right _ (by omega)
      omega
    · exact hge
theorem le_top_zero (f : Nat → Nat) (n : Nat) (h : n = 0 ∨ f (n - 1) ≠ 0) : n = 0 ↔ le f 0 n = 0 := by
  constructor
  · rintro rfl
    rfl
  · intro e
    have := le_top f n h 0 (by rw [e]; exact Nat.two_pow_pos _)
    omega

end Num
end Go.Proofs.Ytdffbjlbhjppeaa
