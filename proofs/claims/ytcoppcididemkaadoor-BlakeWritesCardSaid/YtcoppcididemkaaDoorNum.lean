/- Plain arithmetic for the layers words and chacha: numbers of bytes, turned digits, and how the model's operations on unsigned numbers read. Nothing of the program. -/
import Derived.Laws.BitsAllLaws
namespace Go.Proofs.YtcoppcididemkaaDoor
namespace Num

/-- the number of k bytes from place p on, the least first -/
def le (f : Nat → Nat) (p : Nat) : Nat → Nat
  | 0 => 0
  | k + 1 => le f p k + f (p + k) * 2 ^ (8 * k)

/-- the number of k bytes from place p on, the greatest first -/
def be (f : Nat → Nat) (p : Nat) : Nat → Nat
  | 0 => 0
  | k + 1 => be f p k * 256 + f (p + k)

theorem pow8_succ (k : Nat) : 2 ^ (8 * (k + 1)) = 256 * 2 ^ (8 * k) := by
  rw [show 8 * (k + 1) = 8 * k + 8 from by omega, Nat.pow_add]
  omega

theorem le_lt {f : Nat → Nat} (hf : ∀ i, f i < 256) (p k : Nat) : le f p k < 2 ^ (8 * k) := by
  induction k with
  | zero => simp [le]
  | succ k ih =>
    rw [pow8_succ]
    unfold le
    have h := hf (p + k)
    have : f (p + k) * 2 ^ (8 * k) ≤ 255 * 2 ^ (8 * k) := Nat.mul_le_mul_right _ (by omega)
    omega

theorem be_lt {f : Nat → Nat} (hf : ∀ i, f i < 256) (p k : Nat) : be f p k < 2 ^ (8 * k) := by
  induction k with
  | zero => simp [be]
  | succ k ih =>
    rw [pow8_succ]
    unfold be
    have h := hf (p + k)
    omega

theorem pow8_le {k : Nat} (hk : k ≤ 7) : 2 ^ (8 * k) ≤ 2 ^ 56 := Nat.pow_le_pow_right (by omega) (by omega)

theorem le_congr {f g : Nat → Nat} {p q : Nat} (k : Nat) (h : ∀ i, i < k → f (p + i) = g (q + i)) : le f p k = le g q k := by
  induction k with
  | zero => rfl
  | succ k ih =>
    unfold le
    rw [ih (fun i hi => h i (by omega)), h k (by omega)]

theorem be_congr {f g : Nat → Nat} {p q : Nat} (k : Nat) (h : ∀ i, i < k → f (p + i) = g (q + i)) : be f p k = be g q k := by
  induction k with
  | zero => rfl
  | succ k ih =>
    unfold be
    rw [ih (fun i hi => h i (by omega)), h k (by omega)]

/-- the least first, one byte more at the front -/
theorem le_front (f : Nat → Nat) (p k : Nat) : le f p (k + 1) = 256 * le f (p + 1) k + f p := by
  induction k with
  | zero => simp [le]
  | succ k ih =>
    rw [show le f p (k + 1 + 1) = le f p (k + 1) + f (p + (k + 1)) * 2 ^ (8 * (k + 1)) from rfl, ih,
      show le f (p + 1) (k + 1) = le f (p + 1) k + f (p + 1 + k) * 2 ^ (8 * k) from rfl, pow8_succ, show p + 1 + k = p + (k + 1) from by omega]
    rw [Nat.mul_add, Nat.mul_left_comm]
    omega

/-- a number's bytes are its number again -/
theorem le_digits (v k : Nat) : le (fun i => v / 2 ^ (8 * i) % 256) 0 k = v % 2 ^ (8 * k) := by
  induction k with
  | zero => simp [le, Nat.mod_one]
  | succ k ih =>
    unfold le
    rw [ih, Nat.zero_add, pow8_succ, Nat.mul_comm 256, Nat.mod_mul, Nat.mul_comm (v / 2 ^ (8 * k) % 256)]

theorem be_step (f : Nat → Nat) (p k : Nat) : be f p (k + 1) = f p * 2 ^ (8 * k) + be f (p + 1) k := by
  induction k generalizing p with
  | zero => simp [be]
  | succ k ih =>
    rw [show be f p (k + 1 + 1) = be f p (k + 1) * 256 + f (p + (k + 1)) from rfl, ih p, show be f (p + 1) (k + 1) = be f (p + 1) k * 256 + f (p + 1 + k) from rfl,
      pow8_succ, show p + 1 + k = p + (k + 1) from by omega]
    rw [Nat.add_mul, Nat.mul_assoc, Nat.mul_comm 256]
    omega

/-- the greatest first is the least first of the turned row -/
theorem be_le (f : Nat → Nat) (p k : Nat) : be f p k = le (fun i => f (p + (k - 1 - i))) 0 k := by
  induction k generalizing p with
  | zero => rfl
  | succ k ih =>
    rw [be_step, ih (p + 1)]
    rw [show le (fun i => f (p + (k + 1 - 1 - i))) 0 (k + 1) = le (fun i => f (p + (k + 1 - 1 - i))) 0 k + f (p + (k + 1 - 1 - (0 + k))) * 2 ^ (8 * k) from rfl]
    rw [show p + (k + 1 - 1 - (0 + k)) = p from by omega]
    have := le_congr (f := fun i => f (p + 1 + (k - 1 - i))) (g := fun i => f (p + (k + 1 - 1 - i))) (p := 0) (q := 0) k (fun i hi => by
      show f _ = f _
      congr 1
      omega)
    rw [this]
    omega

/-! ### how the model's operations on unsigned numbers read -/
theorem wrap64_nat (a : Nat) : IntKind.u64.wrap (a : Int) = ((a % 18446744073709551616 : Nat) : Int) := by rw [IntKind.wrap_u64]; omega

theorem or_low (a b k : Nat) (hk : k ≤ 7) (ha : a < 2 ^ (8 * k)) (hb : b < 256) :
    bits .or .u64 (a : Int) (IntKind.u64.wrap (IntKind.u64.wrap (b : Int) * 2 ^ (8 * k))) = ((a + b * 2 ^ (8 * k) : Nat) : Int) := by
  have hp := pow8_le hk
  have hb64 : b * 2 ^ (8 * k) < 18446744073709551616 := by
    have : b * 2 ^ (8 * k) ≤ 255 * 2 ^ 56 := Nat.mul_le_mul (by omega) hp
    omega
  have e1 : IntKind.u64.wrap (b : Int) = (b : Int) := by rw [IntKind.wrap_u64]; omega
  have e2 : ((b : Int) * 2 ^ (8 * k)) = ((b * 2 ^ (8 * k) : Nat) : Int) := by rw [Int.natCast_mul, Int.natCast_pow]; rfl
  rw [e1, e2, wrap64_nat, Nat.mod_eq_of_lt hb64, u64_or_nat _ _ (by omega) hb64, Nat.or_comm,
    nat_join (8 * k) (b * 2 ^ (8 * k)) a (Nat.mul_mod_left _ _) ha, Nat.add_comm]

theorem or_high (a b k : Nat) (hk : k ≤ 7) (ha : a < 2 ^ (8 * k)) (hb : b < 256) :
    bits .or .u64 (IntKind.u64.wrap ((a : Int) * 256)) (IntKind.u64.wrap (b : Int)) = ((a * 256 + b : Nat) : Int) := by
  have hp := pow8_le hk
  have e1 : IntKind.u64.wrap (b : Int) = (b : Int) := by rw [IntKind.wrap_u64]; omega
  have e2 : ((a : Int) * 256) = ((a * 256 : Nat) : Int) := by rw [Int.natCast_mul]; rfl
  rw [e1, e2, wrap64_nat, Nat.mod_eq_of_lt (by omega), u64_or_nat _ _ (by omega) (by omega),
    nat_join 8 (a * 256) b (by omega) (by omega)]

/-! ### turned digits -/
/-- v's 32 digits moved up by u (at most 31), those that leave coming in at the other end -/
def rotl (v u : Nat) : Nat := (v * 2 ^ u % 2 ^ 32) ||| (v / 2 ^ (32 - u))

theorem rotl_bit (v u i : Nat) (hv : v < 2 ^ 32) (hu : u ≤ 31) : (rotl v u).testBit i = (decide (i < 32) && v.testBit ((i + 32 - u) % 32)) := by
  unfold rotl
  rw [Nat.testBit_or, Nat.testBit_mod_two_pow, Nat.testBit_mul_two_pow, Nat.testBit_div_two_pow]
  have hbig : ∀ j, 32 ≤ j → v.testBit j = false := fun j hj => Nat.testBit_lt_two_pow (Nat.lt_of_lt_of_le hv (Nat.pow_le_pow_right (by omega) hj))
  by_cases hi : i < 32
  · by_cases hui : u ≤ i
    · rw [hbig (i + (32 - u)) (by omega), show (i + 32 - u) % 32 = i - u from by omega]
      simp [hi, hui]
    · rw [show (i + 32 - u) % 32 = i + (32 - u) from by omega]
      simp [hi, hui]
  · rw [hbig (i + (32 - u)) (by omega)]
    simp [hi]

theorem rotl_lt (v u : Nat) (hv : v < 2 ^ 32) (hu : u ≤ 31) : rotl v u < 2 ^ 32 := by
  refine Nat.lt_pow_two_of_testBit _ fun i hi => ?_
  rw [rotl_bit v u i hv hu]
  simp
  omega

theorem rotl_rotl (v a b c : Nat) (hv : v < 2 ^ 32) (ha : a ≤ 31) (hb : b ≤ 31) (hc : c = (a + b) % 32) : rotl (rotl v a) b = rotl v c := by
  refine Nat.eq_of_testBit_eq fun i => ?_
  rw [rotl_bit _ _ _ (rotl_lt v a hv ha) hb, rotl_bit _ _ _ hv ha, rotl_bit _ _ _ hv (by omega)]
  by_cases hi : i < 32
  · have h1 : (i + 32 - b) % 32 < 32 := by omega
    simp only [hi, h1, decide_true, Bool.true_and]
    congr 1
    omega
  · simp [hi]

theorem rotl_zero (v : Nat) (hv : v < 2 ^ 32) : rotl v 0 = v := by
  unfold rotl
  rw [Nat.pow_zero, Nat.mul_one, Nat.mod_eq_of_lt hv, Nat.div_eq_of_lt hv]
  exact Nat.or_zero v

/-- turned up by one: doubled, and the greatest digit comes in at the other end -/
theorem rotl_one (v : Nat) (hv : v < 2 ^ 32) : rotl v 1 = v * 2 % 2 ^ 32 + v / 2 ^ 31 := by
  unfold rotl
  rw [nat_join 1 _ _ (by omega) (by omega), Nat.pow_one]

theorem and31 (n : Int) : bits .and .i64 n 31 = n % 32 := by
  have h : (BitVec.ofInt 64 n &&& BitVec.ofInt 64 31).toNat = (n % 32).toNat := by
    rw [BitVec.toNat_and, show (BitVec.ofInt 64 31).toNat = 2 ^ 5 - 1 from rfl, Nat.and_two_pow_sub_one_eq_mod]
    rw [BitVec.toNat_ofInt]
    omega
  show IntKind.i64.wrap ((BitVec.ofInt 64 n &&& BitVec.ofInt 64 31).toNat : Int) = _
  rw [h]
  simp [IntKind.wrap, IntKind.bits, IntKind.signed]
  omega

theorem or_rot (v u : Nat) (hv : v < 2 ^ 32) :
    bits .or .u32 ((v : Int) * 2 ^ u % 4294967296) ((v : Int) / 2 ^ (32 - u)) = ((rotl v u : Nat) : Int) := by
  have e1 : ((v : Int) * 2 ^ u % 4294967296) = ((v * 2 ^ u % 4294967296 : Nat) : Int) := by rw [Int.natCast_emod, Int.natCast_mul, Int.natCast_pow]; rfl
  have e2 : ((v : Int) / 2 ^ (32 - u)) = ((v / 2 ^ (32 - u) : Nat) : Int) := by rw [Int.natCast_ediv, Int.natCast_pow]; rfl
  rw [e1, e2, u32_or_nat _ _ (by omega) (Nat.lt_of_le_of_lt (Nat.div_le_self _ _) (by omega))]
  rfl

end Num
end Go.Proofs.YtcoppcididemkaaDoor
