/- A secret's number, and what Mul makes of the places 0, 1 and the prime less 1; places that are the same. -/
import Derived.Test.YtnopjjkijedpeaaCurveMul
import Derived.Test.YtnopjjkijedpeaaCurveMath
namespace Go.Proofs.Ytnopjjkijedpeaa
namespace Curve
open Go.ChangeShapes Go.WideShapes Go.ChangeAt Go.RowKit
open Num Mem Words Radix FieldN Chacha Quiet Go.Proofs.Ytnopjjkijedpeaa.Field Edwards

theorem le_last (f : Nat → Nat) : le f 0 32 = le f 0 31 + f 31 * 2 ^ 248 := by
  rw [show (32 : Nat) = 31 + 1 from rfl, le]
theorem sk_form (s : Nat → Nat) (hs : ∀ i, s i < 256) : ∃ m, sk s = 8 * m ∧ 0 < m ∧ m < 2 ^ 252 := by
  have h1 := le_front (clF s) 0 31
  have h2 := le_last (clF s)
  have h3 := le_lt (clF_lt hs) 0 31
  have e0 : clF s 0 = s 0 - s 0 % 8 := by
    unfold clF
    rw [if_neg (by omega), if_pos rfl]
  have e31 : clF s 31 = s 31 % 64 + 64 := by
    unfold clF
    rw [if_pos rfl]
  rw [e0] at h1
  rw [e31] at h2
  have hsk : sk s = le (clF s) 0 32 := rfl
  rw [hsk]
  have h5 : (31 + 1 : Nat) = 32 := rfl
  rw [h5] at h1
  generalize le (clF s) 0 32 = E at h1 h2 ⊢
  generalize le (clF s) (0 + 1) 31 = A at h1
  generalize le (clF s) 0 31 = D at h2 h3
  refine ⟨32 * A + s 0 / 8, ?_, ?_, ?_⟩ <;> omega
theorem cl_twice (s : Nat → Nat) (i : Nat) : clF (clF s) i = clF s i := by
  unfold clF
  by_cases e : i = 31
  · rw [if_pos e, if_pos e, if_pos rfl]
    omega
  · rw [if_neg e, if_neg e]
    by_cases e2 : i = 0
    · rw [if_pos e2, if_pos e2, if_neg (by omega), if_pos rfl]
      omega
    · rw [if_neg e2, if_neg e2]

theorem sk_clamp (s : Nat → Nat) : sk (clF s) = sk s := le_congr 32 fun _ _ => cl_twice s _

theorem mulN_comm (a b : Nat → Nat) (ha : ∀ i, a i < 256) (hb : ∀ i, b i < 256) (u : Fin P) : mulN a (mulN b u) = mulN b (mulN a u) := by
  obtain ⟨m, hm, _, hm2⟩ := sk_form a ha
  obtain ⟨n, hn, _, hn2⟩ := sk_form b hb
  unfold mulN
  rw [hm, hn, show 8 * m = 2 * (4 * m) by omega, show 8 * n = 2 * (4 * n) by omega]
  exact lad_comm (4 * m) (4 * n) (by omega) (by omega) u
theorem mulN_nine (a : Nat → Nat) (ha : ∀ i, a i < 256) : mulN a Curve.nine ≠ 0 := by
  obtain ⟨m, hm, h1, h2⟩ := sk_form a ha
  unfold mulN
  rw [hm]
  exact nine_once m h1 h2
theorem mulN_agree (a b : Nat → Nat) (ha : ∀ i, a i < 256) (hb : ∀ i, b i < 256) : mulN a (mulN b Curve.nine) ≠ 0 := by
  obtain ⟨m, hm, h1, h2⟩ := sk_form a ha
  obtain ⟨n, hn, h3, h4⟩ := sk_form b hb
  unfold mulN
  rw [hm, hn]
  exact nine_twice m n h1 h2 h3 h4
theorem mulN_zero (a : Nat → Nat) : mulN a 0 = 0 := lad_zero _

theorem one_place (C : Ctx P) (h0 : C.iv 0 = 0) (k : Fin P) (hk : (k + 1) * C.d = k) (hk1 : k + 1 ≠ 0) (n m : Nat) (hN : 2 * (2 * n) < 2 ^ (m + 1)) (he : n % 2 = 0) : out C k 1 (2 * (2 * n)) (m + 1) = 0 := by
  obtain ⟨j, rfl⟩ : ∃ j, n = 2 * j := ⟨n / 2, by omega⟩
  have hQ : On C (⟨1, 0⟩ : Pt P) := by
    simp only [On]
    grind
  have hi := C.inv 1 C.one
  have hy : outY C (0 : Fin P) = 1 := by
    unfold outY
    rw [show (1 : Fin P) - 0 = 1 by grind, show (1 : Fin P) + 0 = 1 by grind]
    exact hi
  have h2y : (mu C (⟨1, 0⟩ : Pt P) 2).y = -1 := by
    rw [show (2 : Nat) = 1 + 1 from rfl, mu_add C hQ, mu_one]
    have h := add_y C hQ hQ
    simp only at h
    rw [show (1 : Fin P) - C.d * 1 * 1 * 0 * 0 = 1 by grind] at h
    generalize (add C ⟨1, 0⟩ ⟨1, 0⟩).y = v at h ⊢
    grind
  have h2o : outY C (mu C (⟨1, 0⟩ : Pt P) 2).y = 0 := by
    rw [h2y]
    unfold outY
    rw [show (1 : Fin P) + -1 = 0 by grind]
    exact (zmul _).1
  have h := out_of C h0 k hk hk1 hQ (2 * (2 * j)) m hN
  rw [hy] at h
  rw [h, ← mu_mul C hQ, show 2 * (2 * j) = 2 * (2 * j) from rfl, even_O C (on_mu C hQ 2) h2o]
  exact outY_one C h0
theorem mulN_one (a : Nat → Nat) (ha : ∀ i, a i < 256) : mulN a 1 = 0 := by
  obtain ⟨m, hm, _, hm2⟩ := sk_form a ha
  unfold mulN lad
  rw [hm, show 8 * m = 2 * (2 * (2 * m)) by omega]
  exact one_place CC iv0_C kP hk_C hk1_C (2 * m) 254 (by omega) (by omega)
theorem mulN_less (a : Nat → Nat) (ha : ∀ i, a i < 256) : mulN a (-1) = 0 := by
  obtain ⟨m, hm, _, hm2⟩ := sk_form a ha
  unfold mulN lad
  rw [hm, show 8 * m = 2 * (2 * (2 * m)) by omega]
  have h0 : CT.iv 0 = 0 := by
    rw [iv_T]
    exact iv0_C
  have h := one_place CT h0 (-(kP + 1)) hk_T hk1_T (2 * m) 254 (by omega) (by omega)
  have e := out_flip CC CT iv_T iv0_C kP (-1) (2 * (2 * (2 * m))) 254
  rw [show -(-1 : Fin P) = 1 by grind, h] at e
  generalize out CC kP (-1) (2 * (2 * (2 * m))) (254 + 1) = v at e ⊢
  grind

/-- the place with its greatest digit turned -/
def hiF (f : Nat → Nat) (i : Nat) : Nat := if i = 31 then f 31 ^^^ 128 else f i
theorem hi_lt {f : Nat → Nat} (hf : ∀ i, f i < 256) (i : Nat) : hiF f i < 256 := by
  unfold hiF
  split
  · exact Nat.xor_lt_two_pow (n := 8) (hf 31) (by omega)
  · exact hf i
theorem tk_hi (f : Nat → Nat) (hf : ∀ i, f i < 256) : tk (hiF f) = tk f := by
  unfold tk
  have h1 := le_last (hiF f)
  have h2 := le_last f
  have e : le (hiF f) 0 31 = le f 0 31 := le_congr 31 fun i hi => by
    unfold hiF
    rw [if_neg (by omega)]
  have e31 : hiF f 31 = f 31 ^^^ 128 := if_pos rfl
  have hx : ∀ y : Fin 256, (y.val ^^^ 128) % 128 = y.val % 128 := by decide +kernel
  have hx' : (f 31 ^^^ 128) % 128 = f 31 % 128 := hx ⟨f 31, hf 31⟩
  have ht : T = 2 ^ 248 * 128 := by
    have h7 : (2 : Nat) ^ 7 = 128 := rfl
    rw [← T_two, show (255 : Nat) = 248 + 7 from rfl, Nat.pow_add, h7]
  rw [h1, h2, e, e31, ht]
  generalize f 31 ^^^ 128 = a at hx'
  generalize f 31 = b at hx'
  generalize le f 0 31 = A
  generalize (2 : Nat) ^ 248 = X
  have key : ∀ c : Nat, (A + c * X) % (X * 128) = (A + c % 128 * X) % (X * 128) := fun c => by
    have h3 : A + c * X = A + c % 128 * X + X * 128 * (c / 128) := by
      rw [Nat.add_assoc, Nat.mul_assoc, Nat.mul_comm (c % 128) X, ← Nat.mul_add, Nat.mod_add_div, Nat.mul_comm]
    rw [h3, Nat.add_mul_mod_self_left]
  rw [key a, key b, hx']

theorem byteAt_tk (v : Fin P) : byteAt (tk (byteAt v.val)) = byteAt v.val := by rw [tk_of]
theorem tk_less : tk (byteAt ((0 + (P - 1)) % P)) = (-1 : Fin P).val := by
  have hp := P_big
  have e : (-1 : Fin P).val = (0 + (P - 1)) % P := by
    rw [show (-1 : Fin P) = 0 - 1 by grind, val_sub, val_zero, val_one]
  rw [e]
  exact tk_byteAt (Nat.mod_lt _ P_pos)

end Curve
end Go.Proofs.Ytnopjjkijedpeaa
