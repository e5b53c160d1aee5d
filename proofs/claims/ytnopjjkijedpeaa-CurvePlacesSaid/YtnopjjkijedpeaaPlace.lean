/- The curve and its twist: each number is a place of one of them. Nothing of the program. -/
import Derived.Test.YtnopjjkijedpeaaFinP
namespace Go.Proofs.Ytnopjjkijedpeaa
namespace Edwards
open Primes PrimeP FieldN

/-! ### roots -/
def ex (w : Fin P) (n : Nat) : Fin P := ⟨w.val ^ n % P, Nat.mod_lt _ P_pos⟩
theorem ex_val (w : Fin P) (n : Nat) : (ex w n).val = w.val ^ n % P := rfl
theorem ex_add (w : Fin P) (m n : Nat) : ex w m * ex w n = ex w (m + n) := by
  rw [Fin.ext_iff, val_mul, ex_val, ex_val, ex_val, ← Nat.mul_mod, Nat.pow_add]
theorem ex_one (w : Fin P) : ex w 1 = w := by
  rw [Fin.ext_iff, ex_val, Nat.pow_one, Nat.mod_eq_of_lt w.isLt]
theorem ex_mul (v w : Fin P) (n : Nat) : ex (v * w) n = ex v n * ex w n := by
  rw [Fin.ext_iff, val_mul, ex_val, ex_val, ex_val, val_mul, ← Nat.pow_mod, Nat.mul_pow, ← Nat.mul_mod]
def e8 : Nat := (P + 3) / 8
theorem four_e8 : e8 + e8 + (e8 + e8) = hP + (1 + 1) := by
  unfold e8 hP P
  decide
def iL : Nat := 19681161376707505956807079304988542015446066515923890162744021073123829784752
theorem iL_lt : iL < P := by unfold iL P; decide
def iP : Fin P := ⟨iL, iL_lt⟩
theorem i_sq : iP * iP = -1 := by
  have h : iL * iL % P + 1 = P := by unfold iL P; decide +kernel
  have h2 : iP * iP + 1 = 0 := by
    rw [eq_zero, Fin.val_add, val_mul, val_one]
    show (iL * iL % P + 1) % P = 0
    rw [h, Nat.mod_self]
  exact neg_of_add _ _ h2
theorem root_id (i r t : Fin P) (hi : i * i = -1) (h : r * r = -t) : i * r * (i * r) = t := by
  rw [show i * r * (i * r) = i * i * (r * r) by grind, hi, h]
  grind
theorem root {w : Fin P} (h : ex w hP = 1) : ∃ r, r * r = w := by
  have e : ex w e8 * ex w e8 * (ex w e8 * ex w e8) = w * w := by
    rw [ex_add, ex_add, four_e8, ← ex_add, h, ← ex_add, ex_one]
    generalize w * w = v
    grind
  rcases domP _ _ (diff_sq (ex w e8 * ex w e8) w e) with k | k
  · exact ⟨_, eq_of_sub _ _ k⟩
  · exact ⟨iP * ex w e8, root_id _ _ _ i_sq (neg_of_add _ _ k)⟩
theorem euler {w : Fin P} (h : w ≠ 0) : ex w hP = 1 ∨ ex w hP = -1 := by
  have hw : ¬ P ∣ w.val := fun e => h ((eq_zero w).2 (Nat.eq_zero_of_dvd_of_lt e w.isLt))
  have f : ex w hP * ex w hP = 1 * 1 := by
    rw [ex_add, show hP + hP = P - 1 by rw [← two_hP]; omega, Fin.ext_iff, ex_val, fermat prime_P hw, show (1 : Fin P) * 1 = 1 by grind, val_one]
  rcases domP _ _ (diff_sq _ _ f) with k | k
  · exact .inl (eq_of_sub _ _ k)
  · exact .inr (neg_of_add _ _ k)

/-! ### places -/
theorem place_curve (k u r i j x y g : Fin P) (hr : r * r = (k + 1) * u * g) (hi : (u + 1) * i = 1) (hj : g * j = 1) (hy : y = (u - 1) * i) (hx : x = 2 * r * j) :
    x * x * ((u + 1) * (u + 1)) = 4 * ((k + 1) * u * j) * ((u + 1) * (u + 1)) ∧ y * (u + 1) = u - 1 := by
  subst hx hy
  constructor
  · rw [show 2 * r * j * (2 * r * j) = 4 * (r * r) * (j * j) by grind, hr]
    rw [show 4 * ((k + 1) * u * g) * (j * j) = 4 * ((k + 1) * u) * (g * j) * j by grind, hj]
    grind
  · rw [show (u - 1) * i * (u + 1) = (u - 1) * ((u + 1) * i) by grind, hi]
    grind
theorem place_on (d k u j X y g : Fin P) (hk : (k + 1) * d = k) (hg : g = u * u + (4 * k + 2) * u + 1) (hj : g * j = 1) (hX : X = 4 * ((k + 1) * u * j)) (hy : y * (u + 1) = u - 1) :
    (X + y * y) * ((u + 1) * (u + 1)) * g = (1 + d * X * (y * y)) * ((u + 1) * (u + 1)) * g := by
  have e1 : X * g = 4 * ((k + 1) * u) := by
    rw [hX, show 4 * ((k + 1) * u * j) * g = 4 * ((k + 1) * u) * (g * j) by grind, hj]
    grind
  have e2 : y * y * ((u + 1) * (u + 1)) = (u - 1) * (u - 1) := by
    rw [← hy]
    grind
  rw [show (X + y * y) * ((u + 1) * (u + 1)) * g = X * g * ((u + 1) * (u + 1)) + y * y * ((u + 1) * (u + 1)) * g by grind, show (1 + d * X * (y * y)) * ((u + 1) * (u + 1)) * g = (u + 1) * (u + 1) * g + d * (X * g) * (y * y * ((u + 1) * (u + 1))) by grind, e1, e2, hg, show d * (4 * ((k + 1) * u)) = 4 * ((k + 1) * d * u) by grind, hk]
  grind
theorem place_out (u i j y : Fin P) (hi : (u + 1) * i = 1) (hy : y = (u - 1) * i) (hj : 2 * i * j = 1) : (1 + y) * j = u ∧ 1 - y = 2 * i := by
  have e1 : 1 + y = u * (2 * i) := by
    rw [hy, ← hi]
    grind
  have e2 : 1 - y = 2 * i := by
    rw [hy, ← hi]
    grind
  refine ⟨?_, e2⟩
  rw [e1, show u * (2 * i) * j = u * (2 * i * j) by grind, hj]
  grind

theorem g_id (u k d g : Fin P) (hk : (k + 1) * d = k) (hg : g = u * u + (4 * k + 2) * u + 1) (h0 : g = 0) : (2 * u + (4 * k + 2)) * (2 * u + (4 * k + 2)) = d * (4 * (k + 1) * (4 * (k + 1))) := by
  rw [show (2 * u + (4 * k + 2)) * (2 * u + (4 * k + 2)) = 4 * (u * u + (4 * k + 2) * u + 1) + 16 * k * (k + 1) by grind, ← hg, h0, show d * (4 * (k + 1) * (4 * (k + 1))) = 16 * ((k + 1) * d) * (k + 1) by grind, hk]
  grind
theorem u_id (u k d g r : Fin P) (hk : (k + 1) * d = k) (hg : g = u * u + (4 * k + 2) * u + 1) (hr : r * r = (k + 1) * u * g) (h0 : u + 1 = 0) : r * r = d * (2 * (k + 1) * (2 * (k + 1))) := by
  have e : u = -1 := by grind
  rw [hr, hg, e, show d * (2 * (k + 1) * (2 * (k + 1))) = 4 * ((k + 1) * d) * (k + 1) by grind, hk]
  grind
theorem four_ne (C : Ctx P) {a : Fin P} (h : a ≠ 0) : 4 * a ≠ 0 := by
  rw [show 4 * a = 2 * (2 * a) by grind]
  exact C.mul_ne C.two (C.mul_ne C.two h)

theorem place (C : Ctx P) (k : Fin P) (hk : (k + 1) * C.d = k) (hk1 : k + 1 ≠ 0) (u r g : Fin P) (hg : g = u * u + (4 * k + 2) * u + 1) (hr : r * r = (k + 1) * u * g) : ∃ Q, On C Q ∧ outY C Q.y = u := by
  have hg0 : g ≠ 0 := fun h0 => four_ne C hk1 (C.non _ _ (g_id u k C.d g hk hg h0))
  have hu1 : u + 1 ≠ 0 := fun h0 => C.mul_ne C.two hk1 (C.non _ _ (u_id u k C.d g r hk hg hr h0))
  have hi := C.inv _ hu1
  have hj := C.inv _ hg0
  generalize C.iv (u + 1) = i at hi
  generalize C.iv g = j at hj
  obtain ⟨h1, h2⟩ := place_curve k u r i j _ _ g hr hi hj rfl rfl
  have hX := C.cancel (C.mul_ne hu1 hu1) h1
  have hi0 : i ≠ 0 := fun e => by
    rw [e] at hi
    exact C.one (by rw [← hi]; exact (zmul _).2)
  have hjj := C.inv _ (C.mul_ne C.two hi0)
  obtain ⟨o1, o2⟩ := place_out u i (C.iv (2 * i)) _ hi rfl hjj
  refine ⟨⟨2 * r * j, (u - 1) * i⟩, ?_, ?_⟩
  · exact C.cancel (C.mul_ne hu1 hu1) (C.cancel hg0 (place_on C.d k u j _ _ g hk hg hj hX h2))
  · show (1 + (u - 1) * i) * C.iv (1 - (u - 1) * i) = u
    rw [o2]
    exact o1

/-! ### both curves -/
def kL : Nat := 121665
def dL : Nat := 20800338683988658368647408995589388737092878452977063003340006470870624536394
def tL : Nat := 28692721048178265397853269683490922171210976843790175684556505508326675974058
def kP : Fin P := ⟨kL, by unfold kL P; decide⟩
def dP : Fin P := ⟨dL, by unfold dL P; decide⟩
def tP : Fin P := ⟨tL, by unfold tL P; decide⟩
theorem dL_no : dL ^ hP % P = P - 1 := by
  rw [← pm_eq P dL 256 hP (by unfold hP P; decide)]
  unfold hP P dL
  decide +kernel
theorem tL_no : tL ^ hP % P = P - 1 := by
  rw [← pm_eq P tL 256 hP (by unfold hP P; decide)]
  unfold hP P tL
  decide +kernel
theorem dP_val : dP.val = dL := rfl
theorem tP_val : tP.val = tL := rfl
theorem dP_no : dP.val ^ hP % P = P - 1 := by
  rw [dP_val]
  exact dL_no
theorem tP_no : tP.val ^ hP % P = P - 1 := by
  rw [tP_val]
  exact tL_no
def CC : Ctx P := mk dP dP_no
def CT : Ctx P := mk tP tP_no
theorem k_one : (kP + 1).val = 121666 := by
  rw [Fin.val_add, val_one]
  show (kL + 1) % P = 121666
  unfold kL P
  decide
theorem hk_C : (kP + 1) * CC.d = kP := by
  rw [Fin.ext_iff, val_mul, k_one]
  show 121666 * dL % P = kL
  unfold dL kL P
  decide +kernel
theorem hk1_C : kP + 1 ≠ 0 := fun e => by
  rw [eq_zero, k_one] at e
  omega
theorem k_ne : kP ≠ 0 := fun e => by
  rw [eq_zero] at e
  exact absurd e (by show kL ≠ 0; unfold kL; decide)
theorem k_t : kP * tP = kP + 1 := by
  rw [Fin.ext_iff, val_mul, k_one]
  show kL * tL % P = 121666
  unfold tL kL P
  decide +kernel
theorem hk_T : (-(kP + 1) + 1) * CT.d = -(kP + 1) := by
  show (-(kP + 1) + 1) * tP = -(kP + 1)
  rw [← k_t]
  have h := k_t
  grind
theorem hk1_T : -(kP + 1) + 1 ≠ 0 := fun e => k_ne (by
  rw [show kP = -(-(kP + 1) + 1) by grind, e]
  grind)

theorem mk_iv (d : Fin P) (hd : d.val ^ hP % P = P - 1) : (mk d hd).iv = ivP := rfl
theorem iv_C : CC.iv = ivP := mk_iv dP dP_no
theorem iv_T : CT.iv = CC.iv := (mk_iv tP tP_no).trans (mk_iv dP dP_no).symm
theorem iv0_C : CC.iv 0 = 0 := ivP_zero
theorem minus_one (z : Fin P) (h : z.val = P - 1) : z = -1 := by
  have e : z + 1 = 0 := by
    rw [eq_zero, Fin.val_add, h, val_one, show P - 1 + 1 = P by have := P_pos; omega, Nat.mod_self]
  exact neg_of_add _ _ e
theorem d_no : ex dP hP = -1 := minus_one _ ((ex_val dP hP).trans dP_no)

theorem tw_id (k d u r : Fin P) (hk : (k + 1) * d = k) (h : r * r = d * ((k + 1) * u * (u * u + (4 * k + 2) * u + 1))) : r * r = (-(k + 1) + 1) * -u * (-u * -u + (4 * -(k + 1) + 2) * -u + 1) := by
  rw [h, show d * ((k + 1) * u * (u * u + (4 * k + 2) * u + 1)) = (k + 1) * d * u * (u * u + (4 * k + 2) * u + 1) by grind, hk]
  grind

/-- each number is a place of the curve, or less than 0 of its twist -/
theorem everywhere (u : Fin P) : (∃ Q, On CC Q ∧ outY CC Q.y = u) ∨ (∃ Q, On CT Q ∧ -outY CT Q.y = u) := by
  by_cases hw : (kP + 1) * u * (u * u + (4 * kP + 2) * u + 1) = 0
  · left
    exact place CC kP hk_C hk1_C u 0 _ rfl (by rw [hw]; grind)
  · rcases euler hw with h | h
    · obtain ⟨r, hr⟩ := root h
      left
      exact place CC kP hk_C hk1_C u r _ rfl hr
    · right
      have h2 : ex (dP * ((kP + 1) * u * (u * u + (4 * kP + 2) * u + 1))) hP = 1 := by
        rw [ex_mul, h, d_no]
        grind
      obtain ⟨r, hr⟩ := root h2
      obtain ⟨Q, h3, h4⟩ := place CT (-(kP + 1)) hk_T hk1_T (-u) r _ rfl (tw_id kP dP u r hk_C hr)
      exact ⟨Q, h3, by rw [h4]; grind⟩

/-- the ladder with the curve's number, of 255 digits -/
def lad (N : Nat) (u : Fin P) : Fin P := out CC kP u N 255

/-- BOTH AGREE: ladders of even numbers, one behind the other, in either order -/
theorem lad_comm (a b : Nat) (ha : 2 * a < 2 ^ 255) (hb : 2 * b < 2 ^ 255) (u : Fin P) : lad (2 * a) (lad (2 * b) u) = lad (2 * b) (lad (2 * a) u) := by
  unfold lad
  rcases everywhere u with ⟨Q, hQ, rfl⟩ | ⟨Q, hQ, rfl⟩
  · rw [out_comm CC iv0_C kP hk_C hk1_C hQ a b 254 ha hb, out_comm CC iv0_C kP hk_C hk1_C hQ b a 254 hb ha, Nat.mul_comm]
  · rw [out_comm_twist CC CT iv_T iv0_C kP hk_T hk1_T hQ a b 254 ha hb, out_comm_twist CC CT iv_T iv0_C kP hk_T hk1_T hQ b a 254 hb ha, Nat.mul_comm]

end Edwards
end Go.Proofs.Ytnopjjkijedpeaa
