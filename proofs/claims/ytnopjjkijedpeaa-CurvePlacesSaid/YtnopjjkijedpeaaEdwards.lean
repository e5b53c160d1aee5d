/- The sum of points on the curve x^2 + y^2 = 1 + d x^2 y^2 over p numbers, where d is no square: complete, commutative, associative; multiples of a point. Nothing of the program. -/
import Derived.Test.YtnopjjkijedpeaaNum
namespace Go.Proofs.Ytnopjjkijedpeaa
namespace Edwards

/-- what a field of p numbers has, and a number d that is no square in it -/
structure Ctx (p : Nat) [NeZero p] where
  d : Fin p
  iv : Fin p → Fin p
  dom : ∀ a b : Fin p, a * b = 0 → a = 0 ∨ b = 0
  inv : ∀ a : Fin p, a ≠ 0 → a * iv a = 1
  one : (1 : Fin p) ≠ 0
  two : (2 : Fin p) ≠ 0
  non : ∀ x y : Fin p, x * x = d * (y * y) → y = 0

structure Pt (p : Nat) where
  x : Fin p
  y : Fin p

/-! ### identities -/
section
variable {p : Nat} [NeZero p]

def OnE (d x y : Fin p) : Prop := x * x + y * y = 1 + d * (x * x) * (y * y)

theorem id_plus (d x1 y1 x2 y2 e : Fin p) (h1 : x1 * x1 + y1 * y1 = 1 + d * (x1 * x1) * (y1 * y1)) (h2 : x2 * x2 + y2 * y2 = 1 + d * (x2 * x2) * (y2 * y2)) (he : e * e = 1) (h : d * x1 * x2 * y1 * y2 = e) :
    (x1 + e * y1) * (x1 + e * y1) = d * ((x1 * y1 * (x2 + y2)) * (x1 * y1 * (x2 + y2))) := by grind
theorem id_minus (d x1 y1 x2 y2 e : Fin p) (h1 : x1 * x1 + y1 * y1 = 1 + d * (x1 * x1) * (y1 * y1)) (h2 : x2 * x2 + y2 * y2 = 1 + d * (x2 * x2) * (y2 * y2)) (he : e * e = 1) (h : d * x1 * x2 * y1 * y2 = e) :
    (x1 - e * y1) * (x1 - e * y1) = d * ((x1 * y1 * (x2 - y2)) * (x1 * y1 * (x2 - y2))) := by grind
theorem id_closed (d x1 y1 x2 y2 : Fin p) (h1 : x1 * x1 + y1 * y1 = 1 + d * (x1 * x1) * (y1 * y1)) (h2 : x2 * x2 + y2 * y2 = 1 + d * (x2 * x2) * (y2 * y2)) :
    (x1 * y2 + x2 * y1) * (x1 * y2 + x2 * y1) * ((1 - d * x1 * x2 * y1 * y2) * (1 - d * x1 * x2 * y1 * y2)) + (y1 * y2 - x1 * x2) * (y1 * y2 - x1 * x2) * ((1 + d * x1 * x2 * y1 * y2) * (1 + d * x1 * x2 * y1 * y2)) =
    (1 + d * x1 * x2 * y1 * y2) * (1 + d * x1 * x2 * y1 * y2) * ((1 - d * x1 * x2 * y1 * y2) * (1 - d * x1 * x2 * y1 * y2)) + d * ((x1 * y2 + x2 * y1) * (x1 * y2 + x2 * y1)) * ((y1 * y2 - x1 * x2) * (y1 * y2 - x1 * x2)) := by grind
theorem id_assoc_x (d x1 y1 x2 y2 x3 y3 : Fin p) (h1 : x1 * x1 + y1 * y1 = 1 + d * (x1 * x1) * (y1 * y1)) (h2 : x2 * x2 + y2 * y2 = 1 + d * (x2 * x2) * (y2 * y2)) (h3 : x3 * x3 + y3 * y3 = 1 + d * (x3 * x3) * (y3 * y3)) :
    ((x1 * y2 + x2 * y1) * (1 - d * x1 * x2 * y1 * y2) * y3 + x3 * ((y1 * y2 - x1 * x2) * (1 + d * x1 * x2 * y1 * y2))) * ((1 + d * x2 * x3 * y2 * y3) * (1 - d * x2 * x3 * y2 * y3) + d * x1 * y1 * ((x2 * y3 + x3 * y2) * (y2 * y3 - x2 * x3))) =
    (x1 * ((y2 * y3 - x2 * x3) * (1 + d * x2 * x3 * y2 * y3)) + (x2 * y3 + x3 * y2) * (1 - d * x2 * x3 * y2 * y3) * y1) * ((1 + d * x1 * x2 * y1 * y2) * (1 - d * x1 * x2 * y1 * y2) + d * x3 * y3 * ((x1 * y2 + x2 * y1) * (y1 * y2 - x1 * x2))) := by grind
theorem id_assoc_y (d x1 y1 x2 y2 x3 y3 : Fin p) (h1 : x1 * x1 + y1 * y1 = 1 + d * (x1 * x1) * (y1 * y1)) (h2 : x2 * x2 + y2 * y2 = 1 + d * (x2 * x2) * (y2 * y2)) (h3 : x3 * x3 + y3 * y3 = 1 + d * (x3 * x3) * (y3 * y3)) :
    ((y1 * y2 - x1 * x2) * (1 + d * x1 * x2 * y1 * y2) * y3 - (x1 * y2 + x2 * y1) * (1 - d * x1 * x2 * y1 * y2) * x3) * ((1 + d * x2 * x3 * y2 * y3) * (1 - d * x2 * x3 * y2 * y3) - d * x1 * y1 * ((x2 * y3 + x3 * y2) * (y2 * y3 - x2 * x3))) =
    (y1 * ((y2 * y3 - x2 * x3) * (1 + d * x2 * x3 * y2 * y3)) - x1 * ((x2 * y3 + x3 * y2) * (1 - d * x2 * x3 * y2 * y3))) * ((1 + d * x1 * x2 * y1 * y2) * (1 - d * x1 * x2 * y1 * y2) - d * x3 * y3 * ((x1 * y2 + x2 * y1) * (y1 * y2 - x1 * x2))) := by grind
theorem id_diff (d x1 y1 x2 y2 : Fin p) (h1 : x1 * x1 + y1 * y1 = 1 + d * (x1 * x1) * (y1 * y1)) (h2 : x2 * x2 + y2 * y2 = 1 + d * (x2 * x2) * (y2 * y2)) :
    ((1 - d * x1 * x2 * y1 * y2) + (y1 * y2 - x1 * x2)) * ((1 + d * x1 * x2 * y1 * y2) + (y1 * y2 + x1 * x2)) * ((y1 - y2) * (y1 - y2)) =
    ((1 - d * x1 * x2 * y1 * y2) - (y1 * y2 - x1 * x2)) * ((1 + d * x1 * x2 * y1 * y2) - (y1 * y2 + x1 * x2)) * ((y1 + y2) * (y1 + y2)) := by grind
theorem id_frac_closed (d x1 y1 x2 y2 x3 y3 s t : Fin p) (hx : x3 * s = x1 * y2 + x2 * y1) (hy : y3 * t = y1 * y2 - x1 * x2)
    (h : (x1 * y2 + x2 * y1) * (x1 * y2 + x2 * y1) * (t * t) + (y1 * y2 - x1 * x2) * (y1 * y2 - x1 * x2) * (s * s) = s * s * (t * t) + d * ((x1 * y2 + x2 * y1) * (x1 * y2 + x2 * y1)) * ((y1 * y2 - x1 * x2) * (y1 * y2 - x1 * x2))) :
    (x3 * x3 + y3 * y3) * (s * s * (t * t)) = (1 + d * (x3 * x3) * (y3 * y3)) * (s * s * (t * t)) := by
  rw [← hx, ← hy] at h
  clear hx hy
  grind
end

section
variable {p : Nat} [NeZero p]

def On (C : Ctx p) (P : Pt p) : Prop := P.x * P.x + P.y * P.y = 1 + C.d * (P.x * P.x) * (P.y * P.y)

theorem Ctx.dom3 (C : Ctx p) {a b : Fin p} (h : a * b = 0) (hb : b ≠ 0) : a = 0 := (C.dom a b h).elim id (fun e => absurd e hb)
theorem sub_mul' (a b c : Fin p) (h : a * c = b * c) : (a - b) * c = 0 := by grind
theorem eq_of_sub (a b : Fin p) (h : a - b = 0) : a = b := by grind
theorem Ctx.cancel (C : Ctx p) {a b c : Fin p} (hc : c ≠ 0) (h : a * c = b * c) : a = b := eq_of_sub a b (C.dom3 (sub_mul' a b c h) hc)
theorem Ctx.mul_ne (C : Ctx p) {a b : Fin p} (ha : a ≠ 0) (hb : b ≠ 0) : a * b ≠ 0 := fun h => (C.dom a b h).elim ha hb

theorem no_e (x1 y1 e d x2 y2 : Fin p) (h0 : x1 * y1 = 0) (h : d * x1 * x2 * y1 * y2 = e) (he : e * e = 1) : (1 : Fin p) = 0 := by
  have : e = 0 := by
    rw [← h, show d * x1 * x2 * y1 * y2 = d * x2 * y2 * (x1 * y1) by grind, h0]
    grind
  rw [← he, this]
  grind
theorem both_zero (x y : Fin p) (h1 : x + y = 0) (h2 : x - y = 0) : 2 * x = 0 ∧ y = -x := by
  constructor <;> grind
theorem one_zero (d : Fin p) (h2 : (0 : Fin p) * 0 + 0 * 0 = 1 + d * (0 * 0) * (0 * 0)) : (1 : Fin p) = 0 := by grind

/-- both denominators are not 0 -/
theorem complete (C : Ctx p) {P Q : Pt p} (hP : On C P) (hQ : On C Q) (e : Fin p) (he : e * e = 1) : C.d * P.x * Q.x * P.y * Q.y ≠ e := by
  intro h
  obtain ⟨x1, y1⟩ := P
  obtain ⟨x2, y2⟩ := Q
  simp only [On] at hP hQ h
  have h3 := C.non _ _ (id_plus C.d x1 y1 x2 y2 e hP hQ he h)
  have h4 := C.non _ _ (id_minus C.d x1 y1 x2 y2 e hP hQ he h)
  have hxy : x1 * y1 ≠ 0 := fun h0 => C.one (no_e x1 y1 e C.d x2 y2 h0 h he)
  have h5 : x2 + y2 = 0 := (C.dom _ _ h3).elim (fun e => absurd e hxy) id
  have h6 : x2 - y2 = 0 := (C.dom _ _ h4).elim (fun e => absurd e hxy) id
  obtain ⟨h7, h8⟩ := both_zero x2 y2 h5 h6
  have h9 : x2 = 0 := (C.dom _ _ h7).elim (fun e => absurd e C.two) id
  have h10 : y2 = 0 := by
    rw [h8, h9]
    grind
  rw [h9, h10] at hQ
  exact C.one (one_zero C.d hQ)

def add (C : Ctx p) (P Q : Pt p) : Pt p :=
  ⟨(P.x * Q.y + Q.x * P.y) * C.iv (1 + C.d * P.x * Q.x * P.y * Q.y), (P.y * Q.y - P.x * Q.x) * C.iv (1 - C.d * P.x * Q.x * P.y * Q.y)⟩
def O : Pt p := ⟨0, 1⟩
def neg (P : Pt p) : Pt p := ⟨-P.x, P.y⟩

theorem neg_one_sq : (-1 : Fin p) * -1 = 1 := by grind
theorem one_sq : (1 : Fin p) * 1 = 1 := by grind
theorem of_plus (a : Fin p) (h : 1 + a = 0) : a = -1 := by grind
theorem of_minus (a : Fin p) (h : 1 - a = 0) : a = 1 := by grind
theorem den_plus (C : Ctx p) {P Q : Pt p} (hP : On C P) (hQ : On C Q) : 1 + C.d * P.x * Q.x * P.y * Q.y ≠ 0 := fun h => complete C hP hQ (-1) neg_one_sq (of_plus _ h)
theorem den_minus (C : Ctx p) {P Q : Pt p} (hP : On C P) (hQ : On C Q) : 1 - C.d * P.x * Q.x * P.y * Q.y ≠ 0 := fun h => complete C hP hQ 1 one_sq (of_minus _ h)

theorem frac (n s i : Fin p) (h : s * i = 1) : n * i * s = n := by
  rw [show n * i * s = n * (s * i) by grind, h]
  grind
theorem add_x (C : Ctx p) {P Q : Pt p} (hP : On C P) (hQ : On C Q) : (add C P Q).x * (1 + C.d * P.x * Q.x * P.y * Q.y) = P.x * Q.y + Q.x * P.y := frac _ _ _ (C.inv _ (den_plus C hP hQ))
theorem add_y (C : Ctx p) {P Q : Pt p} (hP : On C P) (hQ : On C Q) : (add C P Q).y * (1 - C.d * P.x * Q.x * P.y * Q.y) = P.y * Q.y - P.x * Q.x := frac _ _ _ (C.inv _ (den_minus C hP hQ))

theorem on_O (C : Ctx p) : On C (O : Pt p) := by simp only [On, O]; grind
theorem on_neg (C : Ctx p) {P : Pt p} (h : On C P) : On C (neg P) := by
  obtain ⟨x, y⟩ := P
  simp only [On, neg] at *
  rw [show -x * -x = x * x by grind]
  exact h

theorem on_add (C : Ctx p) {P Q : Pt p} (hP : On C P) (hQ : On C Q) : On C (add C P Q) := by
  have hx := add_x C hP hQ
  have hy := add_y C hP hQ
  have h1 := den_plus C hP hQ
  have h2 := den_minus C hP hQ
  generalize add C P Q = R at hx hy ⊢
  obtain ⟨x1, y1⟩ := P
  obtain ⟨x2, y2⟩ := Q
  obtain ⟨x3, y3⟩ := R
  exact C.cancel (C.mul_ne (C.mul_ne h1 h1) (C.mul_ne h2 h2)) (id_frac_closed C.d x1 y1 x2 y2 x3 y3 _ _ hx hy (id_closed C.d x1 y1 x2 y2 hP hQ))

theorem add_comm (C : Ctx p) (P Q : Pt p) : add C P Q = add C Q P := by
  simp only [add]
  rw [show P.x * Q.y + Q.x * P.y = Q.x * P.y + P.x * Q.y by grind, show C.d * P.x * Q.x * P.y * Q.y = C.d * Q.x * P.x * Q.y * P.y by grind, show P.y * Q.y - P.x * Q.x = Q.y * P.y - Q.x * P.x by grind]

theorem add_zero (C : Ctx p) (P : Pt p) : add C P O = P := by
  have h := C.inv 1 C.one
  obtain ⟨x, y⟩ := P
  simp only [add, O, Pt.mk.injEq]
  rw [show 1 + C.d * x * 0 * y * 1 = 1 by grind, show 1 - C.d * x * 0 * y * 1 = 1 by grind, show x * 1 + 0 * y = x by grind, show y * 1 - x * 0 = y by grind]
  generalize C.iv 1 = i at h
  constructor <;> grind

/-- the sum of three, put together either way: the numerators over common denominators -/
theorem three_x (d x1 y1 x2 y2 x3 y3 u v X s t S : Fin p) (hu : u * s = x1 * y2 + x2 * y1) (hv : v * t = y1 * y2 - x1 * x2) (hX : X * (1 + d * u * x3 * v * y3) = u * y3 + x3 * v) (hS : S = s * t + d * x3 * y3 * ((x1 * y2 + x2 * y1) * (y1 * y2 - x1 * x2))) :
    X * S = (x1 * y2 + x2 * y1) * t * y3 + x3 * ((y1 * y2 - x1 * x2) * s) ∧ S = s * t * (1 + d * u * x3 * v * y3) := by
  subst hS
  rw [← hu, ← hv]
  have e : X * (s * t + d * x3 * y3 * (u * s * (v * t))) = X * (1 + d * u * x3 * v * y3) * (s * t) := by grind
  rw [e, hX]
  clear e hX hu hv
  constructor <;> grind
theorem three_y (d x1 y1 x2 y2 x3 y3 u v Y s t S : Fin p) (hu : u * s = x1 * y2 + x2 * y1) (hv : v * t = y1 * y2 - x1 * x2) (hY : Y * (1 - d * u * x3 * v * y3) = v * y3 - u * x3) (hS : S = s * t - d * x3 * y3 * ((x1 * y2 + x2 * y1) * (y1 * y2 - x1 * x2))) :
    Y * S = (y1 * y2 - x1 * x2) * s * y3 - (x1 * y2 + x2 * y1) * t * x3 ∧ S = s * t * (1 - d * u * x3 * v * y3) := by
  subst hS
  rw [← hu, ← hv]
  have e : Y * (s * t - d * x3 * y3 * (u * s * (v * t))) = Y * (1 - d * u * x3 * v * y3) * (s * t) := by grind
  rw [e, hY]
  clear e hY hu hv
  constructor <;> grind

theorem cross (X X' S S' n n' : Fin p) (h1 : X * S = n) (h2 : X' * S' = n') (h : n * S' = n' * S) : X * (S * S') = X' * (S * S') := by
  rw [← h1, ← h2] at h
  rw [show X * (S * S') = X * S * S' by grind, h]
  grind
theorem sum_comm (a b : Fin p) : a + b = b + a := by grind

theorem add_assoc (C : Ctx p) {P Q R : Pt p} (hP : On C P) (hQ : On C Q) (hR : On C R) : add C (add C P Q) R = add C P (add C Q R) := by
  have hPQ := on_add C hP hQ
  have hQR := on_add C hQ hR
  have ax := add_x C hP hQ
  have ay := add_y C hP hQ
  have bx := add_x C hQ hR
  have by_ := add_y C hQ hR
  have cx := add_x C hPQ hR
  have cy := add_y C hPQ hR
  have dx := add_x C hQR hP
  have dy := add_y C hQR hP
  have s1 := den_plus C hP hQ
  have t1 := den_minus C hP hQ
  have s2 := den_plus C hQ hR
  have t2 := den_minus C hQ hR
  have p1 := den_plus C hPQ hR
  have m1 := den_minus C hPQ hR
  have p2 := den_plus C hQR hP
  have m2 := den_minus C hQR hP
  rw [add_comm C P (add C Q R)]
  generalize add C P Q = U at *
  generalize add C Q R = V at *
  generalize add C U R = L at *
  generalize add C V P = M at *
  obtain ⟨x1, y1⟩ := P
  obtain ⟨x2, y2⟩ := Q
  obtain ⟨x3, y3⟩ := R
  obtain ⟨u, v⟩ := U
  obtain ⟨u', v'⟩ := V
  obtain ⟨X, Y⟩ := L
  obtain ⟨X', Y'⟩ := M
  obtain ⟨h1, h2⟩ := three_x C.d x1 y1 x2 y2 x3 y3 u v X _ _ _ ax ay cx rfl
  obtain ⟨h3, h4⟩ := three_x C.d x2 y2 x3 y3 x1 y1 u' v' X' _ _ _ bx by_ dx rfl
  obtain ⟨k1, k2⟩ := three_y C.d x1 y1 x2 y2 x3 y3 u v Y _ _ _ ax ay cy rfl
  obtain ⟨k3, k4⟩ := three_y C.d x2 y2 x3 y3 x1 y1 u' v' Y' _ _ _ bx by_ dy rfl
  have ix := id_assoc_x C.d x1 y1 x2 y2 x3 y3 hP hQ hR
  have iy := id_assoc_y C.d x1 y1 x2 y2 x3 y3 hP hQ hR
  simp only [Pt.mk.injEq]
  constructor
  · refine C.cancel ?_ (cross X X' _ _ _ _ h1 h3 ?_)
    · refine C.mul_ne ?_ ?_
      · rw [h2]; exact C.mul_ne (C.mul_ne s1 t1) p1
      · rw [h4]; exact C.mul_ne (C.mul_ne s2 t2) p2
    · rw [sum_comm ((x2 * y3 + x3 * y2) * (1 - C.d * x2 * x3 * y2 * y3) * y1)]
      exact ix
  · refine C.cancel ?_ (cross Y Y' _ _ _ _ k1 k3 ?_)
    · refine C.mul_ne ?_ ?_
      · rw [k2]; exact C.mul_ne (C.mul_ne s1 t1) m1
      · rw [k4]; exact C.mul_ne (C.mul_ne s2 t2) m2
    · rw [show (y2 * y3 - x2 * x3) * (1 + C.d * x2 * x3 * y2 * y3) * y1 - (x2 * y3 + x3 * y2) * (1 - C.d * x2 * x3 * y2 * y3) * x1 = y1 * ((y2 * y3 - x2 * x3) * (1 + C.d * x2 * x3 * y2 * y3)) - x1 * ((x2 * y3 + x3 * y2) * (1 - C.d * x2 * x3 * y2 * y3)) by grind]
      exact iy

/-! ### multiples -/
def mu (C : Ctx p) (P : Pt p) : Nat → Pt p
  | 0 => O
  | n + 1 => add C (mu C P n) P
theorem on_mu (C : Ctx p) {P : Pt p} (h : On C P) : ∀ n, On C (mu C P n)
  | 0 => on_O C
  | n + 1 => on_add C (on_mu C h n) h
theorem mu_add (C : Ctx p) {P : Pt p} (h : On C P) (m : Nat) : ∀ n, mu C P (m + n) = add C (mu C P m) (mu C P n)
  | 0 => (add_zero C _).symm
  | n + 1 => by
    rw [show m + (n + 1) = m + n + 1 from rfl, mu, mu_add C h m n, add_assoc C (on_mu C h m) (on_mu C h n) h]
    rfl
theorem zero_add (C : Ctx p) (P : Pt p) : add C O P = P := by rw [add_comm, add_zero]
theorem mu_one (C : Ctx p) (P : Pt p) : mu C P 1 = P := zero_add C P
theorem mu_mul (C : Ctx p) {P : Pt p} (h : On C P) (m : Nat) : ∀ n, mu C (mu C P m) n = mu C P (m * n)
  | 0 => rfl
  | n + 1 => by rw [mu, mu_mul C h m n, Nat.mul_succ, mu_add C h]
theorem mu_O (C : Ctx p) : ∀ n, mu C (O : Pt p) n = O
  | 0 => rfl
  | n + 1 => by rw [mu, mu_O C n, add_zero]

end
end Edwards
end Go.Proofs.Ytnopjjkijedpeaa
