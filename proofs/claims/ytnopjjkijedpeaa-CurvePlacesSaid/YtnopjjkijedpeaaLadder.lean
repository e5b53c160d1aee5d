/- The ladder's step on the curve of XEdwards: doubling, and the sum of two points whose difference is known, by what X and Z tell of y. Nothing of the program. -/
import Derived.Test.YtnopjjkijedpeaaEdwards
namespace Go.Proofs.Ytnopjjkijedpeaa
namespace Edwards

section
variable {p : Nat} [NeZero p]

/-! ### points of one y -/
theorem Ctx.one_dy (C : Ctx p) (y : Fin p) : 1 - C.d * (y * y) ≠ 0 := fun h => by
  have h1 : (1 : Fin p) * 1 = C.d * (y * y) := by
    rw [show (1 : Fin p) * 1 = 1 - C.d * (y * y) + C.d * (y * y) by grind, h]
    grind
  have h2 := C.non 1 y h1
  rw [h2] at h
  exact C.one (by
    rw [show (1 : Fin p) = 1 - C.d * (0 * 0) by grind]
    exact h)
theorem sq_id (d x y : Fin p) (h : x * x + y * y = 1 + d * (x * x) * (y * y)) : x * x * (1 - d * (y * y)) = 1 - y * y := by grind
theorem sq_of (C : Ctx p) {P : Pt p} (h : On C P) : P.x * P.x * (1 - C.d * (P.y * P.y)) = 1 - P.y * P.y := sq_id C.d P.x P.y h
theorem diff_sq (a b : Fin p) (h : a * a = b * b) : (a - b) * (a + b) = 0 := by grind
theorem neg_of_add (a b : Fin p) (h : a + b = 0) : a = -b := by grind
theorem same_y (C : Ctx p) {P Q : Pt p} (hP : On C P) (hQ : On C Q) (h : P.y = Q.y) : P = Q ∨ P = neg Q := by
  have h1 := sq_of C hP
  have h2 := sq_of C hQ
  obtain ⟨x, y⟩ := P
  obtain ⟨x', y'⟩ := Q
  simp only at h h1 h2
  subst h
  have h3 : x * x = x' * x' := C.cancel (C.one_dy y) (by rw [h1, h2])
  rcases C.dom _ _ (diff_sq x x' h3) with e | e
  · left
    rw [eq_of_sub _ _ e]
  · right
    simp only [neg, Pt.mk.injEq]
    exact ⟨neg_of_add _ _ e, trivial⟩

theorem neg_mul_iv (a b i : Fin p) (h : a = -b) : a * i = -(b * i) := by grind
theorem add_neg_neg (C : Ctx p) (P Q : Pt p) : add C (neg P) (neg Q) = neg (add C P Q) := by
  obtain ⟨x1, y1⟩ := P
  obtain ⟨x2, y2⟩ := Q
  simp only [add, neg, Pt.mk.injEq]
  rw [show C.d * -x1 * -x2 * y1 * y2 = C.d * x1 * x2 * y1 * y2 by grind, show -x1 * -x2 = x1 * x2 by grind]
  exact ⟨neg_mul_iv _ _ _ (by grind), rfl⟩
theorem neg_O : neg (O : Pt p) = O := by
  simp only [neg, O, Pt.mk.injEq]
  exact ⟨by grind, trivial⟩
theorem mu_neg (C : Ctx p) (P : Pt p) : ∀ n, mu C (neg P) n = neg (mu C P n)
  | 0 => neg_O.symm
  | n + 1 => by rw [mu, mu_neg C P n, add_neg_neg]; rfl
theorem mu_y (C : Ctx p) {P Q : Pt p} (hP : On C P) (hQ : On C Q) (h : P.y = Q.y) (n : Nat) : (mu C P n).y = (mu C Q n).y := by
  rcases same_y C hP hQ h with e | e
  · rw [e]
  · rw [e, mu_neg]
    rfl
theorem add_neg (C : Ctx p) {P : Pt p} (h : On C P) : add C P (neg P) = O := by
  have h1 := C.inv _ (den_minus C h (on_neg C h))
  have hc := h
  obtain ⟨x, y⟩ := P
  simp only [add, neg, O, Pt.mk.injEq, On] at *
  have e : y * y - x * -x = 1 - C.d * x * -x * y * y := by
    rw [show y * y - x * -x = x * x + y * y by grind, hc]
    grind
  rw [e, h1, show x * y + -x * y = 0 by grind]
  exact ⟨by grind, rfl⟩

/-! ### what X and Z tell -/
def Rep (X Z y : Fin p) : Prop := X - Z = y * (X + Z) ∧ X + Z ≠ 0

theorem dbl_ne (d k x y w : Fin p) (hx : x * x = (1 - y * y) * w) (hw : w * (1 - d * (y * y)) = 1) (hk : (k + 1) * d = k) :
    1 + k * ((1 - y * y) * (1 - y * y)) = (k + 1) * ((1 - d * (y * y)) * (1 - d * (x * x) * (y * y))) := by
  rw [hx]
  grind
theorem dbl_id (d k x y w : Fin p) (hx : x * x = (1 - y * y) * w) (hw : w * (1 - d * (y * y)) = 1) (hk : (k + 1) * d = k) :
    (y * y - (1 - y * y) * (1 + k * (1 - y * y))) * (1 - d * (x * x) * (y * y)) = (y * y - x * x) * (1 + k * ((1 - y * y) * (1 - y * y))) := by
  rw [hx]
  grind
theorem dbl_sum (a y k : Fin p) : a * a * (y * a * (y * a)) + (a * a - y * a * (y * a)) * (a * a + k * (a * a - y * a * (y * a))) = a * a * (a * a) * (1 + k * ((1 - y * y) * (1 - y * y))) := by grind
theorem dbl_dif (a y k : Fin p) : a * a * (y * a * (y * a)) - (a * a - y * a * (y * a)) * (a * a + k * (a * a - y * a * (y * a))) = a * a * (a * a) * (y * y - (1 - y * y) * (1 + k * (1 - y * y))) := by grind
theorem fin_step (A N D S y3 M : Fin p) (hM : y3 * D = M) (h : N * D = M * S) : A * N * D = y3 * (A * S) * D := by
  rw [show y3 * (A * S) * D = A * (y3 * D * S) by grind, hM, ← h]
  grind

theorem Rep.double (C : Ctx p) (k : Fin p) (hk : (k + 1) * C.d = k) (hk1 : k + 1 ≠ 0) {P : Pt p} (hP : On C P) {X Z : Fin p} (h : Rep X Z P.y) :
    Rep ((X + Z) * (X + Z) * ((X - Z) * (X - Z))) (((X + Z) * (X + Z) - (X - Z) * (X - Z)) * ((X + Z) * (X + Z) + k * ((X + Z) * (X + Z) - (X - Z) * (X - Z)))) (add C P P).y := by
  obtain ⟨h1, h2⟩ := h
  have hy := add_y C hP hP
  have hm := den_minus C hP hP
  have hs := sq_of C hP
  have hd := C.one_dy P.y
  have hw := C.inv _ hd
  generalize (add C P P).y = y3 at hy ⊢
  obtain ⟨x, y⟩ := P
  simp only at h1 hy hm hs hd hw
  generalize C.iv (1 - C.d * (y * y)) = w at hw
  have hw' : w * (1 - C.d * (y * y)) = 1 := by rw [← hw]; grind
  have hx : x * x = (1 - y * y) * w := by
    rw [← hs, show x * x * (1 - C.d * (y * y)) * w = x * x * ((1 - C.d * (y * y)) * w) by grind, hw]
    grind
  have hD : 1 - C.d * x * x * y * y = 1 - C.d * (x * x) * (y * y) := by grind
  rw [hD] at hy hm
  have hne := dbl_ne C.d k x y w hx hw' hk
  have hid := dbl_id C.d k x y w hx hw' hk
  rw [h1]
  generalize X + Z = a at h2
  refine ⟨?_, ?_⟩
  · rw [dbl_sum, dbl_dif]
    exact C.cancel hm (fin_step _ _ _ _ _ _ hy hid)
  · rw [dbl_sum, hne]
    exact C.mul_ne (C.mul_ne (C.mul_ne h2 h2) (C.mul_ne h2 h2)) (C.mul_ne hk1 (C.mul_ne hd hm))

theorem of_one_y (y1 x1 : Fin p) (hy : 1 - y1 = 0) (hx : x1 * (1 - y1) = 1 + y1) : (2 : Fin p) = 0 := by
  rw [hy] at hx
  grind
theorem of_minus_y (y1 x1 : Fin p) (hy : y1 = -1) (hx : x1 * (1 - y1) = 1 + y1) : x1 * 2 = 0 := by
  rw [hy] at hx
  grind
theorem four (a b : Fin p) (h1 : a + b = 0) (h2 : a - b = 0) : 2 * a = 0 ∧ 2 * b = 0 := by
  constructor <;> grind
theorem dif_parts (a2 a3 y2 y3 x1 : Fin p) : (y3 * a3 * a2 + a3 * (y2 * a2)) * (y3 * a3 * a2 + a3 * (y2 * a2)) = a2 * a3 * (a2 * a3) * ((y2 + y3) * (y2 + y3)) ∧ x1 * ((y3 * a3 * a2 - a3 * (y2 * a2)) * (y3 * a3 * a2 - a3 * (y2 * a2))) = a2 * a3 * (a2 * a3) * (x1 * ((y2 - y3) * (y2 - y3))) := by
  constructor <;> grind
theorem dif_main (x1 y1 y5 s m D y2 y3 : Fin p) (D' : Fin p) (h1 : y1 * D' = s) (h5 : y5 * D = m) (hx : x1 * (1 - y1) = 1 + y1)
    (h : (D + m) * (D' + s) * ((y2 - y3) * (y2 - y3)) = (D - m) * (D' - s) * ((y2 + y3) * (y2 + y3))) :
    ((1 - y5) * ((y2 + y3) * (y2 + y3))) * (D * (D' * (1 - y1))) = ((1 + y5) * (x1 * ((y2 - y3) * (y2 - y3)))) * (D * (D' * (1 - y1))) := by
  rw [← h1, ← h5] at h
  rw [show (1 + y5) * (x1 * ((y2 - y3) * (y2 - y3))) * (D * (D' * (1 - y1))) = (1 + y5) * (x1 * (1 - y1)) * ((y2 - y3) * (y2 - y3)) * (D * D') by grind, hx]
  clear h1 h5 hx
  grind
theorem rep_of (A B y A' : Fin p) (h : (1 - y) * A = (1 + y) * B) : A' * A - A' * B = y * (A' * A + A' * B) := by grind
theorem sq_zero (C : Ctx p) {a : Fin p} (h : a * a = 0) : a = 0 := (C.dom _ _ h).elim id id
theorem rep_zero (X Z y : Fin p) (h1 : X - Z = y * (X + Z)) (h2 : X + Z = 0) : 2 * X = 0 ∧ 2 * Z = 0 := by
  rw [h2] at h1
  constructor <;> grind
/-- the sum of two points whose difference is known -/
theorem Rep.sum (C : Ctx p) {A B Q : Pt p} (hA : On C A) (hB : On C B) (hQ : On C Q) (hd : B = add C A Q) {x1 X2 Z2 X3 Z3 : Fin p} (hx : x1 * (1 - Q.y) = 1 + Q.y) (hx1 : x1 ≠ 0) (h2 : Rep X2 Z2 A.y) (h3 : Rep X3 Z3 B.y) :
    Rep (((X3 - Z3) * (X2 + Z2) + (X3 + Z3) * (X2 - Z2)) * ((X3 - Z3) * (X2 + Z2) + (X3 + Z3) * (X2 - Z2))) (x1 * (((X3 - Z3) * (X2 + Z2) - (X3 + Z3) * (X2 - Z2)) * ((X3 - Z3) * (X2 + Z2) - (X3 + Z3) * (X2 - Z2)))) (add C A B).y := by
  obtain ⟨e2, n2⟩ := h2
  obtain ⟨e3, n3⟩ := h3
  have hq : add C B (neg A) = Q := by rw [hd, add_comm C A Q, add_assoc C hQ hA (on_neg C hA), add_neg C hA, add_zero]
  have hy5 := add_y C hA hB
  have hm := den_minus C hA hB
  have hy1 := add_y C hB (on_neg C hA)
  have hm1 := den_minus C hB (on_neg C hA)
  rw [hq] at hy1
  have hon2 := hA
  have hon3 := hB
  have h1y : 1 - Q.y ≠ 0 := fun e => C.two (of_one_y Q.y x1 e hx)
  generalize (add C A B).y = y5 at hy5 ⊢
  clear hd hq hQ
  obtain ⟨qx, y1⟩ := Q
  obtain ⟨x2, y2⟩ := A
  obtain ⟨x3, y3⟩ := B
  simp only [neg] at *
  have hD' : 1 - C.d * x3 * -x2 * y3 * y2 = 1 + C.d * x2 * x3 * y2 * y3 := by grind
  rw [hD', show y3 * y2 - x3 * -x2 = y2 * y3 + x2 * x3 by grind] at hy1
  rw [hD'] at hm1
  have hid := id_diff C.d x2 y2 x3 y3 hon2 hon3
  have main := C.cancel (C.mul_ne hm (C.mul_ne hm1 h1y)) (dif_main x1 y1 y5 _ _ _ y2 y3 _ hy1 hy5 hx hid)
  rw [e2, e3]
  generalize X2 + Z2 = a2 at n2
  generalize X3 + Z3 = a3 at n3
  obtain ⟨d1, d2⟩ := dif_parts a2 a3 y2 y3 x1
  rw [d1, d2]
  have hrep := rep_of ((y2 + y3) * (y2 + y3)) (x1 * ((y2 - y3) * (y2 - y3))) y5 (a2 * a3 * (a2 * a3)) main
  refine ⟨hrep, fun h0 => ?_⟩
  obtain ⟨z1, z2⟩ := rep_zero _ _ _ hrep h0
  have hne : a2 * a3 * (a2 * a3) ≠ 0 := C.mul_ne (C.mul_ne n2 n3) (C.mul_ne n2 n3)
  have w1 : (y2 + y3) * (y2 + y3) = 0 := by
    rcases C.dom _ _ z1 with e | e
    · exact absurd e C.two
    · exact (C.dom _ _ e).elim (fun e => absurd e hne) id
  have w2 : (y2 - y3) * (y2 - y3) = 0 := by
    rcases C.dom _ _ z2 with e | e
    · exact absurd e C.two
    · rcases C.dom _ _ e with e | e
      · exact absurd e hne
      · exact (C.dom _ _ e).elim (fun e => absurd e hx1) id
  obtain ⟨v1, v2⟩ := four y2 y3 (sq_zero C w1) (sq_zero C w2)
  have u2 : y2 = 0 := (C.dom _ _ v1).elim (fun e => absurd e C.two) id
  have u3 : y3 = 0 := (C.dom _ _ v2).elim (fun e => absurd e C.two) id
  subst u2 u3
  -- both points are (1, 0) or (-1, 0): their difference is 1 or -1
  have q2 : x2 * x2 = 1 := by
    have := hon2
    simp only [On] at this
    rw [show x2 * x2 = x2 * x2 + 0 * 0 by grind, this]
    grind
  have q3 : x3 * x3 = 1 := by
    have := hon3
    simp only [On] at this
    rw [show x3 * x3 = x3 * x3 + 0 * 0 by grind, this]
    grind
  have hy1' : y1 = x2 * x3 := by
    rw [show y1 * (1 + C.d * x2 * x3 * 0 * 0) = y1 by grind, show (0 : Fin p) * 0 + x2 * x3 = x2 * x3 by grind] at hy1
    exact hy1
  have hsq : y1 * y1 = 1 * 1 := by
    rw [hy1', show x2 * x3 * (x2 * x3) = x2 * x2 * (x3 * x3) by grind, q2, q3]
  rcases C.dom _ _ (diff_sq y1 1 hsq) with e | e
  · apply h1y
    rw [eq_of_sub _ _ e]
    grind
  · have h0 := of_minus_y y1 x1 (neg_of_add _ _ e) hx
    exact (C.dom _ _ h0).elim hx1 C.two

end
end Edwards
end Go.Proofs.Ytnopjjkijedpeaa
