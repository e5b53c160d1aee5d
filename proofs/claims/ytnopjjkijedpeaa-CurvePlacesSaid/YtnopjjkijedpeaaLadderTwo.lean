/- Ladders of even numbers may be put together in any order: on the curve, and on its twist. Nothing of the program. -/
import Derived.Test.YtnopjjkijedpeaaLadderAll
namespace Go.Proofs.Ytnopjjkijedpeaa
namespace Edwards

section
variable {p : Nat} [NeZero p]

theorem iv_ne (C : Ctx p) {a : Fin p} (h : a ≠ 0) : C.iv a ≠ 0 := fun e => by
  have := C.inv a h
  rw [e] at this
  exact C.one (by rw [← this]; exact (zmul a).2)
theorem outY_zero (C : Ctx p) {y : Fin p} (h : outY C y = 0) : 1 + y = 0 ∨ 1 - y = 0 := by
  rcases C.dom _ _ h with e | e
  · exact .inl e
  · right
    exact Classical.byContradiction fun hne => iv_ne C hne e
theorem outY_one (C : Ctx p) (h0 : C.iv 0 = 0) : outY C 1 = 0 := by
  unfold outY
  rw [show (1 : Fin p) - 1 = 0 by grind, h0]
  exact (zmul _).2
theorem sq_one (y : Fin p) (h : 1 + y = 0 ∨ 1 - y = 0) : 1 - y * y = 0 := by
  rcases h with h | h
  · rw [show 1 - y * y = (1 - y) * (1 + y) by grind, h]
    exact (zmul _).2
  · rw [show 1 - y * y = (1 + y) * (1 - y) by grind, h]
    exact (zmul _).2
theorem twice (C : Ctx p) {Q : Pt p} (hQ : On C Q) (h : outY C Q.y = 0) : add C Q Q = O := by
  have hs := sq_of C hQ
  have hy := sq_one Q.y (outY_zero C h)
  rw [hy] at hs
  have hx := sq_zero C (C.dom3 hs (C.one_dy Q.y))
  have hi := C.inv 1 C.one
  obtain ⟨x, y⟩ := Q
  simp only at hx hy
  subst hx
  simp only [add, O, Pt.mk.injEq]
  rw [show 1 + C.d * 0 * 0 * y * y = 1 by grind, show 1 - C.d * 0 * 0 * y * y = 1 by grind, show 0 * y + 0 * y = 0 by grind, show y * y - 0 * 0 = 1 - (1 - y * y) by grind, hy]
  constructor
  · exact (zmul _).1
  · rw [← hi]
    grind
theorem even_O (C : Ctx p) {Q : Pt p} (hQ : On C Q) (h : outY C Q.y = 0) (n : Nat) : mu C Q (2 * n) = O := by
  rw [← mu_mul C hQ, show mu C Q 2 = add C Q Q by rw [show (2 : Nat) = 1 + 1 from rfl, mu_add C hQ, mu_one], twice C hQ h, mu_O]

theorem place_of (C : Ctx p) (h0 : C.iv 0 = 0) {y : Fin p} (h : outY C y ≠ 0) : outY C y * (1 - y) = 1 + y := by
  by_cases e : 1 - y = 0
  · exact absurd (by unfold outY; rw [e, h0]; exact (zmul _).2) h
  · unfold outY
    exact frac _ _ _ (C.inv _ e)

/-- the ladder of an even number goes from the place of a point to the place of its multiple -/
theorem out_of (C : Ctx p) (h0 : C.iv 0 = 0) (k : Fin p) (hk : (k + 1) * C.d = k) (hk1 : k + 1 ≠ 0) {Q : Pt p} (hQ : On C Q) (n m : Nat) (hN : 2 * n < 2 ^ (m + 1)) :
    out C k (outY C Q.y) (2 * n) (m + 1) = outY C (mu C Q (2 * n)).y := by
  by_cases e : outY C Q.y = 0
  · rw [e, out_nil C h0, even_O C hQ e]
    exact (outY_one C h0).symm
  · exact lad_out C h0 k hk hk1 hQ (place_of C h0 e) e (2 * n) (m + 1) hN

/-- BOTH AGREE, on the curve -/
theorem out_comm (C : Ctx p) (h0 : C.iv 0 = 0) (k : Fin p) (hk : (k + 1) * C.d = k) (hk1 : k + 1 ≠ 0) {Q : Pt p} (hQ : On C Q) (a b m : Nat) (ha : 2 * a < 2 ^ (m + 1)) (hb : 2 * b < 2 ^ (m + 1)) :
    out C k (out C k (outY C Q.y) (2 * b) (m + 1)) (2 * a) (m + 1) = outY C (mu C Q (2 * b * (2 * a))).y := by
  rw [out_of C h0 k hk hk1 hQ b m hb, out_of C h0 k hk hk1 (on_mu C hQ _) a m ha, mu_mul C hQ]

/-! ### the twist: the same ladder, of the place less than 0 -/
def flip (s : Four p) : Four p := ⟨s.x2, -s.z2, s.x3, -s.z3⟩
theorem flip_step (k x1 : Fin p) (s : Four p) : stepF (-(k + 1)) (-x1) (flip s) = flip (stepF k x1 s) := by
  obtain ⟨x2, z2, x3, z3⟩ := s
  simp only [stepF, flip, Four.mk.injEq]
  refine ⟨?_, ?_, ?_, ?_⟩ <;> grind
theorem flip_round (k x1 : Fin p) (b : Nat) (s : Four p) : roundF (-(k + 1)) (-x1) b (flip s) = flip (roundF k x1 b s) := by
  unfold roundF
  split
  · rw [show swapF (flip s) = flip (swapF s) from rfl, flip_step]
    rfl
  · exact flip_step k x1 s
/-- the third pair's sign is of no matter -/
theorem sign_round (k x1 : Fin p) (b : Nat) (s : Four p) : roundF k x1 b ⟨s.x2, s.z2, -s.x3, -s.z3⟩ = roundF k x1 b s := by
  obtain ⟨x2, z2, x3, z3⟩ := s
  unfold roundF
  split
  · simp only [swapF, stepF, Four.mk.injEq]
    refine ⟨?_, ?_, ?_, ?_⟩ <;> grind
  · simp only [stepF, Four.mk.injEq]
    refine ⟨?_, ?_, ?_, ?_⟩ <;> grind
theorem flip_start (k x1 : Fin p) (b : Nat) : roundF (-(k + 1)) (-x1) b (startF (-x1)) = flip (roundF k x1 b (startF x1)) := by
  rw [← flip_round, ← sign_round]
  congr 1
  simp only [startF, flip, Four.mk.injEq]
  refine ⟨?_, ?_, ?_, ?_⟩ <;> grind
theorem flip_lad (k x1 : Fin p) (N m : Nat) : ∀ i, ladF (-(k + 1)) (-x1) N m (i + 1) = flip (ladF k x1 N m (i + 1))
  | 0 => flip_start k x1 _
  | i + 1 => by rw [ladF, flip_lad k x1 N m i, flip_round]; rfl
theorem iv_neg (C : Ctx p) (h0 : C.iv 0 = 0) (a : Fin p) : C.iv (-a) = -C.iv a := by
  by_cases e : a = 0
  · rw [e, show -(0 : Fin p) = 0 by grind, h0]
    grind
  · have h1 := C.inv a e
    have hne : -a ≠ 0 := fun h => e (by rw [show a = - -a by grind, h]; grind)
    have h2 := C.inv (-a) hne
    refine C.cancel hne ?_
    rw [show C.iv (-a) * -a = -a * C.iv (-a) by grind, h2, show -C.iv a * -a = a * C.iv a by grind, h1]
theorem out_flip (C D : Ctx p) (hiv : D.iv = C.iv) (h0 : C.iv 0 = 0) (k x1 : Fin p) (N m : Nat) : out D (-(k + 1)) (-x1) N (m + 1) = -out C k x1 N (m + 1) := by
  unfold out
  rw [flip_lad, hiv]
  simp only [flip]
  rw [iv_neg C h0]
  grind

/-- BOTH AGREE, on the twist -/
theorem out_comm_twist (C D : Ctx p) (hiv : D.iv = C.iv) (h0 : C.iv 0 = 0) (k : Fin p) (hk : (-(k + 1) + 1) * D.d = -(k + 1)) (hk1 : -(k + 1) + 1 ≠ 0) {Q : Pt p} (hQ : On D Q) (a b m : Nat) (ha : 2 * a < 2 ^ (m + 1)) (hb : 2 * b < 2 ^ (m + 1)) :
    out C k (out C k (-outY D Q.y) (2 * b) (m + 1)) (2 * a) (m + 1) = -outY D (mu D Q (2 * b * (2 * a))).y := by
  have h0' : D.iv 0 = 0 := by rw [hiv]; exact h0
  have h := out_comm D h0' (-(k + 1)) hk hk1 hQ a b m ha hb
  have f : ∀ u : Fin p, u = - -u := fun u => by grind
  have e1 : out D (-(k + 1)) (outY D Q.y) (2 * b) (m + 1) = -out C k (-outY D Q.y) (2 * b) (m + 1) := by
    rw [← out_flip C D hiv h0, ← f]
  rw [e1, out_flip C D hiv h0] at h
  rw [← h, ← f]

end
end Edwards
end Go.Proofs.Ytnopjjkijedpeaa
