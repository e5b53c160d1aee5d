/- The ladder of a number and a place: what it tells is the place of a multiple, so that ladders of even numbers may be put together in any order. Nothing of the program. -/
import Derived.Test.YtnopjjkijedpeaaLadder
namespace Go.Proofs.Ytnopjjkijedpeaa
namespace Edwards

section
variable {p : Nat} [NeZero p]

/-- the pairs on their way -/
structure Four (p : Nat) where
  x2 : Fin p
  z2 : Fin p
  x3 : Fin p
  z3 : Fin p

/-- one step, behind the change of places -/
def stepF (k x1 : Fin p) (s : Four p) : Four p :=
  ⟨(s.x2 + s.z2) * (s.x2 + s.z2) * ((s.x2 - s.z2) * (s.x2 - s.z2)),
   ((s.x2 + s.z2) * (s.x2 + s.z2) - (s.x2 - s.z2) * (s.x2 - s.z2)) * ((s.x2 + s.z2) * (s.x2 + s.z2) + k * ((s.x2 + s.z2) * (s.x2 + s.z2) - (s.x2 - s.z2) * (s.x2 - s.z2))),
   ((s.x3 - s.z3) * (s.x2 + s.z2) + (s.x3 + s.z3) * (s.x2 - s.z2)) * ((s.x3 - s.z3) * (s.x2 + s.z2) + (s.x3 + s.z3) * (s.x2 - s.z2)),
   x1 * (((s.x3 - s.z3) * (s.x2 + s.z2) - (s.x3 + s.z3) * (s.x2 - s.z2)) * ((s.x3 - s.z3) * (s.x2 + s.z2) - (s.x3 + s.z3) * (s.x2 - s.z2)))⟩
def swapF (s : Four p) : Four p := ⟨s.x3, s.z3, s.x2, s.z2⟩
def roundF (k x1 : Fin p) (b : Nat) (s : Four p) : Four p := if b = 1 then swapF (stepF k x1 (swapF s)) else stepF k x1 s
def startF (x1 : Fin p) : Four p := ⟨1, 0, x1, 1⟩
/-- behind the first i of m digits of a number, the greatest first -/
def ladF (k x1 : Fin p) (N m : Nat) : Nat → Four p
  | 0 => startF x1
  | i + 1 => roundF k x1 (N / 2 ^ (m - (i + 1)) % 2) (ladF k x1 N m i)

theorem start_id (x1 y : Fin p) (h : x1 * (1 - y) = 1 + y) : x1 - 1 = y * (x1 + 1) := by grind
theorem start_two (x1 y : Fin p) (h : x1 * (1 - y) = 1 + y) (h0 : x1 + 1 = 0) : (2 : Fin p) = 0 := by
  have e : x1 = -1 := by grind
  rw [e] at h
  grind
theorem swap_sq (a b c e : Fin p) : (a * b + c * e) * (a * b + c * e) = (e * c + b * a) * (e * c + b * a) ∧ (a * b - c * e) * (a * b - c * e) = (e * c - b * a) * (e * c - b * a) := by
  constructor <;> grind

/-- what both pairs tell of a number -/
def Tell (C : Ctx p) (P : Pt p) (n : Nat) (s : Four p) : Prop := Rep s.x2 s.z2 (mu C P n).y ∧ Rep s.x3 s.z3 (mu C P (n + 1)).y

theorem round_tell (C : Ctx p) (k : Fin p) (hk : (k + 1) * C.d = k) (hk1 : k + 1 ≠ 0) {P : Pt p} (hP : On C P) {x1 : Fin p} (hx : x1 * (1 - P.y) = 1 + P.y) (hx1 : x1 ≠ 0) (n b : Nat) (hb : b < 2) {s : Four p} (h : Tell C P n s) :
    Tell C P (2 * n + b) (roundF k x1 b s) := by
  obtain ⟨h2, h3⟩ := h
  have oA := on_mu C hP n
  have oB := on_mu C hP (n + 1)
  have hd : mu C P (n + 1) = add C (mu C P n) P := rfl
  have hsum := Rep.sum C oA oB hP hd hx hx1 h2 h3
  rw [← mu_add C hP, show n + (n + 1) = 2 * n + 1 by omega] at hsum
  rcases Nat.lt_or_ge b 1 with l | l
  · obtain rfl : b = 0 := by omega
    have hdb := Rep.double C k hk hk1 oA h2
    rw [← mu_add C hP, show n + n = 2 * n + 0 by omega] at hdb
    exact ⟨hdb, hsum⟩
  · obtain rfl : b = 1 := by omega
    have hdb := Rep.double C k hk hk1 oB h3
    rw [← mu_add C hP, show n + 1 + (n + 1) = 2 * n + 1 + 1 by omega] at hdb
    refine ⟨?_, hdb⟩
    obtain ⟨e1, e2⟩ := swap_sq (s.x3 - s.z3) (s.x2 + s.z2) (s.x3 + s.z3) (s.x2 - s.z2)
    rw [e1, e2] at hsum
    exact hsum

theorem start_tell (C : Ctx p) {P : Pt p} {x1 : Fin p} (hx : x1 * (1 - P.y) = 1 + P.y) : Tell C P 0 (startF x1) := by
  refine ⟨⟨?_, ?_⟩, ⟨?_, ?_⟩⟩
  · show (1 : Fin p) - 0 = 1 * (1 + 0)
    grind
  · show (1 : Fin p) + 0 ≠ 0
    intro h
    exact C.one (by rw [show (1 : Fin p) = 1 + 0 by grind]; exact h)
  · rw [mu_one]
    exact start_id x1 P.y hx
  · intro h
    exact C.two (start_two x1 P.y hx h)

theorem half_digit (N m i : Nat) (hi : i < m) : N / 2 ^ (m - (i + 1)) = 2 * (N / 2 ^ (m - i)) + N / 2 ^ (m - (i + 1)) % 2 := by
  rw [show m - i = m - (i + 1) + 1 by omega, Nat.pow_succ, ← Nat.div_div_eq_div_mul]
  omega

theorem lad_tell (C : Ctx p) (k : Fin p) (hk : (k + 1) * C.d = k) (hk1 : k + 1 ≠ 0) {P : Pt p} (hP : On C P) {x1 : Fin p} (hx : x1 * (1 - P.y) = 1 + P.y) (hx1 : x1 ≠ 0) (N m : Nat) (hN : N < 2 ^ m) : ∀ i, i ≤ m → Tell C P (N / 2 ^ (m - i)) (ladF k x1 N m i)
  | 0, _ => by
    rw [Nat.sub_zero, Nat.div_eq_of_lt hN]
    exact start_tell C hx
  | i + 1, hi => by
    have ih := lad_tell C k hk hk1 hP hx hx1 N m hN i (by omega)
    have h := round_tell C k hk hk1 hP hx hx1 _ (N / 2 ^ (m - (i + 1)) % 2) (Nat.mod_lt _ (by omega)) ih
    rw [← half_digit N m i (by omega)] at h
    exact h

/-- the place that a y tells: 0 of the points (0, 1) and (0, -1) -/
def outY (C : Ctx p) (y : Fin p) : Fin p := (1 + y) * C.iv (1 - y)
/-- what the ladder tells -/
def out (C : Ctx p) (k x1 : Fin p) (N m : Nat) : Fin p := (ladF k x1 N m m).x2 * C.iv (ladF k x1 N m m).z2

theorem out_id (X Z y i j : Fin p) (h1 : X - Z = y * (X + Z)) (hi : Z * i = 1) (hj : (1 - y) * j = 1) : X * i = (1 + y) * j := by
  have e : X * (1 - y) = Z * (1 + y) := by grind
  have e2 : X * (1 - y) * (i * j) = Z * (1 + y) * (i * j) := by rw [e]
  rw [show X * (1 - y) * (i * j) = X * i * ((1 - y) * j) by grind, show Z * (1 + y) * (i * j) = (1 + y) * j * (Z * i) by grind, hi, hj] at e2
  grind
theorem z_of_y (X Z y : Fin p) (h1 : X - Z = y * (X + Z)) (hy : 1 - y = 0) : 2 * Z = 0 := by
  have : y = 1 := by grind
  rw [this] at h1
  grind
theorem y_of_z (X Z y : Fin p) (h1 : X - Z = y * (X + Z)) (hz : Z = 0) : (1 - y) * (X + Z) = 0 := by
  rw [hz] at h1 ⊢
  grind
theorem rep_out (C : Ctx p) (h0 : C.iv 0 = 0) {X Z y : Fin p} (h : Rep X Z y) : X * C.iv Z = outY C y := by
  obtain ⟨h1, h2⟩ := h
  unfold outY
  by_cases hz : Z = 0
  · have hy : 1 - y = 0 := C.dom3 (y_of_z X Z y h1 hz) h2
    rw [hz, hy, h0]
    grind
  · have hy : 1 - y ≠ 0 := fun e => hz ((C.dom _ _ (z_of_y X Z y h1 e)).elim (fun e => absurd e C.two) id)
    exact out_id X Z y _ _ h1 (C.inv _ hz) (C.inv _ hy)

theorem lad_out (C : Ctx p) (h0 : C.iv 0 = 0) (k : Fin p) (hk : (k + 1) * C.d = k) (hk1 : k + 1 ≠ 0) {P : Pt p} (hP : On C P) {x1 : Fin p} (hx : x1 * (1 - P.y) = 1 + P.y) (hx1 : x1 ≠ 0) (N m : Nat) (hN : N < 2 ^ m) :
    out C k x1 N m = outY C (mu C P N).y := by
  have h := (lad_tell C k hk hk1 hP hx hx1 N m hN m (Nat.le_refl m)).1
  rw [Nat.sub_self, Nat.pow_zero, Nat.div_one] at h
  exact rep_out C h0 h

/-! ### the place 0 -/
theorem e_zero (x z : Fin p) (h : x * z = 0) (k : Fin p) : ((x + z) * (x + z) - (x - z) * (x - z)) * ((x + z) * (x + z) + k * ((x + z) * (x + z) - (x - z) * (x - z))) = 0 := by
  rw [show (x + z) * (x + z) - (x - z) * (x - z) = 4 * (x * z) by grind, h]
  grind
theorem zmul (a : Fin p) : 0 * a = 0 ∧ a * 0 = 0 := by constructor <;> grind
def Nil (s : Four p) : Prop := s.x2 * s.z2 = 0 ∧ s.x3 * s.z3 = 0
theorem step_nil (k : Fin p) {s : Four p} (h : Nil s) : (stepF k 0 s).z2 = 0 ∧ (stepF k 0 s).z3 = 0 := ⟨e_zero _ _ h.1 k, (zmul _).1⟩
theorem round_nil (k : Fin p) (b : Nat) {s : Four p} (h : Nil s) : (roundF k 0 b s).z2 = 0 ∧ (roundF k 0 b s).z3 = 0 := by
  unfold roundF
  split
  · obtain ⟨h1, h2⟩ := step_nil k (s := swapF s) ⟨h.2, h.1⟩
    exact ⟨h2, h1⟩
  · exact step_nil k h
theorem lad_nil (k : Fin p) (N m : Nat) : ∀ i, Nil (ladF k 0 N m i)
  | 0 => ⟨(zmul _).2, (zmul _).1⟩
  | i + 1 => by
    obtain ⟨h1, h2⟩ := round_nil k (N / 2 ^ (m - (i + 1)) % 2) (lad_nil k N m i)
    exact ⟨by rw [show (ladF k 0 N m (i + 1)).z2 = 0 from h1]; exact (zmul _).2, by rw [show (ladF k 0 N m (i + 1)).z3 = 0 from h2]; exact (zmul _).2⟩
theorem out_nil (C : Ctx p) (h0 : C.iv 0 = 0) (k : Fin p) (N m : Nat) : out C k 0 N (m + 1) = 0 := by
  unfold out
  rw [show (ladF k 0 N (m + 1) (m + 1)).z2 = 0 from (round_nil k _ (lad_nil k N (m + 1) m)).1, h0]
  exact (zmul _).2

end
end Edwards
end Go.Proofs.Ytnopjjkijedpeaa
