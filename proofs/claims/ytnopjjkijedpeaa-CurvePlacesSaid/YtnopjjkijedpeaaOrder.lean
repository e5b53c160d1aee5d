/- The place 9: it is a place of the curve, of an order whose half is prime, so that no clamped number's multiple is at the place 0. Nothing of the program. -/
import Derived.Test.YtnopjjkijedpeaaPlace
import Derived.Test.YtnopjjkijedpeaaPrimeL
namespace Go.Proofs.Ytnopjjkijedpeaa
namespace Edwards
open Primes PrimeP FieldN

def nine : Fin P := ⟨9, by have := P_big; omega⟩
theorem nine_val : nine.val = 9 := rfl

/-! ### the ladder on numbers, step by step -/
def seq (n : Nat) (f : Nat → Bool) : Bool := Nat.rec (f 0) (fun m _ => f (m + 1)) n
theorem seq_eq (n : Nat) (f : Nat → Bool) : seq n f = f n := by cases n <;> rfl
def stepN (p k x1 x2 z2 x3 z3 : Nat) (K : Nat → Nat → Nat → Nat → Bool) : Bool :=
  seq ((x2 + z2) % p) fun a => seq ((x2 + (p - z2)) % p) fun b => seq ((x3 + z3) % p) fun c => seq ((x3 + (p - z3)) % p) fun d =>
  seq (d * a % p) fun da => seq (c * b % p) fun cb => seq (a * a % p) fun aa => seq (b * b % p) fun bb => seq ((aa + (p - bb)) % p) fun e =>
  seq (aa * bb % p) fun n2 => seq (e * ((aa + k * e % p) % p) % p) fun m2 => seq ((da + cb) % p) fun s => seq ((da + (p - cb)) % p) fun t =>
  seq (s * s % p) fun n3 => seq (x1 * (t * t % p) % p) fun m3 => K n2 m2 n3 m3
def goN (p k x1 N : Nat) (ck : Nat → Nat → Nat → Nat → Bool) : Nat → Nat → Nat → Nat → Nat → Bool
  | 0, x2, z2, x3, z3 => ck x2 z2 x3 z3
  | r + 1, x2, z2, x3, z3 => cond (N / 2 ^ r % 2 == 1) (stepN p k x1 x3 z3 x2 z2 fun a b c d => goN p k x1 N ck r c d a b) (stepN p k x1 x2 z2 x3 z3 fun a b c d => goN p k x1 N ck r a b c d)
def goF (k x1 : Fin P) (N : Nat) : Nat → Four P → Four P
  | 0, s => s
  | r + 1, s => goF k x1 N r (roundF k x1 (N / 2 ^ r % 2) s)
theorem goF_lad (k x1 : Fin P) (N m : Nat) : ∀ r i, i + r = m → goF k x1 N r (ladF k x1 N m i) = ladF k x1 N m m
  | 0, i, h => by
    obtain rfl : i = m := by omega
    rfl
  | r + 1, i, h => by
    rw [← goF_lad k x1 N m r (i + 1) (by omega), goF, ladF, show m - (i + 1) = r by omega]
theorem val_sub (a b : Fin P) : (a - b).val = (a.val + (P - b.val)) % P := by rw [Fin.sub_def, Nat.add_comm]
theorem stepN_eq (k x1 : Fin P) (s : Four P) (K : Nat → Nat → Nat → Nat → Bool) : stepN P k.val x1.val s.x2.val s.z2.val s.x3.val s.z3.val K = K (stepF k x1 s).x2.val (stepF k x1 s).z2.val (stepF k x1 s).x3.val (stepF k x1 s).z3.val := by
  unfold stepN stepF
  simp only [seq_eq, Fin.val_add, val_sub, val_mul]
theorem goN_eq (k x1 : Fin P) (N : Nat) (ck : Nat → Nat → Nat → Nat → Bool) : ∀ r (s : Four P), goN P k.val x1.val N ck r s.x2.val s.z2.val s.x3.val s.z3.val = ck (goF k x1 N r s).x2.val (goF k x1 N r s).z2.val (goF k x1 N r s).x3.val (goF k x1 N r s).z3.val
  | 0, _ => rfl
  | r + 1, s => by
    rw [goN, goF]
    by_cases e : N / 2 ^ r % 2 = 1
    · have h := stepN_eq k x1 (swapF s) fun a b c d => goN P k.val x1.val N ck r c d a b
      have h2 := goN_eq k x1 N ck r (swapF (stepF k x1 (swapF s)))
      rw [e, show ((1 : Nat) == 1) = true from rfl, cond_true, show roundF k x1 1 s = swapF (stepF k x1 (swapF s)) by unfold roundF; rw [if_pos rfl], ← h2]
      exact h
    · have h := stepN_eq k x1 s fun a b c d => goN P k.val x1.val N ck r a b c d
      have h2 := goN_eq k x1 N ck r (stepF k x1 s)
      rw [show (N / 2 ^ r % 2 == 1) = false by simpa using e, cond_false, show roundF k x1 (N / 2 ^ r % 2) s = stepF k x1 s by unfold roundF; rw [if_neg e], ← h2]
      exact h
theorem run_lad (N m : Nat) (ck : Nat → Nat → Nat → Nat → Bool) (h : goN P 121665 9 N ck m 1 0 9 1 = true) : ck (ladF kP nine N m m).x2.val (ladF kP nine N m m).z2.val (ladF kP nine N m m).x3.val (ladF kP nine N m m).z3.val = true := by
  have e := goN_eq kP nine N ck m (startF nine)
  have e2 := goF_lad kP nine N m m 0 (by omega)
  rw [show ladF kP nine N m 0 = startF nine from rfl] at e2
  rw [e2] at e
  have hk : kP.val = 121665 := by
    show kL = 121665
    unfold kL
    rfl
  rw [show (startF nine).x2.val = 1 from val_one, show (startF nine).z2.val = 0 from val_zero, show (startF nine).x3.val = 9 from rfl, show (startF nine).z3.val = 1 from val_one, hk, nine_val, h] at e
  exact e.symm

/-! ### the order -/
@[irreducible] def lN : Nat := 7237005577332262213973186563042994240857116359379907606001950938285454250989
theorem prime_lN : IsPrime lN := by
  unfold lN
  exact prime_l
theorem lN_lt : lN < 2 ^ 253 := by unfold lN; decide
theorem lN_big : 2 ^ 252 < lN := by unfold lN; decide

theorem run_l : goN P 121665 9 lN (fun _ z _ _ => z == 0) 253 1 0 9 1 = true := by
  unfold P lN
  decide +kernel
theorem run_two : goN P 121665 9 2 (fun x z _ _ => x != 0 && z != 0) 2 1 0 9 1 = true := by
  unfold P
  decide +kernel
theorem out_l : out CC kP nine lN 253 = 0 := by
  have h := run_lad lN 253 (fun _ z _ _ => z == 0) run_l
  simp only [beq_iff_eq] at h
  unfold out
  rw [(eq_zero _).2 h, iv0_C]
  exact (zmul _).2
theorem out_two : out CC kP nine 2 2 ≠ 0 := by
  have h := run_lad 2 2 (fun x z _ _ => x != 0 && z != 0) run_two
  simp only [Bool.and_eq_true, bne_iff_ne] at h
  unfold out
  exact CC.mul_ne (fun e => h.1 ((eq_zero _).1 e)) (iv_ne CC fun e => h.2 ((eq_zero _).1 e))

def rN : Nat := 48363676465460795623407076712729706995764907990067778228183742103931674247509
theorem rN_lt : rN < P := by unfold rN P; decide
theorem ninth : ∃ Q, On CC Q ∧ outY CC Q.y = nine := by
  refine place CC kP hk_C hk1_C nine ⟨rN, rN_lt⟩ _ rfl ?_
  have hk : kP.val = 121665 := by
    show kL = 121665
    unfold kL
    rfl
  have h2 : ((2 : Fin P)).val = 2 := val_two
  have h4 : ((4 : Fin P)).val = 4 := by
    show 4 % P = 4
    exact Nat.mod_eq_of_lt (by have := P_big; omega)
  rw [Fin.ext_iff]
  simp only [val_mul, Fin.val_add, hk, nine_val, val_one, h2, h4]
  unfold rN P
  decide +kernel

section
variable {C : Ctx P} {Q : Pt P}
theorem mu_sub (hQ : On C Q) (m n : Nat) (h1 : mu C Q (m + n) = O) (h2 : mu C Q m = O) : mu C Q n = O := by
  rw [mu_add C hQ, h2, zero_add] at h1
  exact h1
theorem mu_mod (hQ : On C Q) (m n : Nat) (h1 : mu C Q m = O) (h2 : mu C Q n = O) : mu C Q (n % m) = O := by
  have e : mu C Q (m * (n / m)) = O := by rw [← mu_mul C hQ, h1, mu_O]
  exact mu_sub hQ (m * (n / m)) (n % m) (by rw [Nat.div_add_mod]; exact h2) e
theorem mu_gcd (hQ : On C Q) (m n : Nat) : mu C Q m = O → mu C Q n = O → mu C Q (Nat.gcd m n) = O := by
  induction m, n using Nat.gcd.induction with
  | H0 n =>
    intro _ h
    rw [Nat.gcd_zero_left]
    exact h
  | H1 m n hm ih =>
    intro h1 h2
    rw [Nat.gcd_rec]
    exact ih (mu_mod hQ m n h1 h2) h1
theorem twice_mu (hQ : On C Q) (n : Nat) (h : outY C (mu C Q n).y = 0) : mu C Q (2 * n) = O := by
  rw [Nat.two_mul, mu_add C hQ]
  exact twice C (on_mu C hQ n) h
end

/-- a multiple of the place 9 by what the order's half does not divide is not at the place 0 -/
theorem nine_mu {Q : Pt P} (hQ : On CC Q) (h9 : outY CC Q.y = nine) (N : Nat) (hN : ¬ lN ∣ N) : outY CC (mu CC Q N).y ≠ 0 := by
  intro h0
  have hx : nine ≠ 0 := fun e => by
    rw [eq_zero, nine_val] at e
    omega
  have hp : nine * (1 - Q.y) = 1 + Q.y := by
    have := place_of CC iv0_C (y := Q.y) (by rw [h9]; exact hx)
    rwa [h9] at this
  have hl := lad_out CC iv0_C kP hk_C hk1_C hQ hp hx lN 253 lN_lt
  rw [out_l] at hl
  have h2 := lad_out CC iv0_C kP hk_C hk1_C hQ hp hx 2 2 (by decide)
  have e1 := twice_mu hQ N h0
  have e2 := twice_mu hQ lN hl.symm
  have hg := mu_gcd hQ (2 * N) (2 * lN) e1 e2
  have hc : Nat.gcd N lN = 1 := by
    have := prime_lN.coprime N hN
    rw [Nat.gcd_comm]
    exact this
  rw [Nat.gcd_mul_left, hc, Nat.mul_one] at hg
  rw [hg] at h2
  refine out_two ?_
  rw [h2]
  exact outY_one CC iv0_C

/-- a clamped number: eight times something, of 255 digits -/
theorem no_l (m : Nat) (h1 : 0 < m) (h2 : m < lN) : ¬ lN ∣ 8 * m := by
  intro h
  rcases prime_lN.euclid h with e | e
  · have := Nat.le_of_dvd (by omega) e
    have := lN_big
    omega
  · have := Nat.le_of_dvd h1 e
    omega

theorem nine_once (m : Nat) (h1 : 0 < m) (h2 : m < 2 ^ 252) : lad (8 * m) nine ≠ 0 := by
  obtain ⟨Q, hQ, h9⟩ := ninth
  have h := nine_mu hQ h9 (8 * m) (no_l m h1 (Nat.lt_trans h2 lN_big))
  have e := out_of CC iv0_C kP hk_C hk1_C hQ (4 * m) 254 (by omega)
  unfold lad
  rw [show 8 * m = 2 * (4 * m) by omega] at h ⊢
  rw [← h9, e]
  exact h
theorem nine_twice (m n : Nat) (h1 : 0 < m) (h2 : m < 2 ^ 252) (h3 : 0 < n) (h4 : n < 2 ^ 252) : lad (8 * m) (lad (8 * n) nine) ≠ 0 := by
  obtain ⟨Q, hQ, h9⟩ := ninth
  have hd : ¬ lN ∣ 8 * n * (8 * m) := fun h => (prime_lN.euclid h).elim (no_l n h3 (Nat.lt_trans h4 lN_big)) (no_l m h1 (Nat.lt_trans h2 lN_big))
  have h := nine_mu hQ h9 _ hd
  have e := out_comm CC iv0_C kP hk_C hk1_C hQ (4 * m) (4 * n) 254 (by omega) (by omega)
  unfold lad
  rw [show 8 * m = 2 * (4 * m) by omega, show 8 * n = 2 * (4 * n) by omega] at h ⊢
  rw [← h9, e]
  exact h

/-- the place 0 stays -/
theorem lad_zero (N : Nat) : lad N 0 = 0 := out_nil CC iv0_C kP N 254

end Edwards
end Go.Proofs.Ytnopjjkijedpeaa
