/- The document's own answers of layer 3 (package aditref03): parted, Mod. -/
import Derived.Test.YtdffbjlbhjppeaaRefNum
import Derived.Test.YtdffbjlbhjppeaaPolyNum
namespace Go.Proofs.Ytdffbjlbhjppeaa
namespace Ref
open Go.ChangeShapes Go.WideShapes Go.ChangeAt Go.RowKit
open Num Mem Words PolyN

/-- 2^130 -/
def Q : Nat := 1361129467683753853853498429727072845824
theorem Q_eq : P + 5 = Q := by decide +kernel
theorem Q_pow : Q = 2 ^ 130 := by decide +kernel
theorem Q_split : Q = 4 * 2 ^ (8 * 16) := by decide +kernel

/-- a row that tells a number -/
def Tells (w : World) (A : Option Addr) (k : Nat) (v : Nat) : Prop := ∃ h : Nat → Nat, Rd w A k h ∧ (∀ i, h i < 256) ∧ le h 0 k = v
theorem Tells.below {w w' : World} {A : Option Addr} {k v : Nat} (t : Tells w A k v) (hb : Below w.heap.size w w') : Tells w' A k v := by
  obtain ⟨h, h1, h2⟩ := t
  exact ⟨h, h1.below hb (Nat.le_refl _), h2⟩

def PartedPost (w : World) (lo hi : Nat) (e : Ending) (w' : World) : Prop :=
  ∃ A1 k1 c1 A2 k2 c2, e = .returned (.tuple #[.slice A1 k1 c1, .slice A2 k2 c2]) ∧ Tells w' A1 k1 lo ∧ Tells w' A2 k2 hi ∧ k1 ≤ c1 ∧ k2 ≤ c2 ∧ k1 ≤ 17 ∧ (k2 = 0 ↔ hi = 0) ∧ (∀ K, hi < 2 ^ (8 * K) → k2 ≤ K) ∧ Below w.heap.size w w'

theorem up_step (U f : Nat) : (256 * U + f) / 4 = 256 * (U / 4) + (256 * (U % 4) + f) / 4 := by omega
theorem up_mod (U f : Nat) : (256 * U + f) % 4 = (256 * (U % 4) + f) % 4 := by omega
/-- a byte at the front of a number -/
theorem byt_front (U x : Nat) (hx : x < 256) (i : Nat) : byt (256 * U + x) i = if i < 1 then x else byt U (i - 1) := by
  by_cases h : i < 1
  · rw [if_pos h]
    obtain rfl : i = 0 := by omega
    unfold byt
    rw [Nat.mul_zero, Nat.pow_zero, Nat.div_one]
    omega
  · rw [if_neg h]
    obtain ⟨j, rfl⟩ : ∃ j, i = j + 1 := ⟨i - 1, by omega⟩
    rw [Nat.add_sub_cancel]
    unfold byt
    rw [pow8_succ, ← Nat.div_div_eq_div_mul, show (256 * U + x) / 256 = U by omega]

theorem low_split (L U x : Nat) (hL : L < 2 ^ (8 * 16)) (hx : U % 4 = x % 4) : (L + U * 2 ^ (8 * 16)) % Q = L + x % 4 * 2 ^ (8 * 16) ∧ (L + U * 2 ^ (8 * 16)) / Q = U / 4 := by
  have e : L + U * 2 ^ (8 * 16) = (L + x % 4 * 2 ^ (8 * 16)) + (U / 4) * Q := by
    rw [Q_split, ← hx, ← Nat.mul_assoc, Nat.add_assoc, ← Nat.add_mul]
    congr 2
    omega
  have hlt : L + x % 4 * 2 ^ (8 * 16) < Q := by
    have h1 : x % 4 * 2 ^ (8 * 16) ≤ 3 * 2 ^ (8 * 16) := Nat.mul_le_mul_right _ (by omega)
    have h2 : Q = 4 * 2 ^ (8 * 16) := Q_split
    omega
  have hQ : 0 < Q := by decide +kernel
  rw [e]
  exact ⟨by rw [Nat.add_mul_mod_self_right, Nat.mod_eq_of_lt hlt], by rw [Nat.add_mul_div_right _ _ hQ, Nat.div_eq_of_lt hlt, Nat.zero_add]⟩

theorem short_parts (f : Nat → Nat) (hf : ∀ i, f i < 256) (n : Nat) (hn : n ≤ 16) : le f 0 n % Q = le f 0 n ∧ le f 0 n / Q = 0 := by
  have hv := le_lt hf 0 n
  have hv2 : le f 0 n < Q := Nat.lt_of_lt_of_le hv (by
    have : 2 ^ (8 * n) ≤ 2 ^ 128 := Nat.pow_le_pow_right (by omega) (by omega)
    refine Nat.le_trans this ?_
    decide +kernel)
  exact ⟨Nat.mod_eq_of_lt hv2, Nat.div_eq_of_lt hv2⟩

set_option maxRecDepth 100000 in
theorem parted_short (A : Option Addr) (n c : Nat) (f : Nat → Nat) (hf : ∀ i, f i < 256) (hn : n ≤ 16) (hc : n ≤ c) (w : World) (hr : Rd w A n f) :
    Calls Try.prog 57 #[.slice A n c] w (PartedPost w (le f 0 n) 0) := by
  have HR := Lib.hid hr
  have HF := Lib.hid hf
  have hd : decide ((n : Int) ≤ 16) = true := decide_eq_true (by omega)
  clear hr hf
  go_enter Try.func57, Try.ntmps57
  go_wp2_with fail
  go_ret2
  exact ⟨A, n, c, none, 0, 0, rfl, ⟨f, HR.out, HF.out, rfl⟩, ⟨fun _ => 0, .inl rfl, fun _ => Nat.zero_lt_succ 255, rfl⟩, hc, Nat.le_refl _, by omega, ⟨fun _ => rfl, fun _ => rfl⟩, fun _ _ => Nat.zero_le _, Below.refl _ _⟩

/-- both parts of a long number -/
theorem long_parts (f : Nat → Nat) (hf : ∀ i, f i < 256) (n : Nat) (hn : 16 < n) : le f 0 n % Q = le f 0 16 + f 16 % 4 * 2 ^ (8 * 16) ∧ le f 0 n / Q = le f 16 (n - 16) / 4 := by
  have h := low_split (le f 0 16) (le f 16 (n - 16)) (f 16) (le_lt hf 0 16) (by
    rw [show n - 16 = (n - 17) + 1 by omega, le_front]
    omega)
  have e := le_cat f 16 (n - 16)
  rw [show 16 + (n - 16) = n by omega] at e
  rw [e]
  exact h

theorem low_row (f : Nat → Nat) : le (fun i => if i < 16 then f i else f 16 % 4) 0 17 = le f 0 16 + f 16 % 4 * 2 ^ (8 * 16) := by
  have e := le_cat (fun i => if i < 16 then f i else f 16 % 4) 16 1
  have e1 : le (fun i => if i < 16 then f i else f 16 % 4) 0 16 = le f 0 16 := le_congr 16 fun i hi => if_pos (by omega)
  have e2 : le (fun i => if i < 16 then f i else f 16 % 4) 16 1 = f 16 % 4 := by simp [le]
  rw [e1, e2] at e
  exact e

set_option maxRecDepth 100000 in
theorem parted_long (A : Option Addr) (n c : Nat) (f : Nat → Nat) (hf : ∀ i, f i < 256) (hn : 16 < n) (hn2 : n ≤ 100000) (hc : n ≤ c) (lo hi : Nat) (hlo : lo = le f 0 16 + f 16 % 4 * 2 ^ (8 * 16)) (hhi : hi = le f 16 (n - 16) / 4) (w : World) (hr : Rd w A n f) :
    Calls Try.prog 57 #[.slice A n c] w (PartedPost w lo hi) := by
  have HLO := Lib.hid hlo
  have HHI := Lib.hid hhi
  clear hlo hhi
  obtain ⟨b, off, hAe, hbw, hcc⟩ : ∃ b off, A = some ⟨b, off, none⟩ ∧ b < w.heap.size ∧ ∀ i, i < n → w.cell? ⟨b, off + i, none⟩ = some (.int .u8 (f i : Nat)) := by
    rcases hr with h | ⟨b, off, h1, h2, h3⟩
    · omega
    · exact ⟨b, off, h1, h2, h3⟩
  subst hAe
  have HX := Lib.hid (show ∀ x, Below w.heap.size w x → ∀ i, i < n → x.cell? ⟨b, off + i, none⟩ = some (.int .u8 (f i : Nat)) from fun x hx i hi => (hx.cell (p := ⟨b, off + i, none⟩) hbw).trans (hcc i hi))
  have HF := Lib.hid hf
  have hd : decide ((n : Int) ≤ 16) = false := decide_eq_false (by omega)
  have hcell0 := hcc 16 (by omega)
  have b16 := hf 16
  have HTL := Lib.hid (show ∀ i, i < 16 + 1 → (fun i => if i < 16 then f i else f 16 % 4) i = if i < 16 then f i else (fun _ => f 16 % 4) (i - 16) from fun _ _ => rfl)
  clear hr hf hcc
  go_enter Try.func57, Try.ntmps57
  go_upto_region 5 with (at_builtin; refine wpList_catFrom (T := f) rfl (.tmp 12) (.tmp 14) 23 5 (.int .u8 0) 1 Try.underlying23 info_u8 rfl rfl rfl (Own.nil w w.heap.size 5 f) (Below.refl _ _) (Nat.le_refl _) 16 c (some ⟨b, off, none⟩) rfl (src_rd (.inr ⟨b, off, rfl, hbw, fun i hi => HX.out w (Below.refl _ _) i (by omega)⟩) (fun e => by cases e)) (by omega) (by omega) (fun i hi => by simp) ?_)
  intro A1 c1 w1 o1 hb1 hs1 _ _
  have O1 := Lib.hid o1
  have L1 := Lib.hid hb1
  clear o1 hb1
  have hcell1 := HX.out w1 L1.out 16 (by omega)
  have HB4 := Lib.hid (show ((f 16 : Nat) : Int) % 4 = ((f 16 % 4 : Nat) : Int) by omega)
  have hs1' := hs1
  clear hcell0
  go_upto_region 6 with (at_builtin; refine wpList_catFrom (T := fun i => if i < 16 then f i else f 16 % 4) rfl (.tmp 16) (.tmp 21) 23 5 (.int .u8 0) 1 Try.underlying23 info_u8 rfl rfl rfl (O1.out.alloc _) (L1.out.alloc hs1 _) (Nat.le_trans hs1 (by simp)) 1 1 (some ⟨w1.heap.size, 0, none⟩) rfl (src_own (own_new (B := 0) (f := fun _ => f 16 % 4) (Nat.zero_le _) (by rw [HB4.out]; rfl) (by omega))) (by omega) (by omega) (fun i hi => rfl) ?_)
  intro A2 c2 w2 o2 hb2 hs2 _ _
  have O2 := Lib.hid o2
  have L2 := Lib.hid hb2
  have HT17 := Lib.hid (show le (fun i => if i < 16 then f i else f 16 % 4) 0 17 = lo by rw [HLO.out]; exact low_row f)
  clear o2 hb2 O1 L1 hs1 hs1' hcell1
  go_wp2_with fail
  go_loopw [5, 6, 7] (fun o cc i wr => ∃ (j x : Nat) (A3 : Option Addr) (c3 : Nat), 16 ≤ j ∧ j ≤ n ∧ i = .int .i64 ((j : Int) - 1) ∧ cc = .int .i64 (x : Nat) ∧ x % 4 = le f j (n - j) % 4 ∧ x < 1024 ∧ o = .slice A3 (n - j) c3 ∧ Own wr w2.heap.size 5 A3 (n - j) c3 (byt (le f j (n - j) / 4)) ∧ Below w2.heap.size w2 wr) (fun _ _ i _ => (intOf i + 1).toNat)
  case atStart => exact ⟨n, 0, none, 0, by omega, Nat.le_refl _, rfl, rfl, by rw [Nat.sub_self]; rfl, by omega, by rw [Nat.sub_self], by rw [Nat.sub_self]; exact Own.nil _ _ _ _, Below.refl _ _⟩
  case round =>
    obtain ⟨j, x, A3, c3, hj1, hj2, rfl, rfl, hx4, hx, rfl, o3, hb3⟩ := hrel
    have O3 := Lib.hid o3
    have L3 := Lib.hid hb3
    have hs3 := hb3.size
    have HX4 := Lib.hid hx4
    clear o3 hb3 hx4
    by_cases hlt : 16 < j
    · obtain ⟨i, rfl⟩ : ∃ i, j = i + 1 := ⟨j - 1, by omega⟩
      have hji : (((i + 1 : Nat) : Int) - 1) = (i : Int) := by omega
      rw [hji]
      clear hji
      have hcell := HX.out wr (L2.out.trans (L3.out.mono hs2)) i (by omega)
      have bi := HF.out i
      have HU := Lib.hid (show le f i (n - i) = 256 * le f (i + 1) (n - (i + 1)) + f i by rw [show n - i = n - (i + 1) + 1 by omega, le_front])
      obtain ⟨U, hU⟩ : ∃ U, le f (i + 1) (n - (i + 1)) = U := ⟨_, rfl⟩
      rw [hU] at HU O3 HX4
      clear hU
      generalize f i = y at hcell bi HU
      obtain ⟨z, hz⟩ : ∃ z, (256 * (x % 4) + y) / 4 = z := ⟨_, rfl⟩
      have HZ := Lib.hid (show (256 * ((x : Int) % 4) + (y : Int)) / 4 = (z : Int) by omega)
      have HT := Lib.hid (show ∀ i, byt ((256 * U + y) / 4) i = if i < 1 then z else byt (U / 4) (i - 1) from fun i => by
        rw [up_step, ← HX4.out, hz]
        exact byt_front _ _ (by omega) i)
      have H4 := Lib.hid (show (256 * (x % 4) + y) % 4 = (256 * U + y) % 4 by have := HX4.out; omega)
      have HXN := Lib.hid (show 256 * ((x : Int) % 4) + (y : Int) = ((256 * (x % 4) + y : Nat) : Int) by omega)
      have i1 : 256 * ((x : Int) % 4) + (y : Int) < 1024 := by omega
      have i2 : (16 : Int) ≤ (i : Int) := by omega
      have i3 : 256 * (x % 4) + y < 1024 := by omega
      have hz2 : z < 256 := by omega
      clear hz
      go_wp2_with (at_builtin; refine wpList_catFrom (T := byt ((256 * U + y) / 4)) rfl (.tmp 42) (.tmp 43) 23 5 (.int .u8 0) 1 Try.underlying23 info_u8 rfl rfl rfl (own_new (f := fun _ => z) hs3 (by rw [HZ.out]; rfl) (by omega)) (L3.out.alloc hs3 _) (Nat.le_trans hs3 (by simp)) (n - (i + 1)) c3 A3 rfl (src_own (O3.out.alloc _)) (by omega) (by omega) (fun i hi => HT.out i) ?_; intro A4 c4 w4 o4 hb4 hs4 _ _; have O4 := Lib.hid o4; have L4 := Lib.hid hb4; clear o4 hb4)
      go_roundw
      case rel => exact ⟨i, _, A4, c4, by omega, by omega, rfl, by rw [HXN.out], by rw [HU.out]; exact H4.out, i3, by rw [show n - i = 1 + (n - (i + 1)) by omega], by rw [HU.out, show n - i = 1 + (n - (i + 1)) by omega]; exact O4.out, L4.out⟩
      case measure => simp [intOf]
    · obtain rfl : j = 16 := by omega
      have HV3 := Lib.hid (show le (byt (le f 16 (n - 16) / 4)) 0 (n - 16) = hi by
        rw [HHI.out]
        exact le_byt _ _ (Nat.lt_of_le_of_lt (Nat.div_le_self _ _) (le_lt HF.out 16 _)))
      have hcap2 := own_cap O2.out
      have hcap3 := own_cap O3.out
      have R2 := Lib.hid (O2.out.below L3.out (Nat.le_refl _)).rd
      have R3 := Lib.hid O3.out.rd
      have HBT := Lib.hid (show ∀ i, (fun i => if i < 16 then f i else f 16 % 4) i < 256 from fun i => by
        have := HF.out i
        dsimp only
        split <;> omega)
      have LW := Lib.hid (L2.out.trans (L3.out.mono hs2))
      generalize (fun i => if i < 16 then f i else f 16 % 4) = T at R2 HT17 HBT
      obtain ⟨V3, hV3⟩ : ∃ V3, byt (le f 16 (n - 16) / 4) = V3 := ⟨_, rfl⟩
      have HBV := Lib.hid (show ∀ i, V3 i < 256 from fun i => by rw [← hV3]; exact byt_lt _ i)
      rw [hV3] at R3 HV3
      clear hV3 HX4 HX HLO HHI O2 O3 L2 L3 HF
      go_wp2_with fail
      refine (trim_any A2 17 c2 T hcap2 (by omega) _ R2.out).mono ?_
      rintro e w5 ⟨k1, hk1, rfl, hle1, _, rfl⟩
      have HL1 := Lib.hid (hle1.trans HT17.out)
      clear hle1
      go_wp2_with fail
      refine (trim_any A3 (n - 16) c3 V3 hcap3 (by omega) _ R3.out).mono ?_
      rintro e w5 ⟨k2, hk2, rfl, hle2, htop, rfl⟩
      have HL2 := Lib.hid (hle2.trans HV3.out)
      have HTOP := Lib.hid (show k2 = 0 ↔ hi = 0 by rw [← HL2.out]; exact le_top_zero V3 k2 htop)
      have HTK := Lib.hid (show ∀ K, hi < 2 ^ (8 * K) → k2 ≤ K from fun K h => le_top V3 k2 htop K (by rw [HL2.out]; exact h))
      have P1 := Lib.hid (show Tells wr A2 k1 lo from ⟨T, rd_front R2.out k1 hk1, HBT.out, HL1.out⟩)
      have P2 := Lib.hid (show Tells wr A3 k2 hi from ⟨V3, rd_front R3.out k2 hk2, HBV.out, HL2.out⟩)
      clear hle2 htop
      go_wp2_with fail
      go_ret2
      exact ⟨A2, k1, c2, A3, k2, c3, rfl, P1.out, P2.out, by omega, by omega, by omega, HTOP.out, HTK.out, LW.out⟩

/-- both parts of whatever number, and how they go on -/
theorem parted_any (A : Option Addr) (n c : Nat) (v : Nat) (hn2 : n ≤ 100000) (hc : n ≤ c) (lo hi : Nat) (hlo : lo = v % Q) (hhi : hi = v / Q) (w : World) (ht : Tells w A n v) :
    Calls Try.prog 57 #[.slice A n c] w (PartedPost w lo hi) := by
  obtain ⟨f, hr, hf, rfl⟩ := ht
  by_cases h : n ≤ 16
  · have hs := short_parts f hf n h
    rw [hlo, hhi, hs.1, hs.2]
    exact parted_short A n c f hf h hc w hr
  · have hs := long_parts f hf n (by omega)
    exact parted_long A n c f hf (by omega) hn2 hc lo hi (by rw [hlo, hs.1]) (by rw [hhi, hs.2]) w hr

/-! ### modulo the prime -/
theorem mod_fold (v : Nat) : (v % Q + v / Q * 5) % P = v % P := by
  have e : v = v % Q + v / Q * 5 + P * (v / Q) := by
    have h := Nat.div_add_mod v Q
    rw [← Q_eq] at h ⊢
    rw [Nat.add_mul] at h
    rw [Nat.mul_comm (v / (P + 5)) 5]
    omega
  have h2 : (v % Q + v / Q * 5 + P * (v / Q)) % P = (v % Q + v / Q * 5) % P := Nat.add_mul_mod_self_left _ _ _
  rw [← e] at h2
  exact h2.symm
theorem mod_less (v : Nat) (h : v / Q ≠ 0) : v % Q + v / Q * 5 < v := by
  have h1 := Nat.div_add_mod v Q
  have h2 : 5 < Q := by decide +kernel
  have h3 : v / Q * 5 < v / Q * Q := Nat.mul_lt_mul_of_pos_left h2 (Nat.pos_of_ne_zero h)
  rw [Nat.mul_comm Q] at h1
  generalize v / Q * Q = a at h1 h3
  generalize v / Q * 5 = b at h3 ⊢
  generalize v % Q = c at h1 ⊢
  omega
theorem hi_len (v n : Nat) (hn : 15 ≤ n) (hv : v < 2 ^ (8 * n)) : v / Q * 5 < 2 ^ (8 * (n - 15)) := by
  rcases Nat.lt_or_ge (v / Q * 5) (2 ^ (8 * (n - 15))) with h | h
  · exact h
  · exfalso
    have h1 : v / Q * Q ≤ v := Nat.div_mul_le_self v Q
    have h2 : 5 * 2 ^ 120 ≤ Q := by decide +kernel
    have h3 : v / Q * (5 * 2 ^ 120) ≤ v / Q * Q := Nat.mul_le_mul_left _ h2
    have h4 : 2 ^ (8 * (n - 15)) * 2 ^ 120 ≤ v / Q * 5 * 2 ^ 120 := Nat.mul_le_mul_right _ h
    rw [← Nat.pow_add, show 8 * (n - 15) + 120 = 8 * n by omega, Nat.mul_assoc] at h4
    omega
theorem mod_end (v : Nat) (h : v / Q = 0) : ((v + 5) / Q = 0 → v = v % P) ∧ ((v + 5) / Q ≠ 0 → (v + 5) % Q = v % P) := by
  have hQ : 0 < Q := by decide +kernel
  have hv : v < Q := by
    rcases Nat.lt_or_ge v Q with h1 | h1
    · exact h1
    · have := Nat.div_pos h1 hQ
      omega
  have h5 : 5 < P := by decide +kernel
  have he := Q_eq
  constructor
  · intro h2
    have : v + 5 < Q := by
      rcases Nat.lt_or_ge (v + 5) Q with h1 | h1
      · exact h1
      · have := Nat.div_pos h1 hQ
        omega
    exact (Nat.mod_eq_of_lt (by omega)).symm
  · intro h2
    have h3 : Q ≤ v + 5 := by
      rcases Nat.lt_or_ge (v + 5) Q with h1 | h1
      · exact absurd (Nat.div_eq_of_lt h1) h2
      · exact h1
    rw [show v + 5 = (v + 5 - Q) + Q by omega, Nat.add_mod_right, Nat.mod_eq_of_lt (by omega), show v + 5 - Q = v - P by omega, ← Nat.mod_eq_of_lt (show v - P < P by omega), ← Nat.add_mod_right, show v - P + P = v by omega]

def ModPost (w : World) (r : Nat) (e : Ending) (w' : World) : Prop :=
  ∃ A k c, e = .returned (.slice A k c) ∧ Tells w' A k r ∧ k ≤ c ∧ k ≤ 17 ∧ Below w.heap.size w w'

theorem five_tells (w : World) : Rd (w.alloc (.cells #[.int .u8 5] 5)) (some ⟨w.heap.size, 0, none⟩) 1 (fun _ => 5) := Rd.of_new rfl rfl

set_option maxRecDepth 100000 in
set_option maxHeartbeats 1000000 in
theorem mod_any (A : Option Addr) (n c : Nat) (v : Nat) (hn : n ≤ 1000) (hc : n ≤ c) (r : Nat) (hr : v % P = r) (w : World) (ht : Tells w A n v) :
    Calls Try.prog 36 #[.slice A n c] w (ModPost w r) := by
  have HT := Lib.hid ht
  have HR := Lib.hid hr
  clear ht hr
  go_enter Try.func36, Try.ntmps36
  go_wp2_with fail
  go_loopg [0] v (fun u s wr => ∃ (A1 : Option Addr) (n1 c1 : Nat), s = .slice A1 n1 c1 ∧ Tells wr A1 n1 u ∧ n1 ≤ c1 ∧ n1 ≤ 1000 ∧ u % P = r ∧ Below w.heap.size w wr)
  case atStart => exact ⟨A, n, c, rfl, HT.out, hc, hn, HR.out, Below.refl _ _⟩
  case round =>
    obtain ⟨A1, n1, c1, rfl, ht, hc1, hn1, hr, hb⟩ := hrel
    have T1 := Lib.hid ht
    have R1 := Lib.hid hr
    have L1 := Lib.hid hb
    have hs1 := hb.size
    clear ht hr hb
    go_wp2_with fail
    refine (parted_any A1 n1 c1 gk (by omega) hc1 (gk % Q) (gk / Q) rfl rfl _ T1.out).mono ?_
    rintro e w2 ⟨A2, k2, c2, A3, k3, c3, rfl, t2, t3, hc2, hc3, hk2, hz3, hk3, hb2⟩
    have T2 := Lib.hid t2
    have T3 := Lib.hid t3
    have L2 := Lib.hid hb2
    have HZ3 := Lib.hid hz3
    have HK3 := Lib.hid hk3
    have hs2 := hb2.size
    clear t2 t3 hb2 hz3 hk3
    by_cases h0 : k3 = 0
    · have HE := Lib.hid (mod_end gk (HZ3.out.1 h0))
      have hb0 : ((k3 : Int) == 0) = true := by rw [h0]; rfl
      have TA := Lib.hid (T1.out.below L2.out)
      clear h0
      go_wp2_with fail
      obtain ⟨f1, r1, hf1, hv1⟩ := TA.out
      refine (add_any A1 n1 c1 f1 (some ⟨w2.heap.size, 0, none⟩) 1 1 (fun _ => 5) hf1 (fun _ => by omega) (by omega) (by omega) _ (r1.below (below_alloc (Below.refl _ _) _) (Nat.le_refl _)) (five_tells w2)).mono ?_
      rintro e w5 ⟨A5, k5, c5, rfl, o5, hS5, hk5, hb5⟩
      have hL := Lib.hid (below_trans L1.out (below_trans L2.out (below_new (Below.refl _ _) hb5)))
      have HS5 := Lib.hid (show le f1 0 n1 + le (fun _ => 5) 0 1 = gk + 5 by rw [hv1]; rfl)
      rw [HS5.out] at o5 hS5
      have T5 := Lib.hid (show Tells w5 A5 k5 (gk + 5) from ⟨_, o5.rd, byt_lt _, le_byt _ _ hS5⟩)
      have hcap5 := own_cap o5
      have TB := Lib.hid (show Tells w5 A1 n1 gk from (TA.out.below (below_new (Below.refl _ _) hb5)))
      clear r1 hf1 hv1 o5 hS5 hb5 HS5
      go_wp2_with fail
      refine (parted_any A5 k5 c5 (gk + 5) (by omega) hcap5 ((gk + 5) % Q) ((gk + 5) / Q) rfl rfl _ T5.out).mono ?_
      rintro e w6 ⟨A6, k6, c6, A7, k7, c7, rfl, t6, t7, hc6, hc7, hk6, hz7, hk7, hb6⟩
      have T6 := Lib.hid t6
      have L6 := Lib.hid (below_trans hL.out hb6)
      have HZ7 := Lib.hid hz7
      have TC := Lib.hid (TB.out.below hb6)
      clear t6 t7 hb6 hz7 hk7
      by_cases h7 : k7 = 0
      · have hb7 : decide ((0 : Int) < (k7 : Int)) = false := decide_eq_false (by omega)
        have HV := Lib.hid ((HE.out.1 (HZ7.out.1 h7)).trans R1.out)
        subst h7
        go_wp2_with fail
        obtain ⟨f1, r1, hf1, hv1⟩ := TC.out
        refine (trim_any A1 n1 c1 f1 hc1 (by omega) _ r1).mono ?_
        rintro e w7 ⟨k8, hk8, rfl, hle, htop, rfl⟩
        have HT8 := Lib.hid (show Tells w6 A1 k8 r from ⟨f1, rd_front r1 k8 hk8, hf1, by rw [hle, hv1, HV.out]⟩)
        have HK8 := Lib.hid (show k8 ≤ 17 from le_top f1 k8 htop 17 (by
          rw [hle, hv1, HV.out, ← R1.out]
          refine Nat.lt_trans (Nat.mod_lt _ P_pos) ?_
          decide +kernel))
        clear r1 hf1 hv1 hle htop
        go_wp2_with fail
        go_ret
        exact ⟨A1, k8, c1, rfl, HT8.out, by omega, HK8.out, L6.out⟩
      · have hb7 : 0 < k7 := by omega
        have HV := Lib.hid ((HE.out.2 (fun e => h7 (HZ7.out.2 e))).trans R1.out)
        rw [HV.out] at T6
        clear h7
        go_wp2_with fail
        go_ret
        exact ⟨A6, k6, c6, rfl, T6.out, hc6, hk6, L6.out⟩
    · have hb0 : ((k3 : Int) == 0) = false := beq_eq_false_iff_ne.2 (by omega)
      obtain ⟨hi, hhi⟩ : ∃ hi, gk / Q = hi := ⟨_, rfl⟩
      obtain ⟨lo, hlo⟩ : ∃ lo, gk % Q = lo := ⟨_, rfl⟩
      have HNE := Lib.hid (show gk / Q ≠ 0 from fun e => h0 (HZ3.out.2 e))
      have HLT := Lib.hid (mod_less gk HNE.out)
      have HFO := Lib.hid ((mod_fold gk).trans R1.out)
      have HLEN := Lib.hid (show n1 ≤ 1000 → ∀ K, (∀ K', gk / Q * 5 < 2 ^ (8 * K') → K ≤ K') → K ≤ max (n1 - 15) 1 from fun _ K h => by
        obtain ⟨f, _, hf, hv⟩ := T1.out
        have hv2 := le_lt hf 0 n1
        rw [hv] at hv2
        rcases Nat.lt_or_ge n1 16 with hn | hn
        · exfalso
          refine HNE.out (Nat.div_eq_of_lt (Nat.lt_of_lt_of_le hv2 ?_))
          have : 2 ^ (8 * n1) ≤ 2 ^ 128 := Nat.pow_le_pow_right (by omega) (by omega)
          refine Nat.le_trans this ?_
          decide +kernel
        · have := h _ (hi_len gk n1 (by omega) hv2)
          omega)
      have hk3b : k3 ≤ 1000 := by
        obtain ⟨f, _, hf, hv⟩ := T1.out
        have hv2 := le_lt hf 0 n1
        rw [hv] at hv2
        have := HK3.out n1 (Nat.lt_of_le_of_lt (Nat.div_le_self _ _) hv2)
        omega
      rw [hhi] at T3 HLT HFO HLEN
      rw [hlo] at T2 HLT HFO
      clear h0 hhi hlo HZ3 HK3 HNE
      obtain ⟨f2, r2, hf2, hv2⟩ := T2.out
      obtain ⟨f3, r3, hf3, hv3⟩ := T3.out
      have R2 := Lib.hid r2
      have R3 := Lib.hid r3
      have HF2 := Lib.hid hf2
      have HF3 := Lib.hid hf3
      have HV2 := Lib.hid hv2
      have HV3 := Lib.hid hv3
      clear r2 r3 hf2 hf3 hv2 hv3
      go_wp2_with fail
      refine (times_any A3 k3 c3 f3 (some ⟨w2.heap.size, 0, none⟩) 1 1 (fun _ => 5) HF3.out (fun _ => by omega) (by omega) (by omega) _ (R3.out.below (below_alloc (Below.refl _ _) _) (Nat.le_refl _)) (five_tells w2)).mono ?_
      rintro e w5 ⟨A5, k5, c5, rfl, r5, _, hv5, htop5, hc5, _, hb5⟩
      have HM5 := Lib.hid (show le f3 0 k3 * le (fun _ => 5) 0 1 = hi * 5 by rw [HV3.out]; rfl)
      rw [HM5.out] at r5 hv5 htop5
      have HK5 := Lib.hid (HLEN.out hn1 k5 (fun K' h => le_top _ k5 htop5 K' (by rw [hv5]; exact h)))
      have hk5 := HK5.out
      have R5 := Lib.hid r5
      have HV5 := Lib.hid hv5
      have L5 := Lib.hid (below_trans L2.out (below_new (Below.refl _ _) hb5))
      have RR2 := Lib.hid (R2.out.below (below_new (Below.refl _ _) hb5) (Nat.le_refl _))
      clear r5 hv5 htop5 hb5 HLEN HM5
      go_wp2_with fail
      refine (add_any A2 k2 c2 f2 A5 k5 c5 (byt (hi * 5)) HF2.out (byt_lt _) (by omega) (by omega) _ RR2.out R5.out).mono ?_
      rintro e w6 ⟨A6, k6, c6, rfl, o6, hS6, hk6, hb6⟩
      rw [HV2.out, HV5.out] at o6 hS6
      have T6 := Lib.hid (show Tells w6 A6 k6 (lo + hi * 5) from ⟨_, o6.rd, byt_lt _, le_byt _ _ hS6⟩)
      have hcap6 := own_cap o6
      have L6 := Lib.hid (below_trans L1.out (below_trans L5.out hb6))
      clear o6 hS6 hb6
      go_wp2_with fail
      go_roundg (lo + hi * 5)
      case measure => exact HLT.out
      case rel => exact ⟨A6, k6, c6, rfl, T6.out, hcap6, by omega, HFO.out, L6.out⟩

end Ref
end Go.Proofs.Ytdffbjlbhjppeaa
