/- Unhex of package words at any text in one form: how many bytes, which, and what is wrong and where. -/
import Derived.Test.YtmhmcdldfpnmbaaUnhex
namespace Go.Proofs.Ytmhmcdldfpnmbaa
namespace Words
open Go.ChangeShapes Go.WideShapes Go.ChangeAt Go.RowKit
open Num Mem

/-- the first place from p on, of n, at which no digit stands; p + n, if there is none -/
def fb (ch : Nat → Nat) : Nat → Nat → Nat
  | 0, p => p
  | n + 1, p => if isDig (ch p) = true then fb ch n (p + 1) else p

theorem fb_le (ch : Nat → Nat) (n p : Nat) : fb ch n p ≤ p + n := by
  induction n generalizing p with
  | zero => exact Nat.le_refl _
  | succ n ih =>
    unfold fb
    split
    · have := ih (p + 1); omega
    · omega
theorem fb_ge (ch : Nat → Nat) (n p : Nat) : p ≤ fb ch n p := by
  induction n generalizing p with
  | zero => exact Nat.le_refl _
  | succ n ih =>
    unfold fb
    split
    · have := ih (p + 1); omega
    · omega
theorem fb_dig (ch : Nat → Nat) (n p i : Nat) (h0 : p ≤ i) (h : i < fb ch n p) : isDig (ch i) = true := by
  induction n generalizing p with
  | zero => unfold fb at h; omega
  | succ n ih =>
    unfold fb at h
    split at h
    · rename_i hp
      by_cases e : i = p
      · rw [e]; exact hp
      · exact ih (p + 1) (by omega) h
    · omega
theorem fb_no (ch : Nat → Nat) (n p : Nat) (h : fb ch n p < p + n) : isDig (ch (fb ch n p)) = false := by
  induction n generalizing p with
  | zero => unfold fb at h; omega
  | succ n ih =>
    unfold fb at h ⊢
    split
    · rename_i hp
      rw [if_pos hp] at h
      exact ih (p + 1) (by omega)
    · rename_i hp
      simpa using hp

/-- the text is one of digits, two a byte, and not too long -/
def uhOK (s : ByteArray) : Bool := decide (s.size ≤ 131072 ∧ fb (chr s) s.size 0 = s.size ∧ s.size % 2 = 0)
def uhN (s : ByteArray) : Nat := if uhOK s = true then s.size / 2 else 0
def uhAt (s : ByteArray) : Int := if 131072 < s.size then 0 else if fb (chr s) s.size 0 < s.size then fb (chr s) s.size 0 else if s.size % 2 = 1 then s.size else 0
def uhC (s : ByteArray) : Int := if 131072 < s.size then 2 else if fb (chr s) s.size 0 < s.size then 11 else if s.size % 2 = 1 then 10 else 0

theorem uh_cases (s : ByteArray) :
    (131072 < s.size ∧ uhN s = 0 ∧ uhAt s = 0 ∧ uhC s = 2) ∨
    (s.size ≤ 131072 ∧ ∃ m, m < s.size ∧ (∀ i, i < m → isDig (chr s i) = true) ∧ isDig (chr s m) = false ∧ uhN s = 0 ∧ uhAt s = m ∧ uhC s = 11) ∨
    (s.size ≤ 131072 ∧ s.size % 2 = 1 ∧ (∀ i, i < s.size → isDig (chr s i) = true) ∧ uhN s = 0 ∧ uhAt s = s.size ∧ uhC s = 10) ∨
    (s.size ≤ 131072 ∧ s.size % 2 = 0 ∧ (∀ i, i < s.size → isDig (chr s i) = true) ∧ uhN s = s.size / 2 ∧ uhAt s = 0 ∧ uhC s = 0) := by
  have hle := fb_le (chr s) s.size 0
  rw [Nat.zero_add] at hle
  by_cases h1 : 131072 < s.size
  · left
    refine ⟨h1, ?_, if_pos h1, if_pos h1⟩
    unfold uhN uhOK
    rw [if_neg]
    simp
    omega
  · right
    by_cases h2 : fb (chr s) s.size 0 < s.size
    · left
      refine ⟨by omega, fb (chr s) s.size 0, h2, fun i hi => fb_dig _ _ 0 i (Nat.zero_le _) hi, fb_no _ _ 0 (by omega), ?_, ?_, ?_⟩
      · unfold uhN uhOK
        rw [if_neg]
        simp
        omega
      · unfold uhAt; rw [if_neg h1, if_pos h2]
      · unfold uhC; rw [if_neg h1, if_pos h2]
    · right
      have he : fb (chr s) s.size 0 = s.size := by omega
      have hd : ∀ i, i < s.size → isDig (chr s i) = true := fun i hi => fb_dig _ s.size 0 i (Nat.zero_le _) (by omega)
      by_cases h3 : s.size % 2 = 1
      · left
        refine ⟨by omega, h3, hd, ?_, ?_, ?_⟩
        · unfold uhN uhOK
          rw [if_neg]
          simp
          omega
        · unfold uhAt; rw [if_neg h1, if_neg h2, if_pos h3]
        · unfold uhC; rw [if_neg h1, if_neg h2, if_pos h3]
      · right
        refine ⟨by omega, by omega, hd, ?_, ?_, ?_⟩
        · unfold uhN uhOK
          rw [if_pos]
          simp
          exact ⟨by omega, he, by omega⟩
        · unfold uhAt; rw [if_neg h1, if_neg h2, if_neg h3]
        · unfold uhC; rw [if_neg h1, if_neg h2, if_neg h3]

theorem unhex_all (s : ByteArray) (w : World) :
    Calls Try.prog 27 #[.string s] w fun e w' => ∃ A c, e = .returned (.tuple #[.slice A (uhN s) c, .agg #[.int .i64 (uhAt s), .int .i64 (uhC s)]]) ∧ Rd w' A (uhN s) (ux (chr s) s.size) ∧ Below w.heap.size w w' := by
  rcases uh_cases s with ⟨h, e1, e2, e3⟩ | ⟨hn, m, hm, hd, hno, e1, e2, e3⟩ | ⟨hn, h2, hd, e1, e2, e3⟩ | ⟨hn, h2, hd, e1, e2, e3⟩
  · rw [e1, e2, e3]
    exact (unhex_long s h w).mono fun e w' ⟨h1, h2⟩ => ⟨_, _, h1, .inl rfl, h2⟩
  · rw [e1, e2, e3]
    exact (unhex_bad s hn m hm hd hno w).mono fun e w' ⟨h1, h2⟩ => ⟨_, _, h1, .inl rfl, h2⟩
  · rw [e1, e2, e3]
    exact (unhex_odd s hn h2 hd w).mono fun e w' ⟨h1, h2⟩ => ⟨_, _, h1, .inl rfl, h2⟩
  · rw [e1, e2, e3]
    exact (unhex_ok s hn h2 hd w).mono fun e w' ⟨h1, h2, h3⟩ => ⟨_, _, h1, Rd.of_whole h2, h3⟩

theorem chr_strOf (g : Nat → Nat) (n i : Nat) (h : i < n) (hg : g i < 256) : chr (strOf g n) i = g i := by
  unfold chr Mem.strOf
  simp [List.getD, h]
  omega

theorem isDig_hx (d : Nat) (h : d < 16) : isDig (hx d) = true := by
  rw [isDig_iff]
  unfold hx
  split <;> omega
theorem dv_hx (d : Nat) (h : d < 16) : dv (hx d) = d := by
  unfold hx
  split
  · unfold dv; rw [if_pos (by omega)]; omega
  · unfold dv; rw [if_neg (by omega), if_pos (by omega)]; omega
/-- a digit's number, written as a digit again -/
theorem hx_dv (c : Nat) (h : isDig c = true) : hx (dv c) = c ∨ (65 ≤ c ∧ c ≤ 70 ∧ hx (dv c) = c + 32) := by
  rw [isDig_iff] at h
  rcases h with h | h | h
  · left; unfold dv; rw [if_pos h]; unfold hx; rw [if_pos (by omega)]; omega
  · left; unfold dv; rw [if_neg (by omega), if_pos h]; unfold hx; rw [if_neg (by omega)]; omega
  · right; refine ⟨h.1, h.2, ?_⟩; unfold dv; rw [if_neg (by omega), if_neg (by omega), if_pos h]; unfold hx; rw [if_neg (by omega)]; omega

/-- the digits of a row are read as the row -/
theorem ux_hex {f : Nat → Nat} (hf : ∀ i, f i < 256) (n : Nat) (i : Nat) (hi : i < n) : ux (chr (strOf (hexAt f) (2 * n))) (2 * n) i = f i := by
  have h := hf i
  unfold ux
  rw [if_pos (by omega), chr_strOf _ _ _ (by omega) (hexAt_lt hf _), chr_strOf _ _ _ (by omega) (hexAt_lt hf _), hexAt_even, hexAt_odd, dv_hx _ (by omega), dv_hx _ (by omega)]
  omega

/-- what is read, written again, digit by digit -/
theorem hex_ux (ch : Nat → Nat) (n i : Nat) (h2 : n % 2 = 0) (hi : i < n) : hexAt (ux ch n) i = hx (dv (ch i)) := by
  have h1 := dv_lt (ch i)
  by_cases hp : i % 2 = 0
  · obtain ⟨k, rfl⟩ : ∃ k, i = 2 * k := ⟨i / 2, by omega⟩
    have h3 := dv_lt (ch (2 * k + 1))
    rw [hexAt_even]
    unfold ux
    rw [if_pos (by omega)]
    congr 1
    omega
  · obtain ⟨k, rfl⟩ : ∃ k, i = 2 * k + 1 := ⟨i / 2, by omega⟩
    have h3 := dv_lt (ch (2 * k))
    rw [hexAt_odd]
    unfold ux
    rw [if_pos (by omega)]
    congr 1
    omega

end Words
end Go.Proofs.Ytmhmcdldfpnmbaa
