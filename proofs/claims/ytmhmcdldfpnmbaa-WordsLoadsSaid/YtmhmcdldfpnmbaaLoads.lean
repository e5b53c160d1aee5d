/- 'aditlaw01.WordsLoads' returns true at every input and writes nothing that was there: the walk. No condition. -/
import Derived.Test.YtmhmcdldfpnmbaaAliveOne
import Derived.Test.YtmhmcdldfpnmbaaRefTwo
namespace Go.Proofs.Ytmhmcdldfpnmbaa
namespace WordsLoads
open Go.ChangeShapes Go.WideShapes Go.ChangeAt Go.RowKit
open Num Mem Words Ref

/-- what a call answers of a number that is read: the number, or what is wrong -/
def numI (good : Prop) [Decidable good] (x : Nat) : Int := if good then x else 0
def errI (good : Prop) [Decidable good] (p : Int) : Int := if good then 0 else wrongI p

/-- size bytes from p on lie within n -/
def fitsI (n : Nat) (p : Int) (size : Nat) : Bool := decide (0 ≤ p ∧ p ≤ n - size)

theorem load32_all (A : Option Addr) (n c : Nat) (f : Nat → Nat) (hf : ∀ i, f i < 256) (p : Int) (hn : n ≤ 9223372036854775807) (w : World) (hr : Rd w A n f) :
    Calls Try.prog 15 #[.slice A n c, .int .i64 p] w fun e w' => e = .returned (.tuple #[.int .u32 (numI (fitsI n p 4 = true) (le f p.toNat 4)), .int .i64 (errI (fitsI n p 4 = true) p)]) ∧ w = w' := by
  by_cases h : fitsI n p 4 = true
  · rw [numI, errI, if_pos h, if_pos h]
    simp only [fitsI, decide_eq_true_eq] at h
    obtain ⟨q, rfl⟩ : ∃ q : Nat, p = (q : Int) := ⟨p.toNat, by omega⟩
    rcases hr with h0 | ⟨b, off, rfl, hb, hc⟩
    · omega
    · exact load32_ok b off n c f hf q (by omega) hn w hc
  · rw [numI, errI, if_neg h, if_neg h]
    simp only [fitsI, decide_eq_true_eq] at h
    exact load32_no A n c p hn (by omega) w

theorem load64_all (A : Option Addr) (n c : Nat) (f : Nat → Nat) (hf : ∀ i, f i < 256) (p : Int) (hn : n ≤ 9223372036854775807) (w : World) (hr : Rd w A n f) :
    Calls Try.prog 17 #[.slice A n c, .int .i64 p] w fun e w' => e = .returned (.tuple #[.int .u64 (numI (fitsI n p 8 = true) (le f p.toNat 8)), .int .i64 (errI (fitsI n p 8 = true) p)]) ∧ w = w' := by
  by_cases h : fitsI n p 8 = true
  · rw [numI, errI, if_pos h, if_pos h]
    simp only [fitsI, decide_eq_true_eq] at h
    obtain ⟨q, rfl⟩ : ∃ q : Nat, p = (q : Int) := ⟨p.toNat, by omega⟩
    rcases hr with h0 | ⟨b, off, rfl, hb, hc⟩
    · omega
    · exact load64_ok b off n c f hf q (by omega) hn w hc
  · rw [numI, errI, if_neg h, if_neg h]
    simp only [fitsI, decide_eq_true_eq] at h
    exact load64_no A n c p hn (by omega) w

theorem load_ref_all (A : Option Addr) (n c : Nat) (f : Nat → Nat) (hf : ∀ i, f i < 256) (p : Int) (s : Nat) (h0 : 1 ≤ s) (h1 : s ≤ 8) (hc : n ≤ c) (hcm : c ≤ 9223372036854775807) (w : World) (hr : Rd w A n f) :
    Calls Try.prog 16 #[.slice A n c, .int .i64 p, .int .i64 s] w fun e w' => e = .returned (.tuple #[.int .u64 (numI (fitsI n p s = true) (le f p.toNat s)), .int .i64 (errI (fitsI n p s = true) p)]) ∧ w = w' := by
  by_cases h : fitsI n p s = true
  · rw [numI, errI, if_pos h, if_pos h]
    simp only [fitsI, decide_eq_true_eq] at h
    obtain ⟨q, rfl⟩ : ∃ q : Nat, p = (q : Int) := ⟨p.toNat, by omega⟩
    rcases hr with h0 | ⟨b, off, rfl, hb, hcell⟩
    · omega
    · exact load_ref_ok b off n c f hf q s h0 h1 (by omega) hc hcm w hcell hb
  · rw [numI, errI, if_neg h, if_neg h]
    simp only [fitsI, decide_eq_true_eq] at h
    exact load_ref_no A n c p s h0 h1 (by omega) w

/-- Big, and the document's answer, alike at every size -/
def bigOK (n : Nat) (p s : Int) : Bool := decide (1 ≤ s ∧ s ≤ 8 ∧ 0 ≤ p ∧ p ≤ n - s)
def bigN (n : Nat) (p s : Int) (f : Nat → Nat) : Int := if bigOK n p s = true then be f p.toNat s.toNat else 0
def bigE (n : Nat) (p s : Int) : Int := if s < 1 ∨ 8 < s then 1 else if bigOK n p s = true then 0 else wrongI p

theorem big_all (A : Option Addr) (n c : Nat) (f : Nat → Nat) (hf : ∀ i, f i < 256) (p s : Int) (hn : n ≤ 9223372036854775807) (w : World) (hr : Rd w A n f) :
    Calls Try.prog 18 #[.slice A n c, .int .i64 p, .int .i64 s] w fun e w' => e = .returned (.tuple #[.int .u64 (bigN n p s f), .int .i64 (bigE n p s)]) ∧ w = w' := by
  by_cases hs : s < 1 ∨ 8 < s
  · have hno : ¬ bigOK n p s = true := by simp only [bigOK, decide_eq_true_eq]; omega
    rw [bigN, bigE, if_pos hs, if_neg hno]
    exact big_arg A n c p s hs w
  · obtain ⟨k, rfl⟩ : ∃ k : Nat, s = (k : Int) := ⟨s.toNat, by omega⟩
    by_cases h : bigOK n p k = true
    · rw [bigN, bigE, if_neg hs, if_pos h, if_pos h]
      simp only [bigOK, decide_eq_true_eq] at h
      obtain ⟨q, rfl⟩ : ∃ q : Nat, p = (q : Int) := ⟨p.toNat, by omega⟩
      rcases hr with h0 | ⟨b, off, rfl, hb, hcell⟩
      · omega
      · exact big_ok b off n c f hf q k (by omega) (by omega) (by omega) hn w hcell
    · rw [bigN, bigE, if_neg hs, if_neg h, if_neg h]
      simp only [bigOK, decide_eq_true_eq] at h
      exact big_no A n c p k (by omega) (by omega) hn (by omega) w

theorem big_ref_all (A : Option Addr) (n c : Nat) (f : Nat → Nat) (hf : ∀ i, f i < 256) (p s : Int) (hc : n ≤ c) (hcm : c ≤ 9223372036854775807) (w : World) (hr : Rd w A n f) :
    Calls Try.prog 19 #[.slice A n c, .int .i64 p, .int .i64 s] w fun e w' => e = .returned (.tuple #[.int .u64 (bigN n p s f), .int .i64 (bigE n p s)]) ∧ Below w.heap.size w w' := by
  by_cases hs : s < 1 ∨ 8 < s
  · have hno : ¬ bigOK n p s = true := by simp only [bigOK, decide_eq_true_eq]; omega
    rw [bigN, bigE, if_pos hs, if_neg hno]
    exact (big_ref_arg A n c p s hs w).mono fun e w' ⟨h1, h2⟩ => ⟨h1, h2 ▸ Below.refl _ _⟩
  · obtain ⟨k, rfl⟩ : ∃ k : Nat, s = (k : Int) := ⟨s.toNat, by omega⟩
    by_cases h : bigOK n p k = true
    · rw [bigN, bigE, if_neg hs, if_pos h, if_pos h]
      simp only [bigOK, decide_eq_true_eq] at h
      obtain ⟨q, rfl⟩ : ∃ q : Nat, p = (q : Int) := ⟨p.toNat, by omega⟩
      rcases hr with h0 | ⟨b, off, rfl, hb, hcell⟩
      · omega
      · exact big_ref_ok b off n c f hf q k (by omega) (by omega) (by omega) hc hcm w hcell hb
    · rw [bigN, bigE, if_neg hs, if_neg h, if_neg h]
      simp only [bigOK, decide_eq_true_eq] at h
      exact (big_ref_no A n c p k (by omega) (by omega) (by omega) w).mono fun e w' ⟨h1, h2⟩ => ⟨h1, h2 ▸ Below.refl _ _⟩

theorem run (A : Option Addr) (n c : Nat) (f : Nat → Nat) (hf : ∀ i, f i < 256) (p s : Int) (hc : n ≤ c) (hcm : c ≤ 9223372036854775807) (w : World) (hr : Rd w A n f) :
    Calls Try.prog 3 #[.slice A n c, .int .i64 p, .int .i64 s] w fun e w' => e = .returned (.bool true) ∧ Below w.heap.size w w' := by
  have HR := Lib.hid hr
  have HF := Lib.hid hf
  clear hr hf
  by_cases hbig : 2000 < n
  · have hd : decide ((2000 : Int) < (n : Int)) = true := decide_eq_true (by omega)
    go_enter Try.func3, Try.ntmps3
    go_wp2_with fail
    refine (alive_any _).mono ?_
    rintro e w1 ⟨rfl, hb1⟩
    have HB1 := Lib.hid hb1
    clear hb1
    go_wp2_with fail
    go_ret
    exact ⟨rfl, HB1.out⟩
  · have hd : decide ((2000 : Int) < (n : Int)) = false := decide_eq_false (by omega)
    have hn : n ≤ 9223372036854775807 := by omega
    have hl4 : le f p.toNat 4 < 4294967296 := le_lt HF.out p.toNat 4
    have hq0 : 0 ≤ numI (fitsI n p 4 = true) (le f p.toNat 4) := by unfold numI; split <;> omega
    have hq1 : numI (fitsI n p 4 = true) (le f p.toNat 4) < 4294967296 := by unfold numI; split <;> omega
    clear hl4
    go_enter Try.func3, Try.ntmps3
    go_wp2_with fail
    refine (load32_all A n c f HF.out p hn _ HR.out).mono ?_
    rintro e w1 ⟨rfl, rfl⟩
    go_wp2_with fail
    refine (load_ref_all A n c f HF.out p 4 (by omega) (by omega) hc hcm _ HR.out).mono ?_
    rintro e w1 ⟨rfl, rfl⟩
    go_wp2_with fail
    refine (load64_all A n c f HF.out p hn _ HR.out).mono ?_
    rintro e w1 ⟨rfl, rfl⟩
    go_wp2_with fail
    refine (load_ref_all A n c f HF.out p 8 (by omega) (by omega) hc hcm _ HR.out).mono ?_
    rintro e w1 ⟨rfl, rfl⟩
    go_wp2_with fail
    refine (big_all A n c f HF.out p s hn _ HR.out).mono ?_
    rintro e w1 ⟨rfl, rfl⟩
    go_wp2_with fail
    refine (big_ref_all A n c f HF.out p s hc hcm _ HR.out).mono ?_
    rintro e w2 ⟨rfl, hb2⟩
    have HB2 := Lib.hid hb2
    clear hb2
    go_wp2_with fail
    refine (alive_any _).mono ?_
    rintro e w3 ⟨rfl, hb3⟩
    have HB3 := Lib.hid hb3
    clear hb3
    go_wp2_with fail
    go_ret
    exact ⟨rfl, below_trans HB2.out HB3.out⟩

theorem walk (a0 : Option Addr) (len0 cap0 : Nat) (z0 : List Int) (a1 a2 : Int) (w : World) (w0 : IsRow .u8 w a0 len0 cap0 z0) (_ : (Lit.int .i64 a1).wf = true) (_ : (Lit.int .i64 a2).wf = true) :
    Calls Try.prog 3 #[.slice a0 len0 cap0, .int .i64 a1, .int .i64 a2] w fun e w' => e = .returned (.bool true) ∧ Below w.heap.size w w' := by
  obtain ⟨f, hf, hr, hc, hm⟩ := rd_of_row w0
  exact run a0 len0 cap0 f hf a1 a2 hc hm w hr

end WordsLoads
end Go.Proofs.Ytmhmcdldfpnmbaa
