/- The call Equal of package words at any bytes: true just where they are the same. -/
import Derived.Test.YtdffbjlbhjppeaaWordsHex
namespace Go.Proofs.Ytdffbjlbhjppeaa
namespace Words
open Go.ChangeShapes Go.WideShapes Go.ChangeAt Go.RowKit
open Num Mem

theorem or_xor (u x y : Nat) (hu : u < 256) (hx : x < 256) (hy : y < 256) : bits .or .u8 (u : Int) (bits .xor .u8 (x : Int) (y : Int)) = ((u ||| (x ^^^ y) : Nat) : Int) := by
  have hxy : x ^^^ y < 2 ^ 8 := Nat.xor_lt_two_pow hx hy
  rw [u8_xor_nat _ _ hx hy, u8_or_nat _ _ hu hxy]

theorem or_zero (u x y : Nat) : u ||| (x ^^^ y) = 0 ↔ u = 0 ∧ x = y := by
  constructor
  · intro h
    have hb : ∀ i, u.testBit i = false ∧ (x ^^^ y).testBit i = false := by
      intro i
      have := congrArg (fun n => n.testBit i) h
      simpa using this
    refine ⟨Nat.eq_of_testBit_eq fun i => by simpa using (hb i).1, Nat.eq_of_testBit_eq fun i => ?_⟩
    have := (hb i).2
    simpa using this
  · rintro ⟨rfl, rfl⟩
    simp

set_option maxRecDepth 100000 in
theorem equal_any (A A' : Option Addr) (n m c c' : Nat) (f g : Nat → Nat) (hf : ∀ i, f i < 256) (hg : ∀ i, g i < 256) (hn : n ≤ 1000000) (w : World) (ha : Rd w A n f) (hb : Rd w A' m g)
    (r : Bool) (hr : r = true ↔ n = m ∧ ∀ i, i < n → f i = g i) :
    Calls Try.prog 51 #[.slice A n c, .slice A' m c'] w fun e w' => e = .returned (.bool r) ∧ ∃ k, w' = w.drewN k := by
  have HR := Lib.hid hr
  have HA := Lib.hid ha
  have HB := Lib.hid hb
  clear hr ha hb
  by_cases hnm : n = m
  · subst hnm
    have hne : (((n : Nat) : Int) != ((n : Nat) : Int)) = false := by simp
    have hr2 : r = true ↔ ∀ i, i < n → f i = g i := by rw [HR.out]; simp
    have HR2 := Lib.hid hr2
    clear hr2 HR
    go_enter Try.func51, Try.ntmps51
    go_wp2
    go_loopw [5, 6, 14] (fun v _ i wr => ∃ k u : Nat, k ≤ n ∧ i = .int .i64 k ∧ v = .int .u8 (u : Nat) ∧ u < 256 ∧ (u = 0 ↔ ∀ j, j < k → f j = g j) ∧ ∃ q, wr = w.drewN q) (fun _ _ i _ => n - (intOf i).toNat)
    case atStart => exact ⟨0, 0, Nat.zero_le _, rfl, rfl, by omega, ⟨fun _ j hj => absurd hj (by omega), fun _ => rfl⟩, 0, rfl⟩
    case round =>
      obtain ⟨k, u, hk, rfl, rfl, hu, hiff, q, rfl⟩ := hrel
      have HI := Lib.hid hiff
      clear hiff
      by_cases hlt : k < n
      · rcases HA.out with h0 | ⟨b, off, rfl, hbl, hc⟩
        · omega
        rcases HB.out with h0 | ⟨b', off', rfl, hbl', hc'⟩
        · omega
        have c1 := hc k hlt
        have c2 := hc' k hlt
        have hfk := hf k
        have hgk := hg k
        have HO := Lib.hid (or_xor u (f k) (g k) hu hfk hgk)
        have hltI : (k : Int) < (n : Int) := by omega
        have hkI : (0 : Int) ≤ (k : Int) := by omega
        have HF := Lib.hid hf
        have HG := Lib.hid hg
        clear hc hc' hf hg
        go_wp2_with fail
        go_quiet (fail)
        go_wp2_with fail
        go_roundw
        case rel =>
          have hlt8 : f k ^^^ g k < 2 ^ 8 := Nat.xor_lt_two_pow hfk hgk
          refine ⟨k + 1, u ||| (f k ^^^ g k), by omega, by go_num, by rw [HO.out], Nat.or_lt_two_pow (n := 8) hu hlt8, ?_, _, rfl⟩
          rw [or_zero, HI.out]
          constructor
          · rintro ⟨h1, h2⟩ j hj
            by_cases e : j = k
            · rw [e]; exact h2
            · exact h1 j (by omega)
          · intro h
            exact ⟨fun j hj => h j (by omega), h k (by omega)⟩
        case measure => simp [intOf]; omega
      · obtain rfl : k = n := by omega
        have hres : (((u : Nat) : Int) == 0) = r := by
          have h1 := HI.out
          have h2 := HR2.out
          cases r
          · have : u ≠ 0 := fun e => by
              have := h2.2 (h1.1 e)
              cases this
            simpa using this
          · have := h1.2 (h2.1 rfl)
            simpa using this
        have HRES := Lib.hid hres
        clear hres
        go_wp2
        go_ret
        exact ⟨by rw [← HRES.out]; rfl, by first | trivial | exact ⟨_, rfl⟩⟩
  · have hne : (((n : Nat) : Int) != ((m : Nat) : Int)) = true := by simp; omega
    have hrf : r = false := by
      cases r
      · rfl
      · exact absurd (HR.out.1 rfl).1 hnm
    subst hrf
    clear hnm HR
    go_enter Try.func51, Try.ntmps51
    go_wp2
    go_ret
    exact ⟨rfl, 0, rfl⟩

end Words
end Go.Proofs.Ytdffbjlbhjppeaa
