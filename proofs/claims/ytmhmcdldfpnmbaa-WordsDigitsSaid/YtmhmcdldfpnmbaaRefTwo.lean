/- The document's own answers of layer 1 (package aditref01), more: PutBig, Load, Big. -/
import Derived.Test.YtmhmcdldfpnmbaaRefOne
namespace Go.Proofs.Ytmhmcdldfpnmbaa
namespace Ref
open Go.ChangeShapes Go.WideShapes Go.ChangeAt Go.RowKit
open Num Mem Words

theorem putBig_ref_arg (v : Int) (s : Int) (h : s < 1 ∨ 8 < s) (w : World) :
    Calls Try.prog 23 #[.int .u64 v, .int .i64 s] w fun e w' => e = .returned (.tuple #[.slice none 0 0, .int .i64 1]) ∧ w = w' := by
  rcases h with h | h
  · go_enter Try.func23, Try.ntmps23
    go_wp2
    go_ret2
    exact ⟨rfl, rfl⟩
  · have h1 : ¬ s < 1 := by omega
    have hd : decide (s < 1) = false := decide_eq_false h1
    go_enter Try.func23, Try.ntmps23
    go_wp2
    go_ret2
    exact ⟨rfl, rfl⟩

theorem le_byteAt_mod (v k : Nat) : le (byteAt v) 0 k = v % 2 ^ (8 * k) := le_digits v k

theorem putBig_ref_long (v s : Nat) (h0 : 1 ≤ s) (h1 : s ≤ 8) (hv : v < 18446744073709551616) (h : v / 2 ^ (8 * s) ≠ 0) (w : World) :
    Calls Try.prog 23 #[.int .u64 v, .int .i64 s] w fun e w' => e = .returned (.tuple #[.slice none 0 0, .int .i64 2]) ∧ Below w.heap.size w w' := by
  have hne : le (byteAt v) 0 s ≠ v := by
    rw [le_byteAt_mod]
    intro he
    exact h (Nat.div_eq_of_lt (by rw [← he]; exact Nat.mod_lt _ (Nat.two_pow_pos _)))
  have hb : ((le (byteAt v) 0 s : Int) != (v : Int)) = true := by
    simp only [bne_iff_ne, ne_eq]
    omega
  have hd1 : decide ((s : Int) < 1) = false := decide_eq_false (by omega)
  have hd2 : decide ((8 : Int) < (s : Int)) = false := decide_eq_false (by omega)
  clear h hne
  go_enter Try.func23, Try.ntmps23
  go_wp2_with fail
  refine (bytes_any v s h1 hv _).mono ?_
  rintro e w1 ⟨A, c, rfl, ho, hbel⟩
  have HO := Lib.hid ho
  have HL := Lib.hid hbel
  clear ho hbel
  go_wp2_with fail
  refine (least_any A s c (byteAt v) (byteAt_lt v) h1 _ HO.out.rd).mono ?_
  rintro e w2 ⟨rfl, rfl⟩
  go_wp2_with fail
  go_ret2
  exact ⟨rfl, HL.out⟩

theorem putBig_ref_ok (v s : Nat) (h0 : 1 ≤ s) (h1 : s ≤ 8) (hv : v < 18446744073709551616) (h : v < 2 ^ (8 * s)) (w : World) :
    Calls Try.prog 23 #[.int .u64 v, .int .i64 s] w fun e w' => ∃ A c, e = .returned (.tuple #[.slice A s c, .int .i64 0]) ∧ Rd w' A s (fun i => byteAt v (s - 1 - i)) ∧ Below w.heap.size w w' := by
  have HE := Lib.hid (le_byteAt v s h)
  have hd1 : decide ((s : Int) < 1) = false := decide_eq_false (by omega)
  have hd2 : decide ((8 : Int) < (s : Int)) = false := decide_eq_false (by omega)
  clear h
  go_enter Try.func23, Try.ntmps23
  go_wp2_with fail
  refine (bytes_any v s h1 hv _).mono ?_
  rintro e w1 ⟨A, c, rfl, ho, hbel⟩
  have HO := Lib.hid ho
  have HL := Lib.hid hbel
  clear ho hbel
  go_wp2_with fail
  refine (least_any A s c (byteAt v) (byteAt_lt v) h1 _ HO.out.rd).mono ?_
  rintro e w2 ⟨rfl, rfl⟩
  rw [HE.out]
  go_wp2_with fail
  refine (turned_any A s c (byteAt v) h1 _ HO.out.rd).mono ?_
  rintro e w2 ⟨A2, c2, rfl, ho2, hbel2⟩
  have HO2 := Lib.hid ho2
  have HL2 := Lib.hid hbel2
  clear ho2 hbel2
  go_wp2_with fail
  go_ret2
  exact ⟨A2, c2, rfl, HO2.out.rd, below_trans HL.out HL2.out⟩

theorem load_ref_no (A : Option Addr) (n c : Nat) (p : Int) (s : Nat) (h0 : 1 ≤ s) (h1 : s ≤ 8) (h : p < 0 ∨ (n : Int) - s < p) (w : World) :
    Calls Try.prog 16 #[.slice A n c, .int .i64 p, .int .i64 s] w fun e w' => e = .returned (.tuple #[.int .u64 0, .int .i64 (wrongI p)]) ∧ w = w' := by
  by_cases hp : p < 0
  · go_enter Try.func16, Try.ntmps16
    go_wp2
    go_ret2
    exact ⟨by rw [show wrongI p = 1 from if_pos hp]; rfl, rfl⟩
  · have hp' : 0 ≤ p := by omega
    have hq : (n : Int) - s < p := by omega
    have hd0 : decide (p < 0) = false := decide_eq_false hp
    clear hp h
    by_cases hf : (n : Int) < p
    · have hd : decide ((n : Int) < p) = true := decide_eq_true hf
      go_enter Try.func16, Try.ntmps16
      go_wp2
      go_ret2
      exact ⟨by rw [show wrongI p = 10 from if_neg (by omega)]; rfl, rfl⟩
    · have hd : decide ((n : Int) < p) = false := decide_eq_false hf
      have hd2 : decide ((n : Int) - p < (s : Int)) = true := decide_eq_true (by omega)
      go_enter Try.func16, Try.ntmps16
      go_wp2
      go_ret2
      exact ⟨by rw [show wrongI p = 10 from if_neg (by omega)]; rfl, rfl⟩

theorem load_ref_ok (b off n c : Nat) (f : Nat → Nat) (hf : ∀ i, f i < 256) (p s : Nat) (h0 : 1 ≤ s) (h1 : s ≤ 8) (h : p + s ≤ n) (hc : n ≤ c) (hcm : c ≤ 9223372036854775807) (w : World)
    (hcell : ∀ i, i < n → w.cell? ⟨b, off + i, none⟩ = some (.int .u8 (f i))) (hblk : b < w.heap.size) :
    Calls Try.prog 16 #[.slice (some ⟨b, off, none⟩) n c, .int .i64 p, .int .i64 s] w fun e w' => e = .returned (.tuple #[.int .u64 (le f p s), .int .i64 0]) ∧ w = w' := by
  have hd0 : decide ((p : Int) < 0) = false := decide_eq_false (by omega)
  have hd : decide ((n : Int) < (p : Int)) = false := decide_eq_false (by omega)
  have hd2 : decide ((n : Int) - (p : Int) < (s : Int)) = false := decide_eq_false (by omega)
  have HC := Lib.hid hcell
  clear hcell
  go_enter Try.func16, Try.ntmps16
  go_wp2_with fail
  refine (least_any _ s (c - p) (fun i => f (p + i)) (fun i => hf _) h1 _ (.inr ⟨b, off + p, rfl, hblk, fun i hi => by rw [Nat.add_assoc]; exact HC.out (p + i) (by omega)⟩)).mono ?_
  rintro e w1 ⟨rfl, rfl⟩
  rw [show le (fun i => f (p + i)) 0 s = le f p s from le_congr s fun i _ => by show f _ = f _; rw [Nat.zero_add]]
  go_wp2_with fail
  go_ret2
  exact ⟨rfl, rfl⟩

theorem big_ref_arg (A : Option Addr) (n c : Nat) (p s : Int) (h : s < 1 ∨ 8 < s) (w : World) :
    Calls Try.prog 19 #[.slice A n c, .int .i64 p, .int .i64 s] w fun e w' => e = .returned (.tuple #[.int .u64 0, .int .i64 1]) ∧ w = w' := by
  by_cases hp : p < 0
  · have hd : decide (p < 0) = true := decide_eq_true hp
    go_enter Try.func19, Try.ntmps19
    go_wp2
    go_ret2
    exact ⟨rfl, rfl⟩
  · have hd : decide (p < 0) = false := decide_eq_false hp
    by_cases hs : s < 1
    · have hd2 : decide (s < 1) = true := decide_eq_true hs
      go_enter Try.func19, Try.ntmps19
      go_wp2
      go_ret2
      exact ⟨rfl, rfl⟩
    · have hd2 : decide (s < 1) = false := decide_eq_false hs
      have hd3 : decide (8 < s) = true := decide_eq_true (by omega)
      go_enter Try.func19, Try.ntmps19
      go_wp2
      go_ret2
      exact ⟨rfl, rfl⟩

theorem big_ref_no (A : Option Addr) (n c : Nat) (p : Int) (s : Nat) (h0 : 1 ≤ s) (h1 : s ≤ 8) (h : p < 0 ∨ (n : Int) - s < p) (w : World) :
    Calls Try.prog 19 #[.slice A n c, .int .i64 p, .int .i64 s] w fun e w' => e = .returned (.tuple #[.int .u64 0, .int .i64 (wrongI p)]) ∧ w = w' := by
  have e1 : decide ((s : Int) < 1) = false := decide_eq_false (by omega)
  have e2 : decide ((8 : Int) < (s : Int)) = false := decide_eq_false (by omega)
  by_cases hp : p < 0
  · have hd0 : decide (p < 0) = true := decide_eq_true hp
    go_enter Try.func19, Try.ntmps19
    go_wp2
    go_ret2
    exact ⟨by rw [show wrongI p = 1 from if_pos hp]; rfl, rfl⟩
  · have hp' : 0 ≤ p := by omega
    have hq : (n : Int) - s < p := by omega
    have hd0 : decide (p < 0) = false := decide_eq_false hp
    clear hp h
    by_cases hf : (n : Int) < p
    · have hd : decide ((n : Int) < p) = true := decide_eq_true hf
      go_enter Try.func19, Try.ntmps19
      go_wp2
      go_ret2
      exact ⟨by rw [show wrongI p = 10 from if_neg (by omega)]; rfl, rfl⟩
    · have hd : decide ((n : Int) < p) = false := decide_eq_false hf
      have hd2 : decide ((n : Int) - p < (s : Int)) = true := decide_eq_true (by omega)
      go_enter Try.func19, Try.ntmps19
      go_wp2
      go_ret2
      exact ⟨by rw [show wrongI p = 10 from if_neg (by omega)]; rfl, rfl⟩

theorem big_ref_ok (b off n c : Nat) (f : Nat → Nat) (hf : ∀ i, f i < 256) (p s : Nat) (h0 : 1 ≤ s) (h1 : s ≤ 8) (h : p + s ≤ n) (hc : n ≤ c) (hcm : c ≤ 9223372036854775807) (w : World)
    (hcell : ∀ i, i < n → w.cell? ⟨b, off + i, none⟩ = some (.int .u8 (f i))) (hblk : b < w.heap.size) :
    Calls Try.prog 19 #[.slice (some ⟨b, off, none⟩) n c, .int .i64 p, .int .i64 s] w fun e w' => e = .returned (.tuple #[.int .u64 (be f p s), .int .i64 0]) ∧ Below w.heap.size w w' := by
  have e1 : decide ((s : Int) < 1) = false := decide_eq_false (by omega)
  have e2 : decide ((8 : Int) < (s : Int)) = false := decide_eq_false (by omega)
  have hd0 : decide ((p : Int) < 0) = false := decide_eq_false (by omega)
  have hd : decide ((n : Int) < (p : Int)) = false := decide_eq_false (by omega)
  have hd2 : decide ((n : Int) - (p : Int) < (s : Int)) = false := decide_eq_false (by omega)
  have HC := Lib.hid hcell
  clear hcell
  go_enter Try.func19, Try.ntmps19
  go_wp2_with fail
  refine (turned_any _ s (c - p) (fun i => f (p + i)) h1 _ (.inr ⟨b, off + p, rfl, hblk, fun i hi => by rw [Nat.add_assoc]; exact HC.out (p + i) (by omega)⟩)).mono ?_
  rintro e w1 ⟨A2, c2, rfl, ho, hbel⟩
  have HO := Lib.hid ho
  have HL := Lib.hid hbel
  clear ho hbel
  go_wp2_with fail
  refine (least_any _ s c2 _ (fun i => hf _) h1 _ HO.out.rd).mono ?_
  rintro e w2 ⟨rfl, rfl⟩
  rw [show le (fun i => f (p + (s - 1 - i))) 0 s = be f p s from (be_le f p s).symm]
  go_wp2_with fail
  go_ret2
  exact ⟨rfl, HL.out⟩

end Ref
end Go.Proofs.Ytmhmcdldfpnmbaa
