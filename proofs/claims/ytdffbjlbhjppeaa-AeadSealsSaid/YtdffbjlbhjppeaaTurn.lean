/- The steps of package chacha on a state in memory: turn, quarter, stir. -/
import Derived.Test.YtdffbjlbhjppeaaWords
import Derived.Test.YtdffbjlbhjppeaaState
import Derived.Deep.RegionWith
import Derived.BigRegion
import Derived.RegionTactic
namespace Go.Proofs.Ytdffbjlbhjppeaa
namespace Chacha
open Go.ChangeShapes Go.WideShapes Go.ChangeAt Go.RowKit
open Num Mem Words State

theorem grown_set (w : World) (g i : Nat) (v : Value) : w.grownBy (w.setCell ⟨g, i, none⟩ v) (some g) :=
  ⟨rfl, rfl, rfl, by simp [World.setCell], fun k _ hk => Below.heap_setCell w ⟨g, i, none⟩ v k (fun e => hk (by rw [e]))⟩

theorem grown_trans {a b c : World} {row : Option Nat} (h : a.grownBy b row) (k : b.grownBy c row) : a.grownBy c row :=
  ⟨k.os.trans h.os, k.tape.trans h.tape, k.output.trans h.output, Nat.le_trans h.size k.size, fun i hi hne => (k.block i (Nat.lt_of_lt_of_le hi h.size) hne).trans (h.block i hi hne)⟩
theorem grown_drewN (w : World) (g n : Nat) : w.grownBy (w.drewN n) (some g) := ⟨rfl, rfl, rfl, Nat.le_refl _, fun _ _ _ => rfl⟩

set_option maxRecDepth 100000 in
theorem turn_any (g to from_ by_ n : Nat) (s : List Nat) (hl : s.length = 16) (hf : Fits s) (h1 : to < 16) (h2 : from_ < 16) (h3 : by_ < 16) (hn : n ≤ 31) (w : World) (hw : Whole w g 104 (wcells s).toArray) :
    Calls Try.prog 79 #[.pointer (some ⟨g, 0, none⟩), .int .i64 to, .int .i64 from_, .int .i64 by_, .int .i64 n] w fun e w' => e = .returned (.tuple #[]) ∧ Whole w' g 104 (wcells (turn s to from_ by_ n)).toArray ∧ w.grownBy w' (some g) := by
  have c1 := hw.cell to
  have c2 := hw.cell from_
  have f1 := hw.free to
  rw [List.getElem?_toArray, wcells_get _ _ (by omega)] at c1 c2
  have b1 := hf to
  have b2 := hf from_
  have hz : ((s.getD to 0 : Nat) + (s.getD from_ 0 : Nat) : Int) % 4294967296 = (((s.getD to 0 + s.getD from_ 0) % 4294967296 : Nat) : Int) := by omega
  have hw1 := hw.put to (.int .u32 (((s.getD to 0 + s.getD from_ 0) % 4294967296 : Nat) : Int))
  have hg1 := grown_set w g to (.int .u32 (((s.getD to 0 + s.getD from_ 0) % 4294967296 : Nat) : Int))
  have hf1 : Fits (s.set to ((s.getD to 0 + s.getD from_ 0) % 4294967296)) := hf.set _ _ (Nat.mod_lt _ (by omega))
  have hl1 : (s.set to ((s.getD to 0 + s.getD from_ 0) % 4294967296)).length = 16 := by simp [hl]
  have ht : turn s to from_ by_ n = (s.set to ((s.getD to 0 + s.getD from_ 0) % 4294967296)).set by_ (rotl ((s.set to ((s.getD to 0 + s.getD from_ 0) % 4294967296)).getD by_ 0 ^^^ (s.set to ((s.getD to 0 + s.getD from_ 0) % 4294967296)).getD to 0) n) := rfl
  rw [ht]
  rw [wcells_set] at hw1
  generalize s.set to ((s.getD to 0 + s.getD from_ 0) % 4294967296) = t at hw1 hf1 hl1 ⊢
  have HZ := Lib.hid hz
  have HW1 := Lib.hid hw1
  have HG1 := Lib.hid hg1
  clear hz hw hl hf ht hw1 hg1
  generalize s.getD to 0 = x at c1 b1 HZ HW1 HG1
  generalize s.getD from_ 0 = y at c2 b2 HZ HW1 HG1
  have d1 := hf1 by_
  have d2 := hf1 to
  have k1 := wcells_get t by_ (by omega)
  have k2 := wcells_get t to (by omega)
  have HT := Lib.hid (wcells_set t by_ (rotl (t.getD by_ 0 ^^^ t.getD to 0) n))
  have hx32 : t.getD by_ 0 ^^^ t.getD to 0 < 2 ^ 32 := Nat.xor_lt_two_pow d1 d2
  have hxor := u32_xor_nat (t.getD by_ 0) (t.getD to 0) d1 d2
  clear hf1
  generalize t.getD by_ 0 = p at d1 k1 HT hx32 hxor ⊢
  generalize t.getD to 0 = q at d2 k2 HT hx32 hxor ⊢
  have K1 := Lib.hid k1
  have K2 := Lib.hid k2
  have HL1 := Lib.hid hl1
  clear k1 k2 hl1
  go_enter Try.func79, Try.ntmps79
  go_wp2
  go_region
  rw [HZ.out]
  have hw2 : Whole (w.setCell ⟨g, to, none⟩ (.int .u32 (((x + y) % 4294967296 : Nat) : Int))).drew g 104 (wcells t).toArray := HW1.out
  have hg2 : w.grownBy (w.setCell ⟨g, to, none⟩ (.int .u32 (((x + y) % 4294967296 : Nat) : Int))).drew (some g) := ⟨HG1.out.os, HG1.out.tape, HG1.out.output, HG1.out.size, HG1.out.block⟩
  generalize (w.setCell ⟨g, to, none⟩ (.int .u32 (((x + y) % 4294967296 : Nat) : Int))).drew = w2 at hw2 hg2 ⊢
  have e1 := hw2.cell by_
  have e2 := hw2.cell to
  have f2 := hw2.free by_
  rw [List.getElem?_toArray, K1.out] at e1
  rw [List.getElem?_toArray, K2.out] at e2
  have HW2 := Lib.hid hw2
  have HG2 := Lib.hid hg2
  clear hw2 hg2 c1 c2 f1
  go_wp2_with fail
  have i1 : (by_ : Int) < 16 := by omega
  have i2 : (to : Int) < 16 := by omega
  go_region_with (go_at_call 80; refine (rotate_any (p ^^^ q) n n (by omega) hx32 _).mono ?_; rintro e w3 ⟨rfl, k3, rfl⟩)
  all_goals go_wp2
  all_goals
    go_end0
    refine ⟨rfl, ?_, grown_trans HG2.out (grown_trans (grown_drewN w2 g _) (grown_set _ _ _ _))⟩
    have h := (HW2.out.drewN (1 + k3)).put by_ (.int .u32 (rotl (p ^^^ q) n : Nat))
    rw [HT.out] at h
    exact h

set_option maxRecDepth 100000 in
theorem quarter_any (g a b c d : Nat) (s : List Nat) (hl : s.length = 16) (hf : Fits s) (h1 : a < 16) (h2 : b < 16) (h3 : c < 16) (h4 : d < 16) (w : World) (hw : Whole w g 104 (wcells s).toArray) :
    Calls Try.prog 76 #[.pointer (some ⟨g, 0, none⟩), .int .i64 a, .int .i64 b, .int .i64 c, .int .i64 d] w fun e w' => e = .returned (.tuple #[]) ∧ Whole w' g 104 (wcells (quarter s a b c d)).toArray ∧ w.grownBy w' (some g) := by
  have HL := Lib.hid hl
  have HF := Lib.hid hf
  have HW := Lib.hid hw
  clear hl hf hw
  go_enter Try.func76, Try.ntmps76
  go_wp2_with fail
  refine (turn_any g a b d 16 s HL.out HF.out h1 h2 h4 (by omega) _ HW.out).mono ?_
  rintro e w1 ⟨rfl, q1, g1⟩
  have HQ1 := Lib.hid q1
  have HG1 := Lib.hid g1
  clear q1 g1
  go_wp2_with fail
  refine (turn_any g c d b 12 _ (by rw [turn_length]; exact HL.out) (turn_fits HF.out _ _ _ _ (by omega)) h3 h4 h2 (by omega) _ HQ1.out).mono ?_
  rintro e w2 ⟨rfl, q2, g2⟩
  have HQ2 := Lib.hid q2
  have HG2 := Lib.hid (grown_trans HG1.out g2)
  clear q2 g2
  go_wp2_with fail
  refine (turn_any g a b d 8 _ (by rw [turn_length, turn_length]; exact HL.out) (turn_fits (turn_fits HF.out _ _ _ _ (by omega)) _ _ _ _ (by omega)) h1 h2 h4 (by omega) _ HQ2.out).mono ?_
  rintro e w3 ⟨rfl, q3, g3⟩
  have HQ3 := Lib.hid q3
  have HG3 := Lib.hid (grown_trans HG2.out g3)
  clear q3 g3
  go_wp2_with fail
  refine (turn_any g c d b 7 _ (by rw [turn_length, turn_length, turn_length]; exact HL.out) (turn_fits (turn_fits (turn_fits HF.out _ _ _ _ (by omega)) _ _ _ _ (by omega)) _ _ _ _ (by omega)) h3 h4 h2 (by omega) _ HQ3.out).mono ?_
  rintro e w4 ⟨rfl, q4, g4⟩
  have HQ4 := Lib.hid q4
  have HG4 := Lib.hid (grown_trans HG3.out g4)
  clear q4 g4
  go_wp2_with fail
  go_end0
  exact ⟨rfl, HQ4.out, HG4.out⟩

set_option maxRecDepth 100000 in
theorem stir_any (g : Nat) (s : List Nat) (hl : s.length = 16) (hf : Fits s) (w : World) (hw : Whole w g 104 (wcells s).toArray) :
    Calls Try.prog 71 #[.pointer (some ⟨g, 0, none⟩)] w fun e w' => e = .returned (.tuple #[]) ∧ Whole w' g 104 (wcells (stir s)).toArray ∧ w.grownBy w' (some g) := by
  have HL := Lib.hid hl
  have HF := Lib.hid hf
  have HW := Lib.hid hw
  clear hl hf hw
  go_enter Try.func71, Try.ntmps71
  go_wp2_with fail
  go_loopw [2] (fun i wr => ∃ k : Nat, k ≤ 10 ∧ i = .int .i64 k ∧ Whole wr g 104 (wcells (rounds k s)).toArray ∧ w.grownBy wr (some g)) (fun i _ => 10 - (intOf i).toNat)
  case atStart => exact ⟨0, by omega, rfl, HW.out, World.grownBy.refl _ _⟩
  case round =>
    obtain ⟨k, hk, rfl, hq, hg⟩ := hrel
    have HQ := Lib.hid hq
    have HG := Lib.hid hg
    clear hq hg
    by_cases hlt : k < 10
    · have hsl : (rounds k s).length = 16 := by rw [rounds_length]; exact HL.out
      have hsf : Fits (rounds k s) := rounds_fits k HF.out
      generalize ht : rounds k s = t at HQ hsl hsf
      have HX : ∀ x, Whole x g 104 (wcells (two t)).toArray → Whole x g 104 (wcells (rounds (k + 1) s)).toArray := fun x hx => by rw [← ht] at hx; exact hx
      have HSL := Lib.hid hsl
      have HSF := Lib.hid hsf
      have HT := Lib.hid HX
      clear hsl hsf ht HX
      go_wp2_with fail
      refine (quarter_any g 0 4 8 12 _ HSL.out HSF.out (by omega) (by omega) (by omega) (by omega) _ HQ.out).mono ?_
      rintro e w1 ⟨rfl, q1, g1⟩
      have HQ1 := Lib.hid q1
      have HG1 := Lib.hid (grown_trans HG.out g1)
      have HF1 := Lib.hid (quarter_fits HSF.out 0 4 8 12)
      have HL1 := Lib.hid ((quarter_length t 0 4 8 12).trans HSL.out)
      clear q1 g1
      go_wp2_with fail
      refine (quarter_any g 1 5 9 13 _ HL1.out HF1.out (by omega) (by omega) (by omega) (by omega) _ HQ1.out).mono ?_
      rintro e w2 ⟨rfl, q2, g2⟩
      have HQ2 := Lib.hid q2
      have HG2 := Lib.hid (grown_trans HG1.out g2)
      have HF2 := Lib.hid (quarter_fits HF1.out 1 5 9 13)
      have HL2 := Lib.hid ((quarter_length _ 1 5 9 13).trans HL1.out)
      clear q2 g2
      go_wp2_with fail
      refine (quarter_any g 2 6 10 14 _ HL2.out HF2.out (by omega) (by omega) (by omega) (by omega) _ HQ2.out).mono ?_
      rintro e w3 ⟨rfl, q3, g3⟩
      have HQ3 := Lib.hid q3
      have HG3 := Lib.hid (grown_trans HG2.out g3)
      have HF3 := Lib.hid (quarter_fits HF2.out 2 6 10 14)
      have HL3 := Lib.hid ((quarter_length _ 2 6 10 14).trans HL2.out)
      clear q3 g3
      go_wp2_with fail
      refine (quarter_any g 3 7 11 15 _ HL3.out HF3.out (by omega) (by omega) (by omega) (by omega) _ HQ3.out).mono ?_
      rintro e w4 ⟨rfl, q4, g4⟩
      have HQ4 := Lib.hid q4
      have HG4 := Lib.hid (grown_trans HG3.out g4)
      have HF4 := Lib.hid (quarter_fits HF3.out 3 7 11 15)
      have HL4 := Lib.hid ((quarter_length _ 3 7 11 15).trans HL3.out)
      clear q4 g4
      go_wp2_with fail
      refine (quarter_any g 0 5 10 15 _ HL4.out HF4.out (by omega) (by omega) (by omega) (by omega) _ HQ4.out).mono ?_
      rintro e w5 ⟨rfl, q5, g5⟩
      have HQ5 := Lib.hid q5
      have HG5 := Lib.hid (grown_trans HG4.out g5)
      have HF5 := Lib.hid (quarter_fits HF4.out 0 5 10 15)
      have HL5 := Lib.hid ((quarter_length _ 0 5 10 15).trans HL4.out)
      clear q5 g5
      go_wp2_with fail
      refine (quarter_any g 1 6 11 12 _ HL5.out HF5.out (by omega) (by omega) (by omega) (by omega) _ HQ5.out).mono ?_
      rintro e w6 ⟨rfl, q6, g6⟩
      have HQ6 := Lib.hid q6
      have HG6 := Lib.hid (grown_trans HG5.out g6)
      have HF6 := Lib.hid (quarter_fits HF5.out 1 6 11 12)
      have HL6 := Lib.hid ((quarter_length _ 1 6 11 12).trans HL5.out)
      clear q6 g6
      go_wp2_with fail
      refine (quarter_any g 2 7 8 13 _ HL6.out HF6.out (by omega) (by omega) (by omega) (by omega) _ HQ6.out).mono ?_
      rintro e w7 ⟨rfl, q7, g7⟩
      have HQ7 := Lib.hid q7
      have HG7 := Lib.hid (grown_trans HG6.out g7)
      have HF7 := Lib.hid (quarter_fits HF6.out 2 7 8 13)
      have HL7 := Lib.hid ((quarter_length _ 2 7 8 13).trans HL6.out)
      clear q7 g7
      go_wp2_with fail
      refine (quarter_any g 3 4 9 14 _ HL7.out HF7.out (by omega) (by omega) (by omega) (by omega) _ HQ7.out).mono ?_
      rintro e w8 ⟨rfl, q8, g8⟩
      have HQ8 := Lib.hid q8
      have HG8 := Lib.hid (grown_trans HG7.out g8)
      have HF8 := Lib.hid (quarter_fits HF7.out 3 4 9 14)
      have HL8 := Lib.hid ((quarter_length _ 3 4 9 14).trans HL7.out)
      clear q8 g8
      go_wp2_with fail
      go_roundw
      case rel => exact ⟨k + 1, by omega, by go_num, HT.out _ HQ8.out, HG8.out⟩
      case measure => simp [intOf]; omega
    · obtain rfl : k = 10 := by omega
      go_wp2_with fail
      go_end0
      exact ⟨rfl, HQ.out, HG.out⟩

end Chacha
end Go.Proofs.Ytdffbjlbhjppeaa
