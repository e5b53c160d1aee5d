/- The walk of the law TextWords. -/
import Derived.Test.YtkigkoeanhepkaaTextRefWords
import Derived.Test.YtkigkoeanhepkaaTextRefPair
import Derived.Test.YtkigkoeanhepkaaTextCut
import Derived.Test.YtkigkoeanhepkaaTextAlive
namespace Go.Proofs.Ytkigkoeanhepkaa
namespace TextWords
open Go.ChangeShapes Go.WideShapes Go.ChangeAt Go.RowKit
open Num Mem Chacha Go.Proofs.Ytkigkoeanhepkaa.Text

/-- a slice whose places hold these strings -/
def RowOf (W : World) (base : Nat) (v : Value) (xs : List ByteArray) : Prop :=
  ∃ a cap, v = .slice a xs.length cap ∧ (xs = [] ∨ ∃ g, a = some ⟨g, 0, none⟩ ∧ base ≤ g ∧ g < W.heap.size ∧ ∀ i x, xs[i]? = some x → W.cell? ⟨g, i, none⟩ = some (.string x))

theorem RowOf.below {W W' : World} {base B : Nat} {v : Value} {xs : List ByteArray} (h : RowOf W base v xs) (hb : Below B W W') (hB : W.heap.size ≤ B) : RowOf W' base v xs := by
  obtain ⟨a, cap, rfl, h⟩ := h
  refine ⟨a, cap, rfl, h.imp id fun ⟨g, e, h1, h2, h3⟩ => ⟨g, e, h1, Nat.lt_of_lt_of_le h2 hb.size, fun i x hx => ?_⟩⟩
  rw [hb.cell (p := ⟨g, i, none⟩) (by simp; omega)]
  exact h3 i x hx
theorem RowOf.drewN {W : World} {base : Nat} {v : Value} {xs : List ByteArray} (h : RowOf W base v xs) (d : Nat) : RowOf (W.drewN d) base v xs := h

theorem row_own {W : World} {base : Nat} {a : Option Addr} {cap cap' : Nat} {xs : List ByteArray} (h : W.ownsRow base 9 1 (.slice a xs.length cap) xs.length (xs.map Value.string)) : RowOf W base (.slice a xs.length cap') xs := by
  refine ⟨a, cap', rfl, ?_⟩
  rcases h.2 with ⟨_, h0⟩ | ⟨g, c, cur, e, hg, hh, _⟩
  · exact .inl (List.eq_nil_of_length_eq_zero h0)
  · obtain rfl : a = some ⟨g, 0, none⟩ := by injection e
    refine .inr ⟨g, rfl, hg, ?_, fun i x hx => ?_⟩
    · rcases Nat.lt_or_ge g W.heap.size with k | k
      · exact k
      · rw [Array.getElem?_eq_none k] at hh
        cases hh
    · have hi : i < xs.length := by
        rcases Nat.lt_or_ge i xs.length with k | k
        · exact k
        · rw [List.getElem?_eq_none k] at hx; cases hx
      have := h.cellAt i (by omega)
      rw [this, List.getElem?_map, hx]
      rfl

/-- what Words answers -/
def wE (s : ByteArray) : Nat := if 65536 < s.size then 2 else if seenTo s s.size = true then 0 else 11
def wl (s : ByteArray) : List ByteArray := if 65536 < s.size then [] else if seenTo s s.size = true then wordsL s else []

theorem words_any (s : ByteArray) (w : World) :
    Calls Try.prog 11 #[.string s] w fun e W' => ∃ v, e = .returned (.tuple #[v, .int .i64 (wE s : Nat)]) ∧ RowOf W' w.heap.size v (wl s) ∧ Below w.heap.size w W' := by
  by_cases h1 : 65536 < s.size
  · refine (words_long s h1 w).mono ?_
    rintro e W ⟨rfl, rfl⟩
    refine ⟨_, by unfold wE; rw [if_pos h1]; rfl, ?_, Below.refl _ _⟩
    unfold wl
    rw [if_pos h1]
    exact ⟨none, 0, rfl, .inl rfl⟩
  · by_cases h2 : seenTo s s.size = true
    · refine (words_ok s (by omega) h2 w).mono ?_
      rintro e W ⟨v, rfl, ⟨a, cap, rfl, hr, _, _⟩, hb⟩
      refine ⟨_, by unfold wE; rw [if_neg h1, if_pos h2]; rfl, ?_, hb⟩
      unfold wl
      rw [if_neg h1, if_pos h2]
      exact row_own hr
    · refine (words_byte s (by omega) (by simpa using h2) w).mono ?_
      rintro e W ⟨rfl, rfl⟩
      refine ⟨_, by unfold wE; rw [if_neg h1, if_neg h2]; rfl, ?_, Below.refl _ _⟩
      unfold wl
      rw [if_neg h1, if_neg h2]
      exact ⟨none, 0, rfl, .inl rfl⟩

theorem refWords_any (s : ByteArray) (w : World) :
    Calls Try.prog 12 #[.string s] w fun e W' => ∃ v, e = .returned (.tuple #[v, .int .i64 (wE s : Nat)]) ∧ RowOf W' w.heap.size v (wl s) ∧ Below w.heap.size w W' := by
  by_cases h1 : 65536 < s.size
  · refine (refWords_long s h1 w).mono ?_
    rintro e W ⟨rfl, rfl⟩
    refine ⟨_, by unfold wE; rw [if_pos h1]; rfl, ?_, Below.refl _ _⟩
    unfold wl
    rw [if_pos h1]
    exact ⟨none, 0, rfl, .inl rfl⟩
  · by_cases h2 : seenTo s s.size = true
    · refine (refWords_ok s (by omega) h2 w).mono ?_
      rintro e W ⟨v, rfl, hr, hb⟩
      refine ⟨_, by unfold wE; rw [if_neg h1, if_pos h2]; rfl, ?_, hb⟩
      unfold wl
      rw [if_neg h1, if_pos h2]
      obtain ⟨a, cap, rfl, _⟩ := owns_slice hr
      exact row_own hr
    · refine (refWords_byte s (by omega) (by simpa using h2) w).mono ?_
      rintro e W ⟨rfl, rfl⟩
      refine ⟨_, by unfold wE; rw [if_neg h1, if_neg h2]; rfl, ?_, Below.refl _ _⟩
      unfold wl
      rw [if_neg h1, if_neg h2]
      exact ⟨none, 0, rfl, .inl rfl⟩

theorem wl_len (s : ByteArray) : (wl s).length < 2 ^ 62 := by
  have := wst_len s (s.size + 1)
  unfold wl
  split
  · simp
  · split
    · unfold wordsL
      omega
    · simp

theorem same_any {W : World} {b1 b2 : Nat} {v1 v2 : Value} {xs : List ByteArray} (h1 : RowOf W b1 v1 xs) (h2 : RowOf W b2 v2 xs) (hl : xs.length < 2 ^ 62) :
    Calls Try.prog 15 #[v1, v2] W fun e w' => e = .returned (.bool true) ∧ Below W.heap.size W w' := by
  obtain ⟨a, c1, rfl, h1⟩ := h1
  obtain ⟨b, c2, rfl, h2⟩ := h2
  rcases h1 with rfl | ⟨g, rfl, _, _, h1⟩
  · exact same_nil a b c1 c2 W
  · rcases h2 with rfl | ⟨g', rfl, _, _, h2⟩
    · exact same_nil _ b c1 c2 W
    · exact same_some g g' c1 c2 xs W hl h1 h2

set_option maxRecDepth 100000 in
set_option maxHeartbeats 4000000 in
theorem alive_way (s : ByteArray) (hc : (2000 < s.size ∧ s.size ≤ 65536) ∨ 65546 < s.size) (w : World) :
    Calls Try.prog 4 #[.string s] w fun e w' => e = .returned (.bool true) ∧ Below w.heap.size w w' := by
  have CA := Lib.hid alive_any
  go_enter Try.func4, Try.ntmps4
  rcases hc with ⟨h1, h2⟩ | h1
  · have d1 : (decide ((2000 : Int) < (s.size : Int))) = true := decide_eq_true (by omega)
    have d2 : (decide ((s.size : Int) ≤ 65536)) = true := decide_eq_true (by omega)
    go_wp2_with (go_at_call 6; refine (CA.out _).mono ?_; rintro e w1 ⟨rfl, hb⟩)
    go_ret
    exact ⟨rfl, hb⟩
  · have d1 : (decide ((2000 : Int) < (s.size : Int))) = true := decide_eq_true (by omega)
    have d2 : (decide ((s.size : Int) ≤ 65536)) = false := decide_eq_false (by omega)
    have d3 : (decide ((65546 : Int) < (s.size : Int))) = true := decide_eq_true (by omega)
    go_wp2_with (go_at_call 6; refine (CA.out _).mono ?_; rintro e w1 ⟨rfl, hb⟩)
    go_ret
    exact ⟨rfl, hb⟩

/-- the pair of either side -/
structure PairOf (s x y : ByteArray) (z : Bool) : Prop where
  own : ∀ w, Calls Try.prog 13 #[.string s] w fun e w' => e = .returned (.tuple #[.string x, .string y, .bool z]) ∧ ∃ d, w' = w.drewN d
  ref : ∀ w, Calls Try.prog 14 #[.string s] w fun e w' => e = .returned (.tuple #[.string x, .string y, .bool z]) ∧ ∃ d, w' = w.drewN d
theorem pair_any (s : ByteArray) (hs : s.size < 2 ^ 62) : ∃ x y z, PairOf s x y z := by
  rcases equals_at s with ⟨h1, h2⟩ | ⟨p, h1, h2, h3, h4⟩
  · refine ⟨s, { data := #[] }, false, ⟨fun w => (pair_no s h1 w).mono ?_, fun w => (refPair_no s hs h2 w).mono ?_⟩⟩
    · rintro e w' ⟨rfl, rfl⟩
      exact ⟨rfl, 0, rfl⟩
    · rintro e w' ⟨rfl, rfl⟩
      exact ⟨rfl, 0, rfl⟩
  · exact ⟨_, _, _, ⟨fun w => pair_yes s p h1 h2 hs w, fun w => refPair_yes s hs p h2 h3 h4 w⟩⟩

set_option maxRecDepth 100000 in
set_option maxHeartbeats 4000000 in
theorem walk (s : ByteArray) (w : World) (_ : s.size ≤ maxLen) :
    Calls Try.prog 4 #[.string s] w fun e w' => e = .returned (.bool true) ∧ Below w.heap.size w w' := by
  by_cases hc : (2000 < s.size ∧ s.size ≤ 65536) ∨ 65546 < s.size
  · exact alive_way s hc w
  have hsz : s.size ≤ 65546 := by omega
  obtain ⟨x, y, z, hP⟩ := pair_any s (by omega)
  have CA := Lib.hid alive_any
  have CP := Lib.hid hP.own
  have CR := Lib.hid hP.ref
  have CW := Lib.hid (words_any s)
  have CU := Lib.hid (refWords_any s)
  have HL := Lib.hid (wl_len s)
  clear hP
  generalize hE : wE s = E at CW CU
  generalize hX : wl s = xs at CW CU HL
  clear hE hX
  have key : ∃ d1 d2 : Bool, decide ((2000 : Int) < (s.size : Int)) = d1 ∧ decide ((s.size : Int) ≤ 65536) = d2 ∧ ((d1 = false) ∨ d1 = true ∧ d2 = false) := by
    refine ⟨_, _, rfl, rfl, ?_⟩
    rcases Nat.lt_or_ge 2000 s.size with h | h
    · right
      exact ⟨decide_eq_true (by omega), decide_eq_false (by omega)⟩
    · left
      exact decide_eq_false (by omega)
  obtain ⟨d1, d2, e1, e2, key⟩ := key
  have e3 : decide ((65546 : Int) < (s.size : Int)) = false := decide_eq_false (by omega)
  go_enter Try.func4, Try.ntmps4
  rcases key with rfl | ⟨rfl, rfl⟩
  all_goals
    go_upto_region 3 with fail
    clear e1 e2 e3
    go_upto_region 4 with (first | (go_at_call 11; refine (CW.out _).mono ?_; rintro e w1 ⟨v1, rfl, hr1, hb1⟩))
    have HR1 := Lib.hid hr1
    have HB1 := Lib.hid hb1
    clear hr1 hb1
    go_upto_region 5 with (first | (go_at_call 12; refine (CU.out _).mono ?_; rintro e w2 ⟨v2, rfl, hr2, hb2⟩))
    have HR2 := Lib.hid (HR1.out.below hb2 (Nat.le_refl _))
    have HS2 := Lib.hid hr2
    have HB2 := Lib.hid (below_trans HB1.out hb2)
    clear hr2 hb2 HR1 HB1
    go_upto_region 6 with (first | (go_at_call 13; refine (CP.out _).mono ?_; rintro e w3 ⟨rfl, d3, rfl⟩))
    go_upto_region 7 with (first | (go_at_call 14; refine (CR.out _).mono ?_; rintro e w4 ⟨rfl, d4, rfl⟩))
    refine cut_world (fun X => RowOf X w.heap.size v1 xs ∧ RowOf X w1.heap.size v2 xs ∧ Below w.heap.size w X) ⟨HR2.out, HS2.out, by first | exact below_drewN (below_drewN HB2.out _) _ | exact below_drewN HB2.out _⟩ ?_
    rintro W ⟨h1, h2, h3⟩
    have HA := Lib.hid h1
    have HB := Lib.hid h2
    have HW := Lib.hid h3
    clear h1 h2 h3 HR2 HS2 HB2
    go_wp2_with (first
      | (go_at_call 6; refine (CA.out _).mono ?_; rintro e w5 ⟨rfl, hb5⟩)
      | (go_at_call 15; refine (same_any (HA.out.below hb5 (Nat.le_refl _)) (HB.out.below hb5 (Nat.le_refl _)) HL.out).mono ?_; rintro e w6 ⟨rfl, hb6⟩))
    go_ret
    exact ⟨rfl, below_trans (below_trans HW.out hb5) hb6⟩

end TextWords
end Go.Proofs.Ytkigkoeanhepkaa
