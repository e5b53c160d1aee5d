/- Package gauge: Least, Greatest and what is told; and the document's own order, pick and count of measures. -/
import Derived.Test.YteombmahglbeeaaGauge
namespace Go.Proofs.Yteombmahglbeeaa
namespace Gauge
open Go.ChangeShapes Go.WideShapes Go.ChangeAt Go.RowKit
open Num Mem Fl

theorem nan_lt : NAN < 18446744073709551616 := by decide
theorem fnan (w : World) : (callFunc 28 #[.int .u64 9221120237041090561]).run Try.prog w = .ok (.value (.float .f64 NAN)) w := ffrom NAN w
theorem none_any (w : World) : Calls Try.prog 30 #[] w fun e w' => e = .returned (.float .f64 NAN) ∧ w = w' := by
  have h := fnan
  go_enter Try.func30, Try.ntmps30
  go_wp2
  go_ret
  exact ⟨rfl, rfl⟩
theorem told_any (x : Nat) (w : World) : Calls Try.prog 34 #[.float .f64 x] w fun e w' => e = .returned (.float .f64 (told x)) ∧ w = w' := by
  have C1 := Lib.hid (isNaN_any x)
  have C2 := Lib.hid none_any
  unfold told
  rcases hp : isNum x with _ | _
  · rw [hp] at C1
    show Calls _ _ _ _ fun e w' => e = .returned (.float .f64 NAN) ∧ w = w'
    go_enter Try.func34, Try.ntmps34
    go_wp2_with fail
    refine (C1.out _).mono ?_
    rintro e w' ⟨rfl, rfl⟩
    go_wp2_with fail
    refine (C2.out _).mono ?_
    rintro e w' ⟨rfl, rfl⟩
    go_wp2_with fail
    go_ret
    exact ⟨rfl, rfl⟩
  · rw [hp] at C1
    show Calls _ _ _ _ fun e w' => e = .returned (.float .f64 x) ∧ w = w'
    go_enter Try.func34, Try.ntmps34
    go_wp2_with fail
    refine (C1.out _).mono ?_
    rintro e w' ⟨rfl, rfl⟩
    go_wp2_with fail
    go_ret
    exact ⟨rfl, rfl⟩

set_option maxRecDepth 100000 in
theorem least_any (x y : Nat) (hx : x < 18446744073709551616) (hy : y < 18446744073709551616) (w : World) :
    Calls Try.prog 19 #[.float .f64 x, .float .f64 y] w fun e w' => e = .returned (.float .f64 (least x y)) ∧ w = w' := by
  have C1 := Lib.hid (isNaN_any x)
  have C2 := Lib.hid (isNaN_any y)
  have C3 := Lib.hid none_any
  have C4 := Lib.hid (order_any y x hy hx)
  unfold least
  have hc := ordI_cases y x
  generalize ordI y x = v at *
  clear hx hy
  rcases hp : isNum x with _ | _
  · rw [hp] at C1
    rw [if_neg (by simp)]
    clear hp hc C4
    go_enter Try.func19, Try.ntmps19
    go_wp2_with fail
    refine (C1.out _).mono ?_
    rintro e w' ⟨rfl, rfl⟩
    go_wp2_with fail
    refine (C3.out _).mono ?_
    rintro e w' ⟨rfl, rfl⟩
    go_wp2_with fail
    go_ret
    exact ⟨rfl, rfl⟩
  · rcases hq : isNum y with _ | _
    · rw [hp] at C1
      rw [hq] at C2
      rw [if_neg (by simp)]
      clear hp hq hc C4
      go_enter Try.func19, Try.ntmps19
      go_wp2_with fail
      refine (C1.out _).mono ?_
      rintro e w' ⟨rfl, rfl⟩
      go_wp2_with fail
      refine (C2.out _).mono ?_
      rintro e w' ⟨rfl, rfl⟩
      go_wp2_with fail
      refine (C3.out _).mono ?_
      rintro e w' ⟨rfl, rfl⟩
      go_wp2_with fail
      go_ret
      exact ⟨rfl, rfl⟩
    · rw [hp] at C1
      rw [hq] at C2
      rw [if_pos ⟨rfl, rfl⟩]
      clear hp hq C3
      rcases hc with ⟨h, rfl⟩ | ⟨h, rfl⟩ | ⟨h, rfl⟩
      · rw [if_pos h]
        clear h
        go_enter Try.func19, Try.ntmps19
        go_wp2_with fail
        refine (C1.out _).mono ?_
        rintro e w' ⟨rfl, rfl⟩
        go_wp2_with fail
        refine (C2.out _).mono ?_
        rintro e w' ⟨rfl, rfl⟩
        go_wp2_with fail
        refine (C4.out _).mono ?_
        rintro e w' ⟨rfl, rfl⟩
        go_wp2_with fail
        go_ret
        exact ⟨rfl, rfl⟩
      · rw [if_neg (by omega)]
        clear h
        go_enter Try.func19, Try.ntmps19
        go_wp2_with fail
        refine (C1.out _).mono ?_
        rintro e w' ⟨rfl, rfl⟩
        go_wp2_with fail
        refine (C2.out _).mono ?_
        rintro e w' ⟨rfl, rfl⟩
        go_wp2_with fail
        refine (C4.out _).mono ?_
        rintro e w' ⟨rfl, rfl⟩
        go_wp2_with fail
        go_ret
        exact ⟨rfl, rfl⟩
      · rw [if_neg (by omega)]
        clear h
        go_enter Try.func19, Try.ntmps19
        go_wp2_with fail
        refine (C1.out _).mono ?_
        rintro e w' ⟨rfl, rfl⟩
        go_wp2_with fail
        refine (C2.out _).mono ?_
        rintro e w' ⟨rfl, rfl⟩
        go_wp2_with fail
        refine (C4.out _).mono ?_
        rintro e w' ⟨rfl, rfl⟩
        go_wp2_with fail
        go_ret
        exact ⟨rfl, rfl⟩

set_option maxRecDepth 100000 in
theorem greatest_any (x y : Nat) (hx : x < 18446744073709551616) (hy : y < 18446744073709551616) (w : World) :
    Calls Try.prog 32 #[.float .f64 x, .float .f64 y] w fun e w' => e = .returned (.float .f64 (greatest x y)) ∧ w = w' := by
  have C1 := Lib.hid (isNaN_any x)
  have C2 := Lib.hid (isNaN_any y)
  have C3 := Lib.hid none_any
  have C4 := Lib.hid (order_any y x hy hx)
  unfold greatest
  have hc := ordI_cases y x
  generalize ordI y x = v at *
  clear hx hy
  rcases hp : isNum x with _ | _
  · rw [hp] at C1
    rw [if_neg (by simp)]
    clear hp hc C4
    go_enter Try.func32, Try.ntmps32
    go_wp2_with fail
    refine (C1.out _).mono ?_
    rintro e w' ⟨rfl, rfl⟩
    go_wp2_with fail
    refine (C3.out _).mono ?_
    rintro e w' ⟨rfl, rfl⟩
    go_wp2_with fail
    go_ret
    exact ⟨rfl, rfl⟩
  · rcases hq : isNum y with _ | _
    · rw [hp] at C1
      rw [hq] at C2
      rw [if_neg (by simp)]
      clear hp hq hc C4
      go_enter Try.func32, Try.ntmps32
      go_wp2_with fail
      refine (C1.out _).mono ?_
      rintro e w' ⟨rfl, rfl⟩
      go_wp2_with fail
      refine (C2.out _).mono ?_
      rintro e w' ⟨rfl, rfl⟩
      go_wp2_with fail
      refine (C3.out _).mono ?_
      rintro e w' ⟨rfl, rfl⟩
      go_wp2_with fail
      go_ret
      exact ⟨rfl, rfl⟩
    · rw [hp] at C1
      rw [hq] at C2
      rw [if_pos ⟨rfl, rfl⟩]
      clear hp hq C3
      rcases hc with ⟨h, rfl⟩ | ⟨h, rfl⟩ | ⟨h, rfl⟩
      · rw [if_neg (by omega)]
        clear h
        go_enter Try.func32, Try.ntmps32
        go_wp2_with fail
        refine (C1.out _).mono ?_
        rintro e w' ⟨rfl, rfl⟩
        go_wp2_with fail
        refine (C2.out _).mono ?_
        rintro e w' ⟨rfl, rfl⟩
        go_wp2_with fail
        refine (C4.out _).mono ?_
        rintro e w' ⟨rfl, rfl⟩
        go_wp2_with fail
        go_ret
        exact ⟨rfl, rfl⟩
      · rw [if_neg (by omega)]
        clear h
        go_enter Try.func32, Try.ntmps32
        go_wp2_with fail
        refine (C1.out _).mono ?_
        rintro e w' ⟨rfl, rfl⟩
        go_wp2_with fail
        refine (C2.out _).mono ?_
        rintro e w' ⟨rfl, rfl⟩
        go_wp2_with fail
        refine (C4.out _).mono ?_
        rintro e w' ⟨rfl, rfl⟩
        go_wp2_with fail
        go_ret
        exact ⟨rfl, rfl⟩
      · rw [if_pos h]
        clear h
        go_enter Try.func32, Try.ntmps32
        go_wp2_with fail
        refine (C1.out _).mono ?_
        rintro e w' ⟨rfl, rfl⟩
        go_wp2_with fail
        refine (C2.out _).mono ?_
        rintro e w' ⟨rfl, rfl⟩
        go_wp2_with fail
        refine (C4.out _).mono ?_
        rintro e w' ⟨rfl, rfl⟩
        go_wp2_with fail
        go_ret
        exact ⟨rfl, rfl⟩

/-! the document's own -/
def negB (x : Nat) : Bool := decide (9223372036854775808 ≤ x)
theorem bits_at (x : Nat) (X : Int) (hX : X = (x : Int)) : ∀ w, (callFunc 29 #[.float .f64 x]).run Try.prog w = .ok (.value (.int .u64 X)) w := by
  subst hX
  exact fbits x
theorem rbelow_any (x : Nat) (w : World) : Calls Try.prog 40 #[.float .f64 x] w fun e w' => e = .returned (.bool (negB x)) ∧ w = w' := by
  obtain ⟨X, hX⟩ : ∃ X : Int, X = (x : Int) := ⟨_, rfl⟩
  have hb := bits_at x X hX
  have hd : decide ((9223372036854775808 : Int) ≤ X) = negB x := by unfold negB; rw [Bool.eq_iff_iff, decide_eq_true_eq, decide_eq_true_eq]; omega
  generalize negB x = r at *
  clear hX
  go_enter Try.func40, Try.ntmps40
  go_wp2
  go_ret
  exact ⟨ret_bool (by first | rfl | exact hd), rfl⟩
theorem rcounts_any (x : Nat) (w : World) : Calls Try.prog 22 #[.float .f64 x] w fun e w' => e = .returned (.bool (counts x)) ∧ w = w' := by
  obtain ⟨X, hX⟩ : ∃ X : Int, X = (x : Int) := ⟨_, rfl⟩
  have hb := bits_at x X hX
  have h0 : 0 ≤ X := by omega
  have hd : decide (X % 9223372036854775808 < (9218868437227405312 : Int)) = counts x := by unfold counts rung; rw [Bool.eq_iff_iff, decide_eq_true_eq, decide_eq_true_eq]; omega
  generalize counts x = r at *
  clear hX
  go_enter Try.func22, Try.ntmps22
  go_wp2
  go_ret
  exact ⟨ret_bool (by first | rfl | exact hd), rfl⟩

theorem ordR (x y : Nat) (hx : x < 18446744073709551616) (hy : y < 18446744073709551616) : x = y ∧ ordI x y = 0 ∨ x ≠ y ∧ (negB x = true ∧ negB y = false ∧ ordI x y = -1 ∨ negB x = false ∧ negB y = true ∧ ordI x y = 1 ∨
    (negB x = false ∧ negB y = false ∧ (x < y ∧ ordI x y = -1 ∨ y < x ∧ ordI x y = 1)) ∨ (negB x = true ∧ negB y = true ∧ (x < y ∧ ordI x y = 1 ∨ y < x ∧ ordI x y = -1))) := by
  have hc := ordI_cases x y
  unfold negB
  unfold place at hc
  by_cases e : x = y
  · subst e
    refine .inl ⟨rfl, ?_⟩
    rcases hc with h | h | h
    · omega
    · exact h.2
    · omega
  · refine .inr ⟨e, ?_⟩
    by_cases a : x < 9223372036854775808 <;> by_cases b : y < 9223372036854775808
    · rw [decide_eq_false (show ¬ 9223372036854775808 ≤ x by omega), decide_eq_false (show ¬ 9223372036854775808 ≤ y by omega)]
      rw [if_pos a, if_pos b] at hc
      refine .inr (.inr (.inl ⟨rfl, rfl, ?_⟩))
      omega
    · rw [decide_eq_false (show ¬ 9223372036854775808 ≤ x by omega), decide_eq_true (show 9223372036854775808 ≤ y by omega)]
      rw [if_pos a, if_neg b] at hc
      refine .inr (.inl ⟨rfl, rfl, ?_⟩)
      omega
    · rw [decide_eq_true (show 9223372036854775808 ≤ x by omega), decide_eq_false (show ¬ 9223372036854775808 ≤ y by omega)]
      rw [if_neg a, if_pos b] at hc
      refine .inl ⟨rfl, rfl, ?_⟩
      omega
    · rw [decide_eq_true (show 9223372036854775808 ≤ x by omega), decide_eq_true (show 9223372036854775808 ≤ y by omega)]
      rw [if_neg a, if_neg b] at hc
      refine .inr (.inr (.inr ⟨rfl, rfl, ?_⟩))
      omega
set_option maxRecDepth 100000 in
theorem rorder_any (x y : Nat) (hx : x < 18446744073709551616) (hy : y < 18446744073709551616) (w : World) :
    Calls Try.prog 23 #[.float .f64 x, .float .f64 y] w fun e w' => e = .returned (.int .i64 (ordI x y)) ∧ w = w' := by
  have B1 := Lib.hid (rbelow_any x)
  have B2 := Lib.hid (rbelow_any y)
  have hb1 := fbits x
  have hb2 := fbits y
  rcases ordR x y hx hy with ⟨rfl, e⟩ | ⟨hne, h⟩
  · rw [e]
    clear e hx hy
    have h1 : ((x : Int) == x) = true := by simp
    go_enter Try.func23, Try.ntmps23
    go_wp2_with fail
    go_ret
    exact ⟨rfl, rfl⟩
  · have h1 : ((x : Int) == y) = false := by rw [beq_eq_false_iff_ne]; omega
    have h2 : ((x : Int) = y) = False := eq_false (by omega)
    clear hx hy hne
    rcases h with ⟨e1, e2, e⟩ | ⟨e1, e2, e⟩ | ⟨e1, e2, ⟨hl, e⟩ | ⟨hl, e⟩⟩ | ⟨e1, e2, ⟨hl, e⟩ | ⟨hl, e⟩⟩
    all_goals
      rw [e1] at B1
      rw [e2] at B2
      rw [e]
      clear e1 e2 e
    · go_enter Try.func23, Try.ntmps23
      go_wp2_with fail
      refine (B1.out _).mono ?_
      rintro e w' ⟨rfl, rfl⟩
      go_wp2_with fail
      refine (B2.out _).mono ?_
      rintro e w' ⟨rfl, rfl⟩
      go_wp2_with fail
      refine (B1.out _).mono ?_
      rintro e w' ⟨rfl, rfl⟩
      go_wp2_with fail
      go_ret
      exact ⟨rfl, rfl⟩
    · go_enter Try.func23, Try.ntmps23
      go_wp2_with fail
      refine (B1.out _).mono ?_
      rintro e w' ⟨rfl, rfl⟩
      go_wp2_with fail
      refine (B2.out _).mono ?_
      rintro e w' ⟨rfl, rfl⟩
      go_wp2_with fail
      refine (B1.out _).mono ?_
      rintro e w' ⟨rfl, rfl⟩
      go_wp2_with fail
      go_ret
      exact ⟨rfl, rfl⟩
    · go_enter Try.func23, Try.ntmps23
      go_wp2_with fail
      refine (B1.out _).mono ?_
      rintro e w' ⟨rfl, rfl⟩
      go_wp2_with fail
      refine (B2.out _).mono ?_
      rintro e w' ⟨rfl, rfl⟩
      go_wp2_with fail
      refine (B1.out _).mono ?_
      rintro e w' ⟨rfl, rfl⟩
      go_wp2_with fail
      go_ret
      exact ⟨rfl, rfl⟩
    · have h3 : decide (x < y) = false := decide_eq_false (by omega)
      go_enter Try.func23, Try.ntmps23
      go_wp2_with fail
      refine (B1.out _).mono ?_
      rintro e w' ⟨rfl, rfl⟩
      go_wp2_with fail
      refine (B2.out _).mono ?_
      rintro e w' ⟨rfl, rfl⟩
      go_wp2_with fail
      refine (B1.out _).mono ?_
      rintro e w' ⟨rfl, rfl⟩
      go_wp2_with fail
      go_ret
      exact ⟨rfl, rfl⟩
    · go_enter Try.func23, Try.ntmps23
      go_wp2_with fail
      refine (B1.out _).mono ?_
      rintro e w' ⟨rfl, rfl⟩
      go_wp2_with fail
      refine (B2.out _).mono ?_
      rintro e w' ⟨rfl, rfl⟩
      go_wp2_with fail
      refine (B1.out _).mono ?_
      rintro e w' ⟨rfl, rfl⟩
      go_wp2_with fail
      go_ret
      exact ⟨rfl, rfl⟩
    · have h3 : decide (x < y) = false := decide_eq_false (by omega)
      go_enter Try.func23, Try.ntmps23
      go_wp2_with fail
      refine (B1.out _).mono ?_
      rintro e w' ⟨rfl, rfl⟩
      go_wp2_with fail
      refine (B2.out _).mono ?_
      rintro e w' ⟨rfl, rfl⟩
      go_wp2_with fail
      refine (B1.out _).mono ?_
      rintro e w' ⟨rfl, rfl⟩
      go_wp2_with fail
      go_ret
      exact ⟨rfl, rfl⟩
theorem rsame_any (x y : Nat) (hx : x < 18446744073709551616) (hy : y < 18446744073709551616) (w : World) :
    Calls Try.prog 11 #[.float .f64 x, .float .f64 y] w fun e w' => e = .returned (.bool (decide (x = y))) ∧ w = w' := by
  have C1 := Lib.hid (rorder_any x y hx hy)
  have e : decide (x = y) = (ordI x y == 0) := by rw [Bool.eq_iff_iff, same_iff hx hy, decide_eq_true_eq]
  rw [e]
  generalize ordI x y = v at *
  go_enter Try.func11, Try.ntmps11
  go_wp2_with fail
  refine (C1.out _).mono ?_
  rintro e w' ⟨rfl, rfl⟩
  go_wp2_with fail
  go_ret
  exact ⟨rfl, rfl⟩
end Gauge
end Go.Proofs.Yteombmahglbeeaa
