/- Package gauge: what its calls on single measures answer, as plain arithmetic of the digits. -/
import Derived.Test.YteombmahglbeeaaGaugeNum
import Derived.Laws.Externs
namespace Go.Proofs.Yteombmahglbeeaa
namespace Gauge
open Go.ChangeShapes Go.WideShapes Go.ChangeAt Go.RowKit
open Num Mem Fl

theorem fbits (b : Nat) (w : World) : (callFunc 29 #[.float .f64 b]).run Try.prog w = .ok (.value (.int .u64 b)) w := by
  rw [run_callFunc_extern Try.func29 (by kernel_rfl) (by kernel_rfl) (by kernel_rfl) (e := Extern.MathFloatBits.float64bits) (by kernel_rfl)]
  rfl
theorem ffrom (b : Nat) (w : World) : (callFunc 28 #[.int .u64 (b : Nat)]).run Try.prog w = .ok (.value (.float .f64 b)) w := by
  rw [run_callFunc_extern Try.func28 (by kernel_rfl) (by kernel_rfl) (by kernel_rfl) (e := Extern.MathFloatBits.float64frombits) (by kernel_rfl)]
  rfl
theorem ret_int {k : IntKind} {a b : Int} (h : a = b) : Ending.returned (.int k a) = .returned (.int k b) := by rw [h]
theorem ret_bool {a b : Bool} (h : a = b) : Ending.returned (.bool a) = .returned (.bool b) := by rw [h]

set_option maxRecDepth 100000 in
theorem place_any (x : Nat) (hx : x < 18446744073709551616) (w : World) :
    Calls Try.prog 27 #[.float .f64 x] w fun e w' => e = .returned (.int .u64 (place x : Nat)) ∧ w = w' := by
  have hb := fbits x
  have ha := and63 x hx
  by_cases h : x < 9223372036854775808
  · rw [if_pos h] at ha
    have ho := or63 x h
    rw [show place x = x + 9223372036854775808 from if_pos h]
    generalize x + 9223372036854775808 = y at *
    clear h hx
    go_enter Try.func27, Try.ntmps27
    go_wp2
    go_ret
    exact ⟨rfl, rfl⟩
  · rw [if_neg h] at ha
    have hp : place x = 18446744073709551615 - x := if_neg h
    have hp1 : ((place x : Nat) : Int) = 18446744073709551615 - (x : Int) := by omega
    have hn := not64 x hx
    rw [← hp1] at hn
    generalize place x = y at *
    clear h hx hp hp1
    go_enter Try.func27, Try.ntmps27
    go_wp2
    go_ret
    exact ⟨rfl, rfl⟩

theorem isnan_u64 (a : Int) (w : World) : Calls Try.prog 42 #[.int .u64 a] w fun e w' => e = .returned (.bool false) ∧ w = w' := by
  have h : (a != a) = false := bne_self_eq_false _
  go_enter Try.func42, Try.ntmps42
  go_wp2
  go_ret
  exact ⟨ret_bool (by simp), rfl⟩
set_option maxRecDepth 100000 in
theorem compare_any (a b : Nat) (v : Int) (hv : a < b ∧ v = -1 ∨ a = b ∧ v = 0 ∨ b < a ∧ v = 1) (w : World) :
    Calls Try.prog 26 #[.int .u64 (a : Nat), .int .u64 (b : Nat)] w fun e w' => e = .returned (.int .i64 v) ∧ w = w' := by
  rcases hv with ⟨h, rfl⟩ | ⟨h, rfl⟩ | ⟨h, rfl⟩
  · go_enter Try.func26, Try.ntmps26
    go_wp2_with (refine (isnan_u64 _ _).mono ?_; rintro e w' ⟨rfl, rfl⟩)
    go_ret
    exact ⟨rfl, rfl⟩
  · subst h
    have h1 : ¬ (a < a) := Nat.lt_irrefl _
    go_enter Try.func26, Try.ntmps26
    go_wp2_with (refine (isnan_u64 _ _).mono ?_; rintro e w' ⟨rfl, rfl⟩)
    go_ret
    exact ⟨rfl, rfl⟩
  · have h1 : ¬ (a < b) := by omega
    have h2 : decide (a < b) = false := decide_eq_false h1
    go_enter Try.func26, Try.ntmps26
    go_wp2_with (refine (isnan_u64 _ _).mono ?_; rintro e w' ⟨rfl, rfl⟩)
    go_ret
    exact ⟨rfl, rfl⟩
set_option maxRecDepth 100000 in
theorem order_any (x y : Nat) (hx : x < 18446744073709551616) (hy : y < 18446744073709551616) (w : World) :
    Calls Try.prog 14 #[.float .f64 x, .float .f64 y] w fun e w' => e = .returned (.int .i64 (ordI x y)) ∧ w = w' := by
  have C1 := Lib.hid (place_any x hx)
  have C2 := Lib.hid (place_any y hy)
  have C3 := Lib.hid (compare_any (place x) (place y) (ordI x y) (ordI_cases x y))
  generalize ordI x y = v at *
  generalize place x = a at *
  generalize place y = b at *
  go_enter Try.func14, Try.ntmps14
  go_wp2_with fail
  refine (C1.out _).mono ?_
  rintro e w' ⟨rfl, rfl⟩
  go_wp2_with fail
  refine (C2.out _).mono ?_
  rintro e w' ⟨rfl, rfl⟩
  go_wp2_with fail
  refine (C3.out _).mono ?_
  rintro e w' ⟨rfl, rfl⟩
  go_wp2_with fail
  go_ret
  exact ⟨rfl, rfl⟩
theorem same_iff {x y : Nat} (hx : x < 18446744073709551616) (hy : y < 18446744073709551616) : ((ordI x y == 0) = true) ↔ x = y := by
  rw [beq_iff_eq]
  rcases ordI_cases x y with ⟨h, e⟩ | ⟨h, e⟩ | ⟨h, e⟩
  · rw [e]; constructor
    · intro h; cases h
    · rintro rfl; omega
  · rw [e]; exact ⟨fun _ => place_inj hx hy h, fun _ => rfl⟩
  · rw [e]; constructor
    · intro h; cases h
    · rintro rfl; omega
set_option maxRecDepth 100000 in
theorem same_any (x y : Nat) (hx : x < 18446744073709551616) (hy : y < 18446744073709551616) (w : World) :
    Calls Try.prog 13 #[.float .f64 x, .float .f64 y] w fun e w' => e = .returned (.bool (decide (x = y))) ∧ w = w' := by
  have C1 := Lib.hid (order_any x y hx hy)
  have e : decide (x = y) = (ordI x y == 0) := by rw [Bool.eq_iff_iff, same_iff hx hy, decide_eq_true_eq]
  rw [e]
  generalize ordI x y = v at *
  go_enter Try.func13, Try.ntmps13
  go_wp2_with fail
  refine (C1.out _).mono ?_
  rintro e w' ⟨rfl, rfl⟩
  go_wp2_with fail
  go_ret
  exact ⟨rfl, rfl⟩
set_option maxRecDepth 100000 in
theorem isNaN_any (x : Nat) (w : World) : Calls Try.prog 24 #[.float .f64 x] w fun e w' => e = .returned (.bool (!isNum x)) ∧ w = w' := by
  have h : (FloatKind.f64.format.order x x != some .eq) = !isNum x := by
    rw [← order_self x]; rfl
  go_enter Try.func24, Try.ntmps24
  go_wp2
  go_ret
  exact ⟨rfl, rfl⟩
set_option maxRecDepth 100000 in
theorem abs_any (x : Nat) (hx : x < 18446744073709551616) (w : World) : Calls Try.prog 41 #[.float .f64 x] w fun e w' => e = .returned (.float .f64 (x % 9223372036854775808)) ∧ w = w' := by
  have hb := fbits x
  have ha := andnot63 x hx
  generalize x % 9223372036854775808 = y at *
  have hc := ffrom y
  go_enter Try.func41, Try.ntmps41
  go_wp2
  go_ret
  exact ⟨rfl, rfl⟩
set_option maxRecDepth 100000 in
theorem isInf_any (x : Nat) (hx : x < 18446744073709551616) (hn : isNum x = true) (w : World) : Calls Try.prog 25 #[.float .f64 x, .int .i64 0] w fun e w' => e = .returned (.bool (!counts x)) ∧ w = w' := by
  have C := Lib.hid (abs_any x hx)
  have h : (FloatKind.f64.format.order (x % 9223372036854775808) 9218868437227405311 == some .gt) = !counts x := over_max x hn
  rw [← h]
  clear h
  generalize x % 9223372036854775808 = y at *
  go_enter Try.func25, Try.ntmps25
  go_wp2_with fail
  refine (C.out _).mono ?_
  rintro e w' ⟨rfl, rfl⟩
  go_wp2_with fail
  go_ret
  exact ⟨rfl, rfl⟩
set_option maxRecDepth 100000 in
theorem counts_any (x : Nat) (hx : x < 18446744073709551616) (w : World) : Calls Try.prog 12 #[.float .f64 x] w fun e w' => e = .returned (.bool (counts x)) ∧ w = w' := by
  have C1 := Lib.hid (isNaN_any x)
  rcases hn : isNum x with _ | _
  · rw [hn] at C1
    have hc : counts x = false := by
      rcases h : counts x with _ | _
      · rfl
      · rw [counts_num h] at hn; cases hn
    rw [hc]
    clear hn hc
    go_enter Try.func12, Try.ntmps12
    go_wp2_with fail
    refine (C1.out _).mono ?_
    rintro e w' ⟨rfl, rfl⟩
    go_wp2_with fail
    go_ret
    exact ⟨rfl, rfl⟩
  · have C2 := Lib.hid (isInf_any x hx hn)
    rw [hn] at C1
    clear hn
    generalize counts x = c at *
    go_enter Try.func12, Try.ntmps12
    go_wp2_with fail
    refine (C1.out _).mono ?_
    rintro e w' ⟨rfl, rfl⟩
    go_wp2_with fail
    refine (C2.out _).mono ?_
    rintro e w' ⟨rfl, rfl⟩
    go_wp2_with fail
    go_ret
    exact ⟨ret_bool (by simp), rfl⟩
end Gauge
end Go.Proofs.Yteombmahglbeeaa
