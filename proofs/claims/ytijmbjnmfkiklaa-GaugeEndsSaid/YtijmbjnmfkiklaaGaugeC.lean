/- Package gauge: Rate, and the document's own; pick; what is added to a smooth measure. -/
import Derived.Test.YtijmbjnmfkiklaaGaugeB
import Derived.Test.YtijmbjnmfkiklaaFloOps
namespace Go.Proofs.Ytijmbjnmfkiklaa
namespace Gauge
open Go.ChangeShapes Go.WideShapes Go.ChangeAt Go.RowKit
open Num Mem Fl

set_option maxRecDepth 100000 in
theorem pick_least (x y : Nat) (hx : x < 18446744073709551616) (hy : y < 18446744073709551616) (b : Bool) (w : World) :
    Calls Try.prog 33 #[.float .f64 x, .float .f64 y, .bool b] w fun e w' => e = .returned (.float .f64 (if b then least x y else greatest x y)) ∧ w = w' := by
  have C1 := Lib.hid (rnumber_any x)
  have C2 := Lib.hid (rnumber_any y)
  have C3 := Lib.hid rnone_any
  have C4 := Lib.hid (rorder_any x y hx hy)
  have hc := ordI_cases x y
  have hinj := place_inj hx hy
  generalize ordI x y = v at *
  clear hx hy
  rcases hp : isNum x with _ | _
  · rw [hp] at C1
    rw [show least x y = NAN from if_neg (by simp [hp]), show greatest x y = NAN from if_neg (by simp [hp]), ite_self]
    clear hp hc C4 hinj
    go_enter Try.func33, Try.ntmps33
    go_wp2_with fail
    refine (C1.out _).mono ?_
    rintro e w' ⟨rfl, rfl⟩
    go_wp2_with fail
    refine (C3.out _).mono ?_
    rintro e w' ⟨rfl, rfl⟩
    go_wp2_with fail
    go_ret
    exact ⟨rfl, rfl⟩
  · rcases hq : isNum y with _ | _
    · rw [hp] at C1
      rw [hq] at C2
      rw [show least x y = NAN from if_neg (by simp [hq]), show greatest x y = NAN from if_neg (by simp [hq]), ite_self]
      clear hp hq hc C4 hinj
      go_enter Try.func33, Try.ntmps33
      go_wp2_with fail
      refine (C1.out _).mono ?_
      rintro e w' ⟨rfl, rfl⟩
      go_wp2_with fail
      refine (C2.out _).mono ?_
      rintro e w' ⟨rfl, rfl⟩
      go_wp2_with fail
      refine (C3.out _).mono ?_
      rintro e w' ⟨rfl, rfl⟩
      go_wp2_with fail
      go_ret
      exact ⟨rfl, rfl⟩
    · rw [hp] at C1
      rw [hq] at C2
      rw [show least x y = (if place y < place x then y else x) from if_pos ⟨hp, hq⟩, show greatest x y = (if place x < place y then y else x) from if_pos ⟨hp, hq⟩]
      clear hp hq C3
      have key : ∃ z, (if b then (if place y < place x then y else x) else if place x < place y then y else x) = z ∧ (v = -1 ∧ (b = true ∧ z = x ∨ b = false ∧ z = y) ∨ (v = 0 ∨ v = 1) ∧ (b = true ∧ z = y ∨ b = false ∧ z = x)) := by
        rcases hc with ⟨h, rfl⟩ | ⟨h, rfl⟩ | ⟨h, rfl⟩
        · refine ⟨_, rfl, .inl ⟨rfl, ?_⟩⟩
          cases b
          · exact .inr ⟨rfl, by rw [if_neg (by simp), if_pos h]⟩
          · exact .inl ⟨rfl, by rw [if_pos rfl, if_neg (by omega)]⟩
        · obtain rfl := hinj h
          exact ⟨x, by simp, .inr ⟨.inl rfl, by cases b <;> simp⟩⟩
        · refine ⟨_, rfl, .inr ⟨.inr rfl, ?_⟩⟩
          cases b
          · exact .inr ⟨rfl, by rw [if_neg (by simp), if_neg (by omega)]⟩
          · exact .inl ⟨rfl, by rw [if_pos rfl, if_pos h]⟩
      obtain ⟨z, hz, hk⟩ := key
      rw [hz]
      clear hz hc hinj
      rcases hk with ⟨rfl, ⟨rfl, rfl⟩ | ⟨rfl, rfl⟩⟩ | ⟨rfl | rfl, ⟨rfl, rfl⟩ | ⟨rfl, rfl⟩⟩
      all_goals
        go_enter Try.func33, Try.ntmps33
        go_wp2_with fail
        refine (C1.out _).mono ?_
        rintro e w' ⟨rfl, rfl⟩
        go_wp2_with fail
        refine (C2.out _).mono ?_
        rintro e w' ⟨rfl, rfl⟩
        go_wp2_with fail
        refine (C4.out _).mono ?_
        rintro e w' ⟨rfl, rfl⟩
        go_wp2_with fail
        go_ret
        exact ⟨rfl, rfl⟩

theorem fop {x y r : Nat} (op : BinOp) (t : TypeId) (h : floatBits op .f64 x y = some r) : ∀ w, (binOp op t (.float .f64 x) (.float .f64 y)).run Try.prog w = .ok (.float .f64 r) w := fun w => run_float_arith w op t .f64 x y r h
theorem finf (w : World) : (callFunc 62 #[.int .u64 9218868437227405312]).run Try.prog w = .ok (.value (.float .f64 9218868437227405312)) w := ffrom 9218868437227405312 w
set_option maxRecDepth 100000 in
theorem inf_any (w : World) : Calls Try.prog 54 #[.int .i64 1] w fun e w' => e = .returned (.float .f64 9218868437227405312) ∧ w = w' := by
  have h := finf
  go_enter Try.func54, Try.ntmps54
  go_wp2
  go_ret
  exact ⟨rfl, rfl⟩

/-- both rates -/
def Rates (n : Nat) (ms : Int) : Prop := ∃ (r : Nat) (e : Int), r < 18446744073709551616 ∧
  (∀ w, Calls Try.prog 35 #[.int .u64 (n : Nat), .int .i64 ms] w fun x w' => x = .returned (.tuple #[.float .f64 r, .int .i64 e]) ∧ w = w') ∧
  (∀ w, Calls Try.prog 36 #[.int .u64 (n : Nat), .int .i64 ms] w fun x w' => x = .returned (.tuple #[.float .f64 r, .int .i64 e]) ∧ w = w')
set_option maxRecDepth 100000 in
theorem rate_neg (n : Nat) (ms : Int) (h : ms < 0) : Rates n ms := by
  refine ⟨0, 1, by decide, ?_, ?_⟩
  · intro w
    go_enter Try.func35, Try.ntmps35
    go_wp2_with fail
    go_ret2
    exact ⟨rfl, rfl⟩
  · intro w
    go_enter Try.func36, Try.ntmps36
    go_wp2_with fail
    go_ret2
    exact ⟨rfl, rfl⟩
set_option maxRecDepth 100000 in
theorem rate_none : Rates 0 0 := by
  have C1 := Lib.hid none_any
  have C2 := Lib.hid rnone_any
  refine ⟨NAN, 0, nan_lt, ?_, ?_⟩
  · intro w
    go_enter Try.func35, Try.ntmps35
    go_wp2_with fail
    refine (C1.out _).mono ?_
    rintro e w' ⟨rfl, rfl⟩
    go_wp2_with fail
    go_ret2
    exact ⟨rfl, rfl⟩
  · intro w
    go_enter Try.func36, Try.ntmps36
    go_wp2_with fail
    refine (C2.out _).mono ?_
    rintro e w' ⟨rfl, rfl⟩
    go_wp2_with fail
    go_ret2
    exact ⟨rfl, rfl⟩
set_option maxRecDepth 100000 in
theorem rate_inf (n : Nat) (h : 0 < n) : Rates n 0 := by
  have C1 := Lib.hid inf_any
  have hf := finf
  have h1 : ((n : Int) == 0) = false := by rw [beq_eq_false_iff_ne]; omega
  have h2 : ((n : Int) = 0) = False := eq_false (by omega)
  refine ⟨9218868437227405312, 0, by decide, ?_, ?_⟩
  · intro w
    go_enter Try.func35, Try.ntmps35
    go_wp2_with fail
    refine (C1.out _).mono ?_
    rintro e w' ⟨rfl, rfl⟩
    go_wp2_with fail
    go_ret2
    exact ⟨rfl, rfl⟩
  · intro w
    go_enter Try.func36, Try.ntmps36
    go_wp2_with fail
    go_ret2
    exact ⟨rfl, rfl⟩
set_option maxRecDepth 100000 in
theorem rate_some (n : Nat) (ms : Int) (h : 0 < ms) (hb : ms < 9223372036854775808) : Rates n ms := by
  have h1 : (ms == 0) = false := by rw [beq_eq_false_iff_ne]; omega
  have h2 : (ms = 0) = False := eq_false (by omega)
  have h3 : ¬ ms < 0 := by omega
  have h4 : decide (ms < 0) = false := decide_eq_false h3
  have hn : isNum (floatOfInt .f64 (n : Int)) = true := by
    show isNum (Ieee.double.write (.number (decide ((n : Int) < 0)) (n : Int).natAbs 0)) = true
    exact (write_num _ _ _).1
  have hm := int_pos ms.toNat (by omega) (by omega)
  have he : floatOfInt .f64 ms = Ieee.double.write (.number false ms.toNat 0) := by
    show Ieee.double.write (.number (decide (ms < 0)) ms.natAbs 0) = _
    rw [h4, show ms.natAbs = ms.toNat by omega]
  rw [← he] at hm
  obtain ⟨p, hp, hpn, _⟩ := mul_some hn (show counts 4652007308841189376 = true by decide) (show rung 4652007308841189376 ≠ 0 by decide)
  obtain ⟨r, hr, _, hrl⟩ := div_some hpn hm.1 hm.2
  have F1 := fop .mul 43 (show floatBits .mul .f64 (floatOfInt .f64 (n : Int)) 4652007308841189376 = some p from hp)
  have F2 := fop .quo 43 (show floatBits .quo .f64 p (floatOfInt .f64 ms) = some r from hr)
  clear hn hm he hp hpn hr
  have hz : ((n : Int) == 0) = true ∧ ((n : Int) = 0) = True ∨ ((n : Int) == 0) = false ∧ ((n : Int) = 0) = False := by
    by_cases c : (n : Int) = 0
    · exact .inl ⟨by rw [beq_iff_eq]; exact c, eq_true c⟩
    · exact .inr ⟨by rw [beq_eq_false_iff_ne]; exact c, eq_false c⟩
  rcases hz with ⟨h5, h6⟩ | ⟨h5, h6⟩
  all_goals
    refine ⟨r, 0, hrl, ?_, ?_⟩
    · intro w
      go_enter Try.func35, Try.ntmps35
      go_wp2_with fail
      go_ret2
      exact ⟨rfl, rfl⟩
    · intro w
      go_enter Try.func36, Try.ntmps36
      go_wp2_with fail
      go_ret2
      exact ⟨rfl, rfl⟩
theorem rates_any (n : Nat) (ms : Int) (hb : ms < 9223372036854775808) : Rates n ms := by
  rcases Int.lt_trichotomy ms 0 with h | rfl | h
  · exact rate_neg n ms h
  · rcases Nat.eq_zero_or_pos n with rfl | h
    · exact rate_none
    · exact rate_inf n h
  · exact rate_some n ms h hb
end Gauge
end Go.Proofs.Ytijmbjnmfkiklaa
