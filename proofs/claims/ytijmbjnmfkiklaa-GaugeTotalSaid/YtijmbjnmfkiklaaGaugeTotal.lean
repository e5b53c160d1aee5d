/- 'aditlaw16.GaugeTotal' returns true at every input and writes nothing that was there: the walk. No condition. -/
import Derived.Test.YtijmbjnmfkiklaaGaugeAlive
namespace Go.Proofs.Ytijmbjnmfkiklaa
namespace GaugeTotal
open Go.ChangeShapes Go.WideShapes Go.ChangeAt Go.RowKit
open Num Mem Words Chacha Aead Poly Quiet Fl Gauge

theorem wf64 {x : Nat} (h : (Lit.float .f64 x).wf = true) : x < 18446744073709551616 := by
  have h2 : decide (x < 2 ^ 64) = true := h
  rw [decide_eq_true_eq] at h2
  exact h2
set_option maxRecDepth 100000 in
set_option maxHeartbeats 2000000 in
theorem walk (x y z : Nat) (w : World) (h0 : (Lit.float .f64 x).wf = true) (h1 : (Lit.float .f64 y).wf = true) (h2 : (Lit.float .f64 z).wf = true) :
    Calls Try.prog 12 #[.float .f64 x, .float .f64 y, .float .f64 z] w fun e w' => e = .returned (.bool true) ∧ Below w.heap.size w w' := by
  have hx := wf64 h0
  have hy := wf64 h1
  have hz := wf64 h2
  clear h0 h1 h2
  have O1 := Lib.hid (order_any x y hx hy)
  have O2 := Lib.hid (order_any y z hy hz)
  have O3 := Lib.hid (order_any x z hx hz)
  have O4 := Lib.hid (order_any y x hy hx)
  have O5 := order_any x x hx hx
  rw [show ordI x x = 0 by unfold ordI; simp] at O5
  have O6 := Lib.hid O5
  clear O5
  have c1 := ordI_cases x y
  have c2 := ordI_cases y z
  have c3 := ordI_cases x z
  have c4 := ordI_cases y x
  have hlt : (FloatKind.f64.format.order x y == some .lt) = true → ordI x y = -1 := by
    intro h
    have hh : Ieee.double.order x y = some .lt := eq_of_beq h
    have hn : isNum x = true ∧ isNum y = true := by
      rcases hp : isNum x with _ | _
      · rw [order_nan (.inl hp)] at hh; cases hh
      · rcases hq : isNum y with _ | _
        · rw [order_nan (.inr hq)] at hh; cases hh
        · exact ⟨rfl, rfl⟩
    rw [order_pos hn.1 hn.2] at hh
    injection hh with hh
    have hp : pos x < pos y := by
      simp only [compare, compareOfLessAndEq] at hh
      split at hh
      · assumption
      · split at hh <;> cases hh
    have := Fl.ahead hn.1 hn.2 hx hy hp
    omega
  have hgt : (FloatKind.f64.format.order x y == some .gt) = true → ordI x y = 1 := by
    intro h
    have hh : Ieee.double.order x y = some .gt := eq_of_beq h
    have hn : isNum x = true ∧ isNum y = true := by
      rcases hp : isNum x with _ | _
      · rw [order_nan (.inl hp)] at hh; cases hh
      · rcases hq : isNum y with _ | _
        · rw [order_nan (.inr hq)] at hh; cases hh
        · exact ⟨rfl, rfl⟩
    rw [order_pos hn.1 hn.2] at hh
    injection hh with hh
    have hp : pos y < pos x := by
      simp only [compare, compareOfLessAndEq] at hh
      split at hh
      · cases hh
      · split at hh
        · cases hh
        · omega
    have := Fl.ahead hn.2 hn.1 hy hx hp
    omega
  have heq : (ordI x y == 0) = ((x : Int) == (y : Int)) := by
    rw [Bool.eq_iff_iff, same_iff hx hy, beq_iff_eq]
    omega
  have hb1 := fbits x
  have hb2 := fbits y
  have f1 : ordI x y = - ordI y x := by omega
  have f2 : ordI x y < 0 → ordI y z < 0 → ordI x z < 0 := by omega
  have f3 : ordI x y = 0 → ordI x z = ordI y z := by
    intro h
    have : x = y := (same_iff hx hy).1 (by rw [h]; rfl)
    rw [this]
  have f4 := ordI_cases y x
  have bx : -1 ≤ ordI y x ∧ ordI y x ≤ 1 := by omega
  have by1 : -1 ≤ ordI y z ∧ ordI y z ≤ 1 := by omega
  have bz1 : -1 ≤ ordI x z ∧ ordI x z ≤ 1 := by omega
  generalize ordI x y = p at *
  generalize ordI y z = q at *
  generalize ordI x z = r at *
  generalize ordI y x = s at *
  obtain ⟨tl, hTL⟩ : ∃ tl, (FloatKind.f64.format.order x y == some .lt) = tl := ⟨_, rfl⟩
  obtain ⟨tg, hTG⟩ : ∃ tg, (FloatKind.f64.format.order x y == some .gt) = tg := ⟨_, rfl⟩
  rw [hTL] at hlt
  rw [hTG] at hgt
  have CA := Lib.hid alive_any
  clear c1 c2 c3 c4 f4 hx hy hz
  have hp : p = -1 ∨ p = 0 ∨ p = 1 := by omega
  rcases hp with rfl | rfl | rfl
  · have hs : s = 1 := by omega
    subst hs
    have hg : tg = false := by cases tg; rfl; exact absurd (hgt rfl) (by omega)
    subst hg
    have e0 : ((x : Int) == (y : Int)) = false := heq.symm
    have e1 : ((x : Int) = (y : Int)) = False := eq_false (by simpa using e0)
    clear heq
    by_cases hq : q < 0
    · have hr : r < 0 := f2 (by omega) hq
      have hr2 : ¬ (0 ≤ r) := by omega
      have hr3 : decide (0 ≤ r) = false := decide_eq_false hr2
      rcases tl with _ | _
      · clear bx by1 bz1 f1 f2 f3 hlt hgt
        go_enter Try.func12, Try.ntmps12
        go_wp2_with fail
        refine (O1.out _).mono ?_
        rintro e w' ⟨rfl, rfl⟩
        go_wp2_with fail
        refine (O2.out _).mono ?_
        rintro e w' ⟨rfl, rfl⟩
        go_wp2_with fail
        refine (O3.out _).mono ?_
        rintro e w' ⟨rfl, rfl⟩
        go_wp2_with fail
        refine (O4.out _).mono ?_
        rintro e w' ⟨rfl, rfl⟩
        go_wp2_with fail
        refine (O6.out _).mono ?_
        rintro e w' ⟨rfl, rfl⟩
        go_wp2_with fail
        refine (alive_any _).mono ?_
        rintro e w1 ⟨rfl, hb⟩
        have KB := Lib.hid hb
        clear hb
        go_wp2_with fail
        go_ret
        exact ⟨rfl, KB.out⟩
      · clear bx by1 bz1 f1 f2 f3 hlt hgt
        go_enter Try.func12, Try.ntmps12
        go_wp2_with fail
        refine (O1.out _).mono ?_
        rintro e w' ⟨rfl, rfl⟩
        go_wp2_with fail
        refine (O2.out _).mono ?_
        rintro e w' ⟨rfl, rfl⟩
        go_wp2_with fail
        refine (O3.out _).mono ?_
        rintro e w' ⟨rfl, rfl⟩
        go_wp2_with fail
        refine (O4.out _).mono ?_
        rintro e w' ⟨rfl, rfl⟩
        go_wp2_with fail
        refine (O6.out _).mono ?_
        rintro e w' ⟨rfl, rfl⟩
        go_wp2_with fail
        refine (alive_any _).mono ?_
        rintro e w1 ⟨rfl, hb⟩
        have KB := Lib.hid hb
        clear hb
        go_wp2_with fail
        go_ret
        exact ⟨rfl, KB.out⟩
    · have hq2 : decide (q < 0) = false := decide_eq_false hq
      rcases tl with _ | _
      · clear bx by1 bz1 f1 f2 f3 hlt hgt
        go_enter Try.func12, Try.ntmps12
        go_wp2_with fail
        refine (O1.out _).mono ?_
        rintro e w' ⟨rfl, rfl⟩
        go_wp2_with fail
        refine (O2.out _).mono ?_
        rintro e w' ⟨rfl, rfl⟩
        go_wp2_with fail
        refine (O3.out _).mono ?_
        rintro e w' ⟨rfl, rfl⟩
        go_wp2_with fail
        refine (O4.out _).mono ?_
        rintro e w' ⟨rfl, rfl⟩
        go_wp2_with fail
        refine (O6.out _).mono ?_
        rintro e w' ⟨rfl, rfl⟩
        go_wp2_with fail
        refine (alive_any _).mono ?_
        rintro e w1 ⟨rfl, hb⟩
        have KB := Lib.hid hb
        clear hb
        go_wp2_with fail
        go_ret
        exact ⟨rfl, KB.out⟩
      · clear bx by1 bz1 f1 f2 f3 hlt hgt
        go_enter Try.func12, Try.ntmps12
        go_wp2_with fail
        refine (O1.out _).mono ?_
        rintro e w' ⟨rfl, rfl⟩
        go_wp2_with fail
        refine (O2.out _).mono ?_
        rintro e w' ⟨rfl, rfl⟩
        go_wp2_with fail
        refine (O3.out _).mono ?_
        rintro e w' ⟨rfl, rfl⟩
        go_wp2_with fail
        refine (O4.out _).mono ?_
        rintro e w' ⟨rfl, rfl⟩
        go_wp2_with fail
        refine (O6.out _).mono ?_
        rintro e w' ⟨rfl, rfl⟩
        go_wp2_with fail
        refine (alive_any _).mono ?_
        rintro e w1 ⟨rfl, hb⟩
        have KB := Lib.hid hb
        clear hb
        go_wp2_with fail
        go_ret
        exact ⟨rfl, KB.out⟩
  · have hs : s = 0 := by omega
    subst hs
    have hg : tg = false := by cases tg; rfl; exact absurd (hgt rfl) (by omega)
    have hl : tl = false := by cases tl; rfl; exact absurd (hlt rfl) (by omega)
    subst hg hl
    have e0 : ((x : Int) == (y : Int)) = true := heq.symm
    have e1 : ((x : Int) = (y : Int)) = True := eq_true (by simpa using e0)
    have hr : r = q := f3 rfl
    subst hr
    have hqq : (r != r) = false := by simp
    clear heq bx by1 bz1 f1 f2 f3 hlt hgt
    go_enter Try.func12, Try.ntmps12
    go_wp2_with fail
    refine (O1.out _).mono ?_
    rintro e w' ⟨rfl, rfl⟩
    go_wp2_with fail
    refine (O2.out _).mono ?_
    rintro e w' ⟨rfl, rfl⟩
    go_wp2_with fail
    refine (O3.out _).mono ?_
    rintro e w' ⟨rfl, rfl⟩
    go_wp2_with fail
    refine (O4.out _).mono ?_
    rintro e w' ⟨rfl, rfl⟩
    go_wp2_with fail
    refine (O6.out _).mono ?_
    rintro e w' ⟨rfl, rfl⟩
    go_wp2_with fail
    refine (alive_any _).mono ?_
    rintro e w1 ⟨rfl, hb⟩
    have KB := Lib.hid hb
    clear hb
    go_wp2_with fail
    go_ret
    exact ⟨rfl, KB.out⟩
  · have hs : s = -1 := by omega
    subst hs
    have hl : tl = false := by cases tl; rfl; exact absurd (hlt rfl) (by omega)
    subst hl
    have e0 : ((x : Int) == (y : Int)) = false := heq.symm
    have e1 : ((x : Int) = (y : Int)) = False := eq_false (by simpa using e0)
    clear heq
    rcases tg with _ | _
    · clear bx by1 bz1 f1 f2 f3 hlt hgt
      go_enter Try.func12, Try.ntmps12
      go_wp2_with fail
      refine (O1.out _).mono ?_
      rintro e w' ⟨rfl, rfl⟩
      go_wp2_with fail
      refine (O2.out _).mono ?_
      rintro e w' ⟨rfl, rfl⟩
      go_wp2_with fail
      refine (O3.out _).mono ?_
      rintro e w' ⟨rfl, rfl⟩
      go_wp2_with fail
      refine (O4.out _).mono ?_
      rintro e w' ⟨rfl, rfl⟩
      go_wp2_with fail
      refine (O6.out _).mono ?_
      rintro e w' ⟨rfl, rfl⟩
      go_wp2_with fail
      refine (alive_any _).mono ?_
      rintro e w1 ⟨rfl, hb⟩
      have KB := Lib.hid hb
      clear hb
      go_wp2_with fail
      go_ret
      exact ⟨rfl, KB.out⟩
    · clear bx by1 bz1 f1 f2 f3 hlt hgt
      go_enter Try.func12, Try.ntmps12
      go_wp2_with fail
      refine (O1.out _).mono ?_
      rintro e w' ⟨rfl, rfl⟩
      go_wp2_with fail
      refine (O2.out _).mono ?_
      rintro e w' ⟨rfl, rfl⟩
      go_wp2_with fail
      refine (O3.out _).mono ?_
      rintro e w' ⟨rfl, rfl⟩
      go_wp2_with fail
      refine (O4.out _).mono ?_
      rintro e w' ⟨rfl, rfl⟩
      go_wp2_with fail
      refine (O6.out _).mono ?_
      rintro e w' ⟨rfl, rfl⟩
      go_wp2_with fail
      refine (alive_any _).mono ?_
      rintro e w1 ⟨rfl, hb⟩
      have KB := Lib.hid hb
      clear hb
      go_wp2_with fail
      go_ret
      exact ⟨rfl, KB.out⟩
end GaugeTotal
end Go.Proofs.Ytijmbjnmfkiklaa
