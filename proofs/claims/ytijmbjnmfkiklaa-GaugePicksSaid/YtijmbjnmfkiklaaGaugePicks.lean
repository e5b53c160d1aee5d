/- 'aditlaw16.GaugePicks' returns true at every input and writes nothing that was there: the walk. No condition. -/
import Derived.Test.YtijmbjnmfkiklaaGaugeAlive
namespace Go.Proofs.Ytijmbjnmfkiklaa
namespace GaugePicks
open Go.ChangeShapes Go.WideShapes Go.ChangeAt Go.RowKit
open Num Mem Words Chacha Aead Poly Quiet Fl Gauge

theorem wf64 {x : Nat} (h : (Lit.float .f64 x).wf = true) : x < 18446744073709551616 := by
  have h2 : decide (x < 2 ^ 64) = true := h
  rw [decide_eq_true_eq] at h2
  exact h2
set_option maxRecDepth 100000 in
set_option maxHeartbeats 2000000 in
theorem walk (x y : Nat) (w : World) (h0 : (Lit.float .f64 x).wf = true) (h1 : (Lit.float .f64 y).wf = true) :
    Calls Try.prog 14 #[.float .f64 x, .float .f64 y] w fun e w' => e = .returned (.bool true) ∧ Below w.heap.size w w' := by
  have hx := wf64 h0
  have hy := wf64 h1
  clear h0 h1
  have L := least_any x y hx hy
  have Q := greatest_any x y hx hy
  have L2 := least_any y x hy hx
  have q1 : (FloatKind.f64.format.order x x != some .eq) = !isNum x := by rw [← order_self x]; rfl
  have q2 : (FloatKind.f64.format.order y y != some .eq) = !isNum y := by rw [← order_self y]; rfl
  have hnn := rsame_any NAN NAN nan_lt nan_lt
  rw [decide_eq_true rfl] at hnn
  have NN := Lib.hid hnn
  clear hnn
  have N1 := Lib.hid rnone_any
  rcases hp : isNum x with _ | _
  · rw [hp] at q1
    rw [show least x y = NAN from if_neg (by simp [hp])] at L
    rw [show greatest x y = NAN from if_neg (by simp [hp])] at Q
    have CL := Lib.hid L
    have CQ := Lib.hid Q
    clear L Q L2 q2 hp hx hy
    go_enter Try.func14, Try.ntmps14
    go_wp2_with fail
    refine (CL.out _).mono ?_
    rintro e w' ⟨rfl, rfl⟩
    go_wp2_with fail
    refine (CQ.out _).mono ?_
    rintro e w' ⟨rfl, rfl⟩
    go_wp2_with fail
    refine (alive_any _).mono ?_
    rintro e w1 ⟨rfl, hb⟩
    have KB := Lib.hid hb
    clear hb
    go_wp2_with fail
    refine (N1.out _).mono ?_
    rintro e w' ⟨rfl, rfl⟩
    go_wp2_with fail
    refine (NN.out _).mono ?_
    rintro e w' ⟨rfl, rfl⟩
    go_wp2_with fail
    refine (N1.out _).mono ?_
    rintro e w' ⟨rfl, rfl⟩
    go_wp2_with fail
    refine (NN.out _).mono ?_
    rintro e w' ⟨rfl, rfl⟩
    go_wp2_with fail
    go_ret
    exact ⟨rfl, KB.out⟩
  · rcases hq : isNum y with _ | _
    · rw [hp] at q1
      rw [hq] at q2
      rw [show least x y = NAN from if_neg (by simp [hq])] at L
      rw [show greatest x y = NAN from if_neg (by simp [hq])] at Q
      have CL := Lib.hid L
      have CQ := Lib.hid Q
      clear L Q L2 hp hq hx hy
      go_enter Try.func14, Try.ntmps14
      go_wp2_with fail
      refine (CL.out _).mono ?_
      rintro e w' ⟨rfl, rfl⟩
      go_wp2_with fail
      refine (CQ.out _).mono ?_
      rintro e w' ⟨rfl, rfl⟩
      go_wp2_with fail
      refine (alive_any _).mono ?_
      rintro e w1 ⟨rfl, hb⟩
      have KB := Lib.hid hb
      clear hb
      go_wp2_with fail
      refine (N1.out _).mono ?_
      rintro e w' ⟨rfl, rfl⟩
      go_wp2_with fail
      refine (NN.out _).mono ?_
      rintro e w' ⟨rfl, rfl⟩
      go_wp2_with fail
      refine (N1.out _).mono ?_
      rintro e w' ⟨rfl, rfl⟩
      go_wp2_with fail
      refine (NN.out _).mono ?_
      rintro e w' ⟨rfl, rfl⟩
      go_wp2_with fail
      go_ret
      exact ⟨rfl, KB.out⟩
    · rw [hp] at q1
      rw [hq] at q2
      rw [show least x y = (if place y < place x then y else x) from if_pos ⟨hp, hq⟩] at L
      rw [show greatest x y = (if place x < place y then y else x) from if_pos ⟨hp, hq⟩] at Q
      rw [show least y x = (if place x < place y then x else y) from if_pos ⟨hq, hp⟩] at L2
      have hc := ordI_cases x y
      have hinj := place_inj hx hy
      have hne : ∀ a b : Nat, place a ≠ place b → a ≠ b := fun a b h e => h (by rw [e])
      have Sxx := same_any x x hx hx
      have Syy := same_any y y hy hy
      rw [decide_eq_true rfl] at Sxx Syy
      have S1 := Lib.hid Sxx
      have S2 := Lib.hid Syy
      have S3 := same_any x y hx hy
      have S4 := same_any y x hy hx
      have O1 := order_any x y hx hy
      have O2 := order_any y x hy hx
      clear Sxx Syy hp hq
      rcases hc with ⟨h, e⟩ | ⟨h, e⟩ | ⟨h, e⟩
      · rw [if_neg (by omega)] at L
        rw [if_pos h] at Q
        rw [if_pos h] at L2
        rw [e] at O1
        have CL := Lib.hid L
        have CQ := Lib.hid Q
        have C2 := Lib.hid L2
        have CO := Lib.hid O1
        clear L Q L2 O1 O2 S3 S4 e h hinj hne hx hy
        go_enter Try.func14, Try.ntmps14
        go_wp2_with fail
        refine (CL.out _).mono ?_
        rintro e w' ⟨rfl, rfl⟩
        go_wp2_with fail
        refine (CQ.out _).mono ?_
        rintro e w' ⟨rfl, rfl⟩
        go_wp2_with fail
        refine (S1.out _).mono ?_
        rintro e w' ⟨rfl, rfl⟩
        go_wp2_with fail
        refine (S2.out _).mono ?_
        rintro e w' ⟨rfl, rfl⟩
        go_wp2_with fail
        refine (alive_any _).mono ?_
        rintro e w1 ⟨rfl, hb⟩
        have KB := Lib.hid hb
        clear hb
        go_wp2_with fail
        refine (CO.out _).mono ?_
        rintro e w' ⟨rfl, rfl⟩
        go_wp2_with fail
        refine (C2.out _).mono ?_
        rintro e w' ⟨rfl, rfl⟩
        go_wp2_with fail
        refine (S1.out _).mono ?_
        rintro e w' ⟨rfl, rfl⟩
        go_wp2_with fail
        go_ret
        exact ⟨rfl, KB.out⟩
      · obtain rfl := hinj h
        rw [if_neg (by omega)] at L Q L2
        rw [e] at O1
        have CL := Lib.hid L
        have CQ := Lib.hid Q
        have C2 := Lib.hid L2
        have CO := Lib.hid O1
        clear L Q L2 O1 O2 S3 S4 e h hinj hne hx hy
        go_enter Try.func14, Try.ntmps14
        go_wp2_with fail
        refine (CL.out _).mono ?_
        rintro e w' ⟨rfl, rfl⟩
        go_wp2_with fail
        refine (CQ.out _).mono ?_
        rintro e w' ⟨rfl, rfl⟩
        go_wp2_with fail
        refine (S1.out _).mono ?_
        rintro e w' ⟨rfl, rfl⟩
        go_wp2_with fail
        refine (S1.out _).mono ?_
        rintro e w' ⟨rfl, rfl⟩
        go_wp2_with fail
        refine (alive_any _).mono ?_
        rintro e w1 ⟨rfl, hb⟩
        have KB := Lib.hid hb
        clear hb
        go_wp2_with fail
        refine (CO.out _).mono ?_
        rintro e w' ⟨rfl, rfl⟩
        go_wp2_with fail
        refine (C2.out _).mono ?_
        rintro e w' ⟨rfl, rfl⟩
        go_wp2_with fail
        refine (S1.out _).mono ?_
        rintro e w' ⟨rfl, rfl⟩
        go_wp2_with fail
        go_ret
        exact ⟨rfl, KB.out⟩
      · rw [if_pos h] at L
        rw [if_neg (by omega)] at Q
        rw [if_neg (by omega)] at L2
        have e2 : ordI y x = -1 := by unfold ordI; rw [if_pos h]
        rw [e2] at O2
        rw [decide_eq_false (hne y x (by omega))] at S4
        have CL := Lib.hid L
        have CQ := Lib.hid Q
        have C2 := Lib.hid L2
        have CO := Lib.hid O2
        have S5 := Lib.hid S4
        clear L Q L2 O1 O2 S3 S4 e e2 h hinj hne hx hy
        go_enter Try.func14, Try.ntmps14
        go_wp2_with fail
        refine (CL.out _).mono ?_
        rintro e w' ⟨rfl, rfl⟩
        go_wp2_with fail
        refine (CQ.out _).mono ?_
        rintro e w' ⟨rfl, rfl⟩
        go_wp2_with fail
        refine (S5.out _).mono ?_
        rintro e w' ⟨rfl, rfl⟩
        go_wp2_with fail
        refine (S2.out _).mono ?_
        rintro e w' ⟨rfl, rfl⟩
        go_wp2_with fail
        refine (S1.out _).mono ?_
        rintro e w' ⟨rfl, rfl⟩
        go_wp2_with fail
        refine (alive_any _).mono ?_
        rintro e w1 ⟨rfl, hb⟩
        have KB := Lib.hid hb
        clear hb
        go_wp2_with fail
        refine (CO.out _).mono ?_
        rintro e w' ⟨rfl, rfl⟩
        go_wp2_with fail
        refine (C2.out _).mono ?_
        rintro e w' ⟨rfl, rfl⟩
        go_wp2_with fail
        refine (S2.out _).mono ?_
        rintro e w' ⟨rfl, rfl⟩
        go_wp2_with fail
        go_ret
        exact ⟨rfl, KB.out⟩
end GaugePicks
end Go.Proofs.Ytijmbjnmfkiklaa
