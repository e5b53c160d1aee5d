/- Times: the calls Right and Span of package stamp. Out of layer 9's texts (mkspan.py). -/
import Derived.Test.YtgbahkkccpcadaaKit
import Derived.WalkMore
namespace Go.Proofs.Ytgbahkkccpcadaa
namespace Stamp
open Go.ChangeShapes Go.WideShapes Go.ChangeAt Go.RowKit
open Num Mem Words Chacha Aead

def spanV (s t : Int) : Int := if right s ∧ right t ∧ s ≤ t then t - s else 0

def spanE (s t : Int) : Int := if right s ∧ right t ∧ s ≤ t then 0 else 1

set_option maxRecDepth 100000 in
theorem right_any (t : Int) (b : Bool) (hb : b = true ↔ right t) (w : World) : Calls Try.prog 21 #[.int .i64 t] w fun e w' => e = .returned (.bool b) ∧ w = w' := by
  by_cases h1 : 0 ≤ t
  · have d1 : decide (0 ≤ t) = true := decide_eq_true h1
    by_cases h2 : t ≤ 1099511627776
    · have d2 : decide (t ≤ 1099511627776) = true := decide_eq_true h2
      obtain rfl : b = true := hb.2 ⟨h1, h2⟩
      clear hb
      go_enter Try.func21, Try.ntmps21
      go_wp2_with fail
      go_ret
      exact ⟨rfl, rfl⟩
    · have d2 : decide (t ≤ 1099511627776) = false := decide_eq_false h2
      obtain rfl : b = false := by
        rcases b with _ | _
        · rfl
        · exact absurd (hb.1 rfl).2 h2
      clear hb
      go_enter Try.func21, Try.ntmps21
      go_wp2_with fail
      go_ret
      exact ⟨rfl, rfl⟩
  · have d1 : decide (0 ≤ t) = false := decide_eq_false h1
    obtain rfl : b = false := by
      rcases b with _ | _
      · rfl
      · exact absurd (hb.1 rfl).1 h1
    clear hb
    go_enter Try.func21, Try.ntmps21
    go_wp2_with fail
    go_ret
    exact ⟨rfl, rfl⟩

set_option maxRecDepth 100000 in
theorem span_any (s t : Int) (w : World) : Calls Try.prog 29 #[.int .i64 s, .int .i64 t] w fun e w' => e = .returned (.tuple #[.int .i64 (spanV s t), .int .i64 (spanE s t)]) ∧ w = w' := by
  have HV := Lib.hid (show spanV s t = if right s ∧ right t ∧ s ≤ t then t - s else 0 from rfl)
  have HE := Lib.hid (show spanE s t = if right s ∧ right t ∧ s ≤ t then 0 else 1 from rfl)
  go_enter Try.func29, Try.ntmps29
  by_cases h1 : right s
  · by_cases h2 : right t
    · have b1 := h1.1
      have b2 := h1.2
      have b3 := h2.1
      have b4 := h2.2
      by_cases h3 : s ≤ t
      · have d : decide (t < s) = false := decide_eq_false (by omega)
        go_wp2_with fail
        refine (right_any s true ⟨fun _ => h1, fun _ => rfl⟩ _).mono ?_
        rintro e w1 ⟨rfl, rfl⟩
        go_wp2_with fail
        refine (right_any t true ⟨fun _ => h2, fun _ => rfl⟩ _).mono ?_
        rintro e w1 ⟨rfl, rfl⟩
        go_wp2_with fail
        go_ret2
        exact ⟨by rw [HV.out, HE.out, if_pos ⟨h1, h2, h3⟩, if_pos ⟨h1, h2, h3⟩]; rfl, rfl⟩
      · have d : decide (t < s) = true := decide_eq_true (by omega)
        go_wp2_with fail
        refine (right_any s true ⟨fun _ => h1, fun _ => rfl⟩ _).mono ?_
        rintro e w1 ⟨rfl, rfl⟩
        go_wp2_with fail
        refine (right_any t true ⟨fun _ => h2, fun _ => rfl⟩ _).mono ?_
        rintro e w1 ⟨rfl, rfl⟩
        go_wp2_with fail
        go_ret2
        exact ⟨by rw [HV.out, HE.out, if_neg (fun h => absurd h.2.2 (by omega)), if_neg (fun h => absurd h.2.2 (by omega))]; rfl, rfl⟩
    · go_wp2_with fail
      refine (right_any s true ⟨fun _ => h1, fun _ => rfl⟩ _).mono ?_
      rintro e w1 ⟨rfl, rfl⟩
      go_wp2_with fail
      refine (right_any t false ⟨fun e => (by cases e), fun k => absurd k h2⟩ _).mono ?_
      rintro e w1 ⟨rfl, rfl⟩
      go_wp2_with fail
      go_ret2
      exact ⟨by rw [HV.out, HE.out, if_neg (fun h => h2 h.2.1), if_neg (fun h => h2 h.2.1)]; rfl, rfl⟩
  · go_wp2_with fail
    refine (right_any s false ⟨fun e => (by cases e), fun k => absurd k h1⟩ _).mono ?_
    rintro e w1 ⟨rfl, rfl⟩
    go_wp2_with fail
    go_ret2
    exact ⟨by rw [HV.out, HE.out, if_neg (fun h => h1 h.1), if_neg (fun h => h1 h.1)]; rfl, rfl⟩

end Stamp
end Go.Proofs.Ytgbahkkccpcadaa
