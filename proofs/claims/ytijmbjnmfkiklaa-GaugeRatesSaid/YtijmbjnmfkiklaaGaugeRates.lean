/- 'aditlaw16.GaugeRates' returns true at every input and writes nothing that was there: the walk. No condition. -/
import Derived.Test.YtijmbjnmfkiklaaGaugeAlive
namespace Go.Proofs.Ytijmbjnmfkiklaa
namespace GaugeRates
open Go.ChangeShapes Go.WideShapes Go.ChangeAt Go.RowKit
open Num Mem Words Chacha Aead Poly Quiet Fl Gauge

theorem wf64 {x : Nat} (h : (Lit.float .f64 x).wf = true) : x < 18446744073709551616 := by
  have h2 : decide (x < 2 ^ 64) = true := h
  rw [decide_eq_true_eq] at h2
  exact h2
set_option maxRecDepth 100000 in
set_option maxHeartbeats 2000000 in
theorem walk (N ms : Int) (w : World) (h0 : (Lit.int .u64 N).wf = true) (h1 : (Lit.int .i64 ms).wf = true) :
    Calls Try.prog 9 #[.int .u64 N, .int .i64 ms] w fun e w' => e = .returned (.bool true) ∧ Below w.heap.size w w' := by
  obtain ⟨n, rfl, _⟩ := nat_u64 h0
  obtain ⟨r, q, hr, c1, c2⟩ := rates_any n ms (by have := (int_i64 h1).2; omega)
  have C1 := Lib.hid c1
  have C2 := Lib.hid c2
  have E1 := rsame_any r r hr hr
  rw [decide_eq_true rfl] at E1
  have F1 := Lib.hid E1
  have g3 : (q == q) = true := by simp
  clear E1 c1 c2 h0 h1 hr
  go_enter Try.func9, Try.ntmps9
  go_wp2_with fail
  refine (C1.out _).mono ?_
  rintro e w' ⟨rfl, rfl⟩
  go_wp2_with fail
  refine (C2.out _).mono ?_
  rintro e w' ⟨rfl, rfl⟩
  go_wp2_with fail
  refine (alive_any _).mono ?_
  rintro e w1 ⟨rfl, hb⟩
  have KB := Lib.hid hb
  clear hb
  go_wp2_with fail
  refine (F1.out _).mono ?_
  rintro e w' ⟨rfl, rfl⟩
  go_wp2_with fail
  go_ret
  exact ⟨rfl, KB.out⟩
end GaugeRates
end Go.Proofs.Ytijmbjnmfkiklaa
