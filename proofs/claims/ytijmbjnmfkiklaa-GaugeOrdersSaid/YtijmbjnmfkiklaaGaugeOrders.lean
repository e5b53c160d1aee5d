/- 'aditlaw16.GaugeOrders' returns true at every input and writes nothing that was there: the walk. No condition. -/
import Derived.Test.YtijmbjnmfkiklaaGaugeAlive
namespace Go.Proofs.Ytijmbjnmfkiklaa
namespace GaugeOrders
open Go.ChangeShapes Go.WideShapes Go.ChangeAt Go.RowKit
open Num Mem Words Chacha Aead Poly Quiet Fl Gauge

theorem wf64 {x : Nat} (h : (Lit.float .f64 x).wf = true) : x < 18446744073709551616 := by
  have h2 : decide (x < 2 ^ 64) = true := h
  rw [decide_eq_true_eq] at h2
  exact h2
set_option maxRecDepth 100000 in
set_option maxHeartbeats 2000000 in
theorem walk (x y : Nat) (w : World) (h0 : (Lit.float .f64 x).wf = true) (h1 : (Lit.float .f64 y).wf = true) :
    Calls Try.prog 8 #[.float .f64 x, .float .f64 y] w fun e w' => e = .returned (.bool true) ∧ Below w.heap.size w w' := by
  have hx := wf64 h0
  have hy := wf64 h1
  clear h0 h1
  have O := Lib.hid (order_any x y hx hy)
  have R := Lib.hid (rorder_any x y hx hy)
  have S := same_any x y hx hy
  rw [show decide (x = y) = (ordI x y == 0) by rw [Bool.eq_iff_iff, same_iff hx hy, decide_eq_true_eq]] at S
  have SS := Lib.hid S
  clear S
  have C1 := Lib.hid (counts_any x hx)
  have C2 := Lib.hid (rcounts_any x)
  have L := Lib.hid (least_any x y hx hy)
  have Q := Lib.hid (greatest_any x y hx hy)
  have P := pick_least x y hx hy true
  have P2 := pick_least x y hx hy false
  rw [if_pos rfl] at P
  rw [if_neg (by simp)] at P2
  have PL := Lib.hid P
  have PG := Lib.hid P2
  clear P P2
  have hlx : least x y < 18446744073709551616 := by
    unfold least
    split
    · split <;> assumption
    · exact nan_lt
  have hgx : greatest x y < 18446744073709551616 := by
    unfold greatest
    split
    · split <;> assumption
    · exact nan_lt
  have E1 := rsame_any (least x y) (least x y) hlx hlx
  have E2 := rsame_any (greatest x y) (greatest x y) hgx hgx
  rw [decide_eq_true rfl] at E1 E2
  have F1 := Lib.hid E1
  have F2 := Lib.hid E2
  clear E1 E2 hlx hgx
  generalize ordI x y = v at *
  generalize counts x = k at *
  generalize least x y = z at *
  generalize greatest x y = u at *
  have g1 : ((v == 0) == (v == 0)) = true := by simp
  have g2 : (k == k) = true := by simp
  have g3 : (v == v) = true := by simp
  go_enter Try.func8, Try.ntmps8
  go_wp2_with fail
  refine (alive_any _).mono ?_
  rintro e w1 ⟨rfl, hb⟩
  have KB := Lib.hid hb
  clear hb
  go_wp2_with fail
  refine (O.out _).mono ?_
  rintro e w' ⟨rfl, rfl⟩
  go_wp2_with fail
  refine (R.out _).mono ?_
  rintro e w' ⟨rfl, rfl⟩
  go_wp2_with fail
  refine (SS.out _).mono ?_
  rintro e w' ⟨rfl, rfl⟩
  go_wp2_with fail
  refine (R.out _).mono ?_
  rintro e w' ⟨rfl, rfl⟩
  go_wp2_with fail
  refine (C1.out _).mono ?_
  rintro e w' ⟨rfl, rfl⟩
  go_wp2_with fail
  refine (C2.out _).mono ?_
  rintro e w' ⟨rfl, rfl⟩
  go_wp2_with fail
  refine (L.out _).mono ?_
  rintro e w' ⟨rfl, rfl⟩
  go_wp2_with fail
  refine (PL.out _).mono ?_
  rintro e w' ⟨rfl, rfl⟩
  go_wp2_with fail
  refine (F1.out _).mono ?_
  rintro e w' ⟨rfl, rfl⟩
  go_wp2_with fail
  refine (Q.out _).mono ?_
  rintro e w' ⟨rfl, rfl⟩
  go_wp2_with fail
  refine (PG.out _).mono ?_
  rintro e w' ⟨rfl, rfl⟩
  go_wp2_with fail
  refine (F2.out _).mono ?_
  rintro e w' ⟨rfl, rfl⟩
  go_wp2_with fail
  go_ret
  exact ⟨rfl, KB.out⟩
end GaugeOrders
end Go.Proofs.Ytijmbjnmfkiklaa
