/- 'alive' of the statements of layer 1: the fixed calls come out as they must, and nothing that was there is written. -/
import Derived.Test.YtmhmcdldfpnmbaaUnhex
namespace Go.Proofs.Ytmhmcdldfpnmbaa
namespace Words
open Go.ChangeShapes Go.WideShapes Go.ChangeAt Go.RowKit
open Num Mem

theorem alive_any (w : World) : Calls Try.prog 14 #[] w fun e w' => e = .returned (.bool true) ∧ Below w.heap.size w w' := by
  go_enter Try.func14, Try.ntmps14
  go_wp2_with fail
  refine (load32_ok w.heap.size 0 4 4 (fun i => (i + 1) % 256) (fun i => Nat.mod_lt _ (by omega)) 0 (by omega) (by omega) _ ?_).mono ?_
  · intro i hi
    rw [Nat.zero_add]
    match i, hi with
    | 0, _ => exact (Whole.new _ _ _).cell _
    | 1, _ => exact (Whole.new _ _ _).cell _
    | 2, _ => exact (Whole.new _ _ _).cell _
    | 3, _ => exact (Whole.new _ _ _).cell _
  rintro e w' ⟨rfl, rfl⟩
  rw [show ((le (fun i => (i + 1) % 256) 0 4 : Nat) : Int) = 67305985 from rfl]
  go_wp2_with fail
  refine (unhex_odd (strOf (fun _ => 97) 1) (by decide) (by decide) (by intro i hi; match i, hi with | 0, _ => decide) _).mono ?_
  rintro e w1 ⟨rfl, hb1⟩
  rw [show (((strOf (fun _ => 97) 1).size : Nat) : Int) = 1 from rfl]
  have HB1 := Lib.hid hb1
  have hs1 := hb1.size
  clear hb1
  go_wp2_with fail
  refine (rotate_any 1 31 (-1) (by decide) (by omega) _).mono ?_
  rintro e w2 ⟨rfl, k2, rfl⟩
  rw [show ((rotl 1 31 : Nat) : Int) = 2147483648 from rfl]
  go_wp2_with fail
  refine (hex_any _ 1 1 (fun _ => 10) (by omega) (by omega) _ ?_).mono ?_
  · exact Rd.of_new (by simp) rfl
  rintro e w3 ⟨rfl, hb3⟩
  rw [show strOf (hexAt (fun _ => 10)) (2 * 1) = (⟨#[48, 97]⟩ : ByteArray) from rfl]
  go_wp2_with fail
  go_ret
  refine ⟨rfl, ?_⟩
  exact below_trans (below_alloc (below_drewN (below_alloc (below_trans (below_alloc (Below.refl _ _) _) HB1.out) _) _) _) hb3

end Words
end Go.Proofs.Ytmhmcdldfpnmbaa
