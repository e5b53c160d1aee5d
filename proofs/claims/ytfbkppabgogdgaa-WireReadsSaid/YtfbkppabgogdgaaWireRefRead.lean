/- The document's own Read of wire: where nothing is read. -/
import Derived.Test.YtfbkppabgogdgaaWireRefKind
import Derived.Test.YtfbkppabgogdgaaWireOpen
import Derived.OwnWalk
namespace Go.Proofs.Ytfbkppabgogdgaa
namespace RefW
open Go.ChangeShapes Go.WideShapes Go.ChangeAt Go.RowKit
open Num Mem Words Ref Cuts Chacha Quiet Wire

set_option maxRecDepth 100000 in
set_option maxHeartbeats 4000000 in
theorem read_no (A : Option Addr) (n c : Nat) (f : Nat → Nat) (hf : ∀ i, f i < 256) (hn : n ≤ 9223372036854775807) (k m : Nat) (hE : openE f n k ≠ 0) (w : World) (hr : Rd w A n f) :
    Calls Try.prog 63 #[.slice A n c, .int .i64 k, .int .i64 m] w fun e w' => e = .returned (.tuple #[.slice none 0 0, .slice none 0 0, .int .i64 (openE f n k : Nat)]) ∧ w' = w := by
  have C := Lib.hid (RefW.kind_any A n c f hf hn w hr)
  have HO : openE f n k = if kindE f n = 0 then (if kindV f n = k then 0 else 60) else kindE f n := rfl
  clear hr hf
  generalize openE f n k = e at *
  generalize kindE f n = kE at *
  generalize kindV f n = kV at *
  by_cases h0 : kE = 0
  · subst h0
    rw [if_pos rfl] at HO
    by_cases hv : kV = k
    · rw [if_pos hv] at HO
      exact absurd HO hE
    · rw [if_neg hv] at HO
      subst HO
      clear hE
      have v1 : ((kV : Int) != (k : Int)) = true := by rw [bne_iff_ne]; omega
      have v2 : ((kV : Int) = (k : Int)) = False := by rw [eq_iff_iff, iff_false]; omega
      go_enter Try.func63, Try.ntmps63
      go_wp2_with (go_at_call 26; refine C.out.mono ?_; rintro e w' ⟨rfl, rfl⟩)
      go_ret3
      exact ⟨rfl, rfl⟩
  · rw [if_neg h0] at HO
    subst HO
    clear hE
    have v1 : ((e : Int) == 0) = false := by rw [beq_eq_false_iff_ne]; omega
    have v2 : ((e : Int) = 0) = False := by rw [eq_iff_iff, iff_false]; omega
    have v3 : ((e : Int) != 0) = true := by rw [bne_iff_ne]; omega
    go_enter Try.func63, Try.ntmps63
    go_wp2_with (go_at_call 26; refine C.out.mono ?_; rintro e w' ⟨rfl, rfl⟩)
    go_ret3
    exact ⟨rfl, rfl⟩

end RefW
end Go.Proofs.Ytfbkppabgogdgaa
