/- The document's own answers: Copy (package aditref01) and filled (package aditref07). -/
import Derived.Test.YtcoppcididemkaaDoorRefBlock
import Derived.Test.YtcoppcididemkaaDoorApart
namespace Go.Proofs.YtcoppcididemkaaDoor
namespace RefB
open Go.ChangeShapes Go.WideShapes Go.ChangeAt Go.RowKit
open Num Mem Words State Blake Ref Chacha Quiet

set_option maxRecDepth 100000 in
theorem copy_ref (A : Option Addr) (n c : Nat) (f : Nat → Nat) (hn : n ≤ 1000000) (w : World) (hs : Src w A n c f) :
    Calls Tryd.prog 12 #[.slice A n c] w fun e w' => ∃ A' c', e = .returned (.slice A' n c') ∧ Own w' w.heap.size 5 A' n c' f ∧ Below w.heap.size w w' := by
  have HS := Lib.hid hs
  have HT := Lib.hid (show ∀ i, i < 0 + n → f i = if i < 0 then (fun _ => 0) i else f (i - 0) from fun i _ => by rw [if_neg (by omega), Nat.sub_zero])
  clear hs
  go_enter Tryd.func12, Tryd.ntmps12
  go_wp2_with (first
    | (at_builtin; refine wpList_catFrom rfl _ _ 22 5 (.int .u8 0) 1 Tryd.underlying22 info_u8 rfl rfl rfl (Own.nil w w.heap.size 5 (fun _ => 0)) (Below.refl _ _) (Nat.le_refl _) n c A rfl HS.out (by omega) (by omega) HT.out ?_; intro A' c' w1 ho hb hsz _ _; rw [Nat.zero_add] at ho; rw [Nat.zero_add]; have HO := Lib.hid ho; have HB := Lib.hid hb; clear ho hb))
  go_ret
  exact ⟨A', c', rfl, HO.out, HB.out⟩

set_option maxRecDepth 100000 in
theorem filled_ref (A : Option Addr) (n c : Nat) (f : Nat → Nat) (hn : n ≤ 64) (w : World) (hs : Src w A n c f) :
    Calls Tryd.prog 13 #[.slice A n c] w fun e w' => ∃ A' c', e = .returned (.slice A' 64 c') ∧ Own w' w.heap.size 5 A' 64 c' (upTo f n) ∧ Below w.heap.size w w' := by
  have HS := Lib.hid hs
  have HU := Lib.hid (show ∀ i, i < n → f i = upTo f n i from fun i hi => by unfold upTo; rw [if_pos hi])
  have HZ := Lib.hid (show ∀ k, n ≤ k → (0 : Int) = ((upTo f n k : Nat) : Int) from fun k hk => by unfold upTo; rw [if_neg (by omega)]; rfl)
  clear hs
  go_enter Tryd.func13, Tryd.ntmps13
  go_wp2_with fail
  refine (copy_ref A n c f (by omega) _ HS.out).mono ?_
  rintro e w1 ⟨A1, c1, rfl, ho, hb⟩
  have HO := Lib.hid (Own.congr ho HU.out)
  have HB := Lib.hid hb
  clear ho hb HS HU
  generalize hg : upTo f n = g at HO HZ
  have HGE := Lib.hid hg
  clear hg
  go_wp2_with fail
  go_loopw [3] (fun o wr => ∃ (k : Nat) (R : Option Addr) (c' : Nat), n ≤ k ∧ k ≤ 64 ∧ o = .slice R k c' ∧ Own wr w.heap.size 5 R k c' g ∧ Below w.heap.size w wr) (fun o _ => match o with | .slice _ k _ => 64 - k | _ => 0)
  case atStart => exact ⟨n, A1, c1, Nat.le_refl _, hn, rfl, HO.out, HB.out⟩
  case round =>
    obtain ⟨k, R, c', hk, hk2, rfl, hown, hbel⟩ := hrel
    have HR := Lib.hid hown
    have HL := Lib.hid hbel
    have hsz := hbel.size
    have HZK := Lib.hid (HZ.out k hk)
    clear hown hbel
    by_cases hlt : k < 64
    · go_wp2_with (first
        | (at_builtin; refine wpList_push rfl _ _ rfl rfl rfl HR.out HL.out hsz HZK.out (by omega) ?_; intro A' c'' w2 hown2 hbel2 hsz2; have HO2 := Lib.hid hown2; have HL2 := Lib.hid hbel2; clear hown2 hbel2))
      go_roundw
      case rel => exact ⟨k + 1, A', c'', by omega, by omega, rfl, HO2.out, HL2.out⟩
      case measure => simp; omega
    · obtain rfl : k = 64 := by omega
      go_wp2_with fail
      go_ret
      rw [HGE.out]
      exact ⟨R, c', rfl, HR.out, HL.out⟩

end RefB
end Go.Proofs.YtcoppcididemkaaDoor
