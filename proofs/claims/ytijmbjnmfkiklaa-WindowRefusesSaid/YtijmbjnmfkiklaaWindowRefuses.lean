/- 'aditlaw15.WindowRefuses' returns true at every input and writes nothing that was there: the walk. No condition. -/
import Derived.Test.YtijmbjnmfkiklaaWinPlayed
import Derived.Test.YtijmbjnmfkiklaaWinEq
import Derived.Test.YtijmbjnmfkiklaaRowA
import Derived.Test.YtijmbjnmfkiklaaOps
namespace Go.Proofs.Ytijmbjnmfkiklaa
namespace WindowRefuses
open Go.ChangeShapes Go.WideShapes Go.ChangeAt Go.RowKit
open Num Mem Words Chacha Aead Poly Quiet WinT RowV RowA Win Ops

set_option maxRecDepth 100000 in
set_option maxHeartbeats 4000000 in
theorem walk (A0 : Option Addr) (n c0 : Nat) (l : List Nat) (w : World) (h0 : IsNums .u64 (2 ^ 64) w A0 n l) :
    Calls Try.prog 6 #[.slice A0 n c0] w fun e w' => e = .returned (.bool true) ∧ Below w.heap.size w w' := by
  obtain ⟨rfl, hn, _, hr⟩ := h0
  have HP := Lib.hid (played_any A0 c0 l hn w hr)
  clear hr
  obtain ⟨p, hp⟩ : ∃ p, playL (l.take 300) = p := ⟨_, rfl⟩
  have hag : playL p.2 = p := by rw [← hp]; exact play_again _
  have hlen : p.2.length ≤ 300 := by rw [← hp]; exact Nat.le_trans (play_len _) (List.length_take_le _ _)
  have hok : p.1.ok := by rw [← hp]; exact (play_is _).ok
  rw [hp] at HP
  unfold winV at HP
  clear hp
  generalize l.length = n at *
  have HE := Lib.hid (fun w => win_eq p.1 hok w)
  have HA := Lib.hid hag
  have hlen1 : p.2.length ≤ 9223372036854775807 := by omega
  have htk : p.2.take 300 = p.2 := List.take_of_length_le hlen
  have HT := Lib.hid htk
  clear htk hag hn
  go_enter Try.func6, Try.ntmps6
  go_wp2_with fail
  refine HP.out.mono ?_
  rintro e w1 ⟨A1, c1, rfl, hrow, hb⟩
  have KB := Lib.hid hb
  have hsz := hb.size
  clear hb
  have HQ := Lib.hid (show ∀ W, Below w1.heap.size w1 W → Calls Try.prog 24 #[.slice A1 p.2.length c1] W fun e w' => ∃ A c, e = .returned (.tuple #[winV p.1, .slice A p.2.length c]) ∧ Below W.heap.size W w' from fun W hb => by
    have h := played_any A1 c1 p.2 hlen1 W ((rdv_own hrow).below hb (Nat.le_refl _))
    rw [HT.out, HA.out] at h
    refine h.mono ?_
    rintro e w2 ⟨A, c, rfl, _, hb⟩
    exact ⟨A, c, rfl, hb⟩)
  unfold winV at HQ
  clear hrow hlen1
  go_wp2_with fail
  refine (HQ.out _ ((Below.refl _ _).alloc (Nat.le_refl _) _)).mono ?_
  rintro e w2 ⟨A2, c2, rfl, hb⟩
  have K1 := Lib.hid ((lies_new w1 p.1.n p.1.a p.1.b).below hb)
  replace KB := Lib.hid (below_new KB.out hb)
  clear hb HQ HP hlen
  generalize w1.heap.size = G1 at K1 ⊢
  go_wp2_with fail
  refine (alive_any _).mono ?_
  rintro e w3 ⟨rfl, hb⟩
  have K2 := Lib.hid ((lies_new w2 p.1.n p.1.a p.1.b).below hb)
  have hlt := K1.out.lt
  replace K1 := Lib.hid (Lies.below (show Lies _ G1 p.1.n p.1.a p.1.b from Whole.alloc K1.out _) hb)
  replace KB := Lib.hid (below_new KB.out hb)
  clear hb
  generalize w2.heap.size = G2 at *
  have a0 := K1.out.c0
  have a1 := K1.out.c1
  have a2 := K1.out.c2
  have b0 := K2.out.c0
  have b1 := K2.out.c1
  have b2 := K2.out.c2
  go_wp2_with (refine wpList_value_if (by rfl) (.bool true) (run_eql_op 27 (.tmp 19) (.tmp 20) _ rfl _ _ rfl rfl true (by kernel_rfl) HE.out _) ?_)
  go_ret
  exact ⟨rfl, KB.out⟩
end WindowRefuses
end Go.Proofs.Ytijmbjnmfkiklaa
