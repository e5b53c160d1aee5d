/- The walk of the law TextNumbers. -/
import Derived.Test.YtdcpbojknondcaaDoorTextAlive
import Derived.Test.YtdcpbojknondcaaDoorTextRefNum
import Derived.Test.YtdcpbojknondcaaDoorTextRefRead
namespace Go.Proofs.YtdcpbojknondcaaDoor
namespace TextNumbers
open Go.ChangeShapes Go.WideShapes Go.ChangeAt Go.RowKit
open Num Mem Words Chacha Aead Quiet Go.Proofs.YtdcpbojknondcaaDoor.Text

set_option maxRecDepth 100000 in
set_option maxHeartbeats 4000000 in
theorem walk (n0 : Int) (s : ByteArray) (m0 : Int) (w : World) (ht : Tab w) (hn0 : (Lit.int .u64 n0).wf = true) (_ : s.size ≤ maxLen) (hm0 : (Lit.int .u64 m0).wf = true) :
    Calls Tryd.prog 3 #[.int .u64 n0, .string s, .int .u64 m0] w fun e w' => e = .returned (.bool true) ∧ Below w.heap.size w w' := by
  obtain ⟨n, rfl, hn⟩ := nat_u64 hn0
  obtain ⟨m, rfl, hm⟩ := nat_u64 hm0
  clear hn0 hm0
  have CA := Lib.hid alive_any
  have HT := Lib.hid ht
  have CN := Lib.hid (fun w h => number_any n hn w h)
  have CX := Lib.hid (fun w => refNumber_any n hn w)
  clear ht
  by_cases h1 : 300 < s.size
  · have d1 : decide ((300 : Int) < (s.size : Int)) = true := decide_eq_true (by omega)
    go_enter Tryd.func3, Tryd.ntmps3
    go_wp2_with (go_at_call 6; refine (CA.out _).mono ?_; rintro e w1 ⟨rfl, hb⟩)
    go_ret
    exact ⟨rfl, hb⟩
  have d1 : decide ((300 : Int) < (s.size : Int)) = false := decide_eq_false (by omega)
  have hs : s.size < 2 ^ 62 := by omega
  have CR := Lib.hid (fun w => readNumber_any s hs m hm w)
  have CY := Lib.hid (fun w => refReadNumber_any s hs m hm w)
  have CI := Lib.hid (fun w => isName_any s hs w)
  have CJ := Lib.hid (fun w => refIsName_any s hs w)
  obtain ⟨V, hV⟩ : ∃ V, rnV s m = V := ⟨_, rfl⟩
  obtain ⟨E, hE⟩ : ∃ E, rnE s m = E := ⟨_, rfl⟩
  obtain ⟨I, hI⟩ : ∃ I, isName s = I := ⟨_, rfl⟩
  obtain ⟨S, hS⟩ : ∃ S, numB n = S := ⟨_, rfl⟩
  rw [hV, hE] at CR CY
  rw [hI] at CI CJ
  rw [hS] at CN CX
  clear hV hE hI hS h1 hs hm hn
  go_enter Tryd.func3, Tryd.ntmps3
  go_wp2_with (first
    | (go_at_call 7; refine (CR.out _).mono ?_; rintro e w1 ⟨rfl, rfl⟩)
    | (go_at_call 8; refine (CY.out _).mono ?_; rintro e w1 ⟨rfl, rfl⟩)
    | (go_at_call 6; refine (CA.out _).mono ?_; rintro e w2 ⟨rfl, hb2⟩; have HB2 := Lib.hid hb2; have HT2 := Lib.hid (HT.out.below hb2 (Nat.le_refl _)); clear hb2)
    | (go_at_call 9; refine (CN.out _ HT2.out).mono ?_; rintro e w3 ⟨rfl, hb3⟩; have HB3 := Lib.hid (below_trans HB2.out hb3); clear hb3)
    | (go_at_call 10; refine (CX.out _).mono ?_; rintro e w4 ⟨rfl, hb4⟩; have HB4 := Lib.hid (below_trans HB3.out hb4); clear hb4)
    | (go_at_call 11; refine (CI.out _).mono ?_; rintro e w5 ⟨rfl, rfl⟩)
    | (go_at_call 12; refine (CJ.out _).mono ?_; rintro e w6 ⟨rfl, rfl⟩))
  go_ret
  exact ⟨rfl, HB4.out⟩

end TextNumbers
end Go.Proofs.YtdcpbojknondcaaDoor
