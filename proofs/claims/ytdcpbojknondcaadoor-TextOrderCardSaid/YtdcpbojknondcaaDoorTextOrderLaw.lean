/- The walk of the law TextOrder. -/
import Derived.Test.YtdcpbojknondcaaDoorTextAlive
import Derived.Test.YtdcpbojknondcaaDoorNumFacts
import Derived.Laws.Cover1
namespace Go.Proofs.YtdcpbojknondcaaDoor
namespace TextOrder
open Go.ChangeShapes Go.WideShapes Go.ChangeAt Go.RowKit
open Num Mem Words Chacha Aead Quiet Go.Proofs.YtdcpbojknondcaaDoor.Text

set_option maxRecDepth 100000 in
set_option maxHeartbeats 4000000 in
theorem walk (n0 m0 : Int) (w : World) (ht : Tab w) (hn0 : (Lit.int .u64 n0).wf = true) (hm0 : (Lit.int .u64 m0).wf = true) :
    Calls Tryd.prog 5 #[.int .u64 n0, .int .u64 m0] w fun e w' => e = .returned (.bool true) ∧ Below w.heap.size w w' := by
  obtain ⟨n, rfl, hn⟩ := nat_u64 hn0
  obtain ⟨m, rfl, hm⟩ := nat_u64 hm0
  clear hn0 hm0
  have CA := Lib.hid alive_any
  have HT := Lib.hid ht
  have CN := Lib.hid (fun w h => number_any n hn w h)
  have CM := Lib.hid (fun w h => number_any m hm w h)
  clear ht hn hm
  by_cases heq : n = m
  · subst heq
    obtain ⟨S, hS⟩ : ∃ S, numB n = S := ⟨_, rfl⟩
    rw [hS] at CN CM
    clear hS
    have e0 : decide ((n : Int) < (n : Int)) = false := decide_eq_false (by omega)
    go_enter Tryd.func5, Tryd.ntmps5
    go_wp2_with fail
    refine (CN.out _ HT.out).mono ?_
    rintro e w1 ⟨rfl, hb1⟩
    have HB1 := Lib.hid hb1
    have HT1 := Lib.hid (HT.out.below hb1 (Nat.le_refl _))
    clear hb1
    go_wp2_with fail
    refine (CM.out _ HT1.out).mono ?_
    rintro e w2 ⟨rfl, hb2⟩
    have HB2 := Lib.hid (below_trans HB1.out hb2)
    clear hb2
    go_wp2_with (go_at_call 6; refine (CA.out _).mono ?_; rintro e w3 ⟨rfl, hb3⟩; have HB3 := Lib.hid (below_trans HB2.out hb3); clear hb3)
    go_ret
    exact ⟨rfl, HB3.out⟩
  obtain ⟨S, hS⟩ : ∃ S, numB n = S := ⟨_, rfl⟩
  obtain ⟨T, hT⟩ : ∃ T, numB m = T := ⟨_, rfl⟩
  rw [hS] at CN
  rw [hT] at CM
  have HS := Lib.hid hS
  have HTe := Lib.hid hT
  clear hS hT
  by_cases hlt : n < m
  · have e0 : decide ((n : Int) < (m : Int)) = true := decide_eq_true (by omega)
    have e1 : ((m : Int) == (n : Int)) = false := beq_false_of_ne (by omega)
    have f1 : (T.toList == S.toList) = false := by
      rw [Stamp.strings_beq, decide_eq_false_iff_not]
      intro h
      have hh : numB m = numB n := by rw [HTe.out, HS.out, h]
      have := numB_inj hh
      omega
    have hz : S.size ≤ T.size := by rw [← HTe.out, ← HS.out, numB_size, numB_size]; exact digits_mono _ _ (by omega)
    rcases Nat.lt_or_ge S.size T.size with hl | hl
    · have f2 : decide ((S.size : Int) < (T.size : Int)) = true := decide_eq_true (by omega)
      clear hz HS HTe
      go_enter Tryd.func5, Tryd.ntmps5
      go_wp2_with fail
      refine (CN.out _ HT.out).mono ?_
      rintro e w1 ⟨rfl, hb1⟩
      have HB1 := Lib.hid hb1
      have HT1 := Lib.hid (HT.out.below hb1 (Nat.le_refl _))
      clear hb1
      go_wp2_with fail
      refine (CM.out _ HT1.out).mono ?_
      rintro e w2 ⟨rfl, hb2⟩
      have HB2 := Lib.hid (below_trans HB1.out hb2)
      clear hb2
      go_wp2_with (go_at_call 6; refine (CA.out _).mono ?_; rintro e w3 ⟨rfl, hb3⟩; have HB3 := Lib.hid (below_trans HB2.out hb3); clear hb3)
      go_ret
      exact ⟨rfl, HB3.out⟩
    have hle : S.size = T.size := by omega
    have f2 : decide ((S.size : Int) < (T.size : Int)) = false := decide_eq_false (by omega)
    have f3 : ((T.size : Int) == (S.size : Int)) = true := beq_iff_eq.2 (by omega)
    have f4 : Op.bytesLess T.toList S.toList = false := by
      have h5 : Lib.nDigits m = Lib.nDigits n := by rw [← numB_size, ← numB_size, HTe.out, HS.out]; exact hle.symm
      rw [← HTe.out, ← HS.out, numB_less _ _ h5, decide_eq_false_iff_not]
      omega
    clear hz HS HTe
    go_enter Tryd.func5, Tryd.ntmps5
    go_wp2_with fail
    refine (CN.out _ HT.out).mono ?_
    rintro e w1 ⟨rfl, hb1⟩
    have HB1 := Lib.hid hb1
    have HT1 := Lib.hid (HT.out.below hb1 (Nat.le_refl _))
    clear hb1
    go_wp2_with fail
    refine (CM.out _ HT1.out).mono ?_
    rintro e w2 ⟨rfl, hb2⟩
    have HB2 := Lib.hid (below_trans HB1.out hb2)
    clear hb2
    go_wp2_with (go_at_call 6; refine (CA.out _).mono ?_; rintro e w3 ⟨rfl, hb3⟩; have HB3 := Lib.hid (below_trans HB2.out hb3); clear hb3)
    go_ret
    exact ⟨rfl, HB3.out⟩
  · have e0 : decide ((n : Int) < (m : Int)) = false := decide_eq_false (by omega)
    have e1 : ((n : Int) == (m : Int)) = false := beq_false_of_ne (by omega)
    have f1 : (S.toList == T.toList) = false := by
      rw [Stamp.strings_beq, decide_eq_false_iff_not]
      intro h
      have hh : numB n = numB m := by rw [HS.out, HTe.out, h]
      have := numB_inj hh
      omega
    have hz : T.size ≤ S.size := by rw [← HS.out, ← HTe.out, numB_size, numB_size]; exact digits_mono _ _ (by omega)
    rcases Nat.lt_or_ge T.size S.size with hl | hl
    · have f2 : decide ((T.size : Int) < (S.size : Int)) = true := decide_eq_true (by omega)
      clear hz HS HTe
      go_enter Tryd.func5, Tryd.ntmps5
      go_wp2_with fail
      refine (CN.out _ HT.out).mono ?_
      rintro e w1 ⟨rfl, hb1⟩
      have HB1 := Lib.hid hb1
      have HT1 := Lib.hid (HT.out.below hb1 (Nat.le_refl _))
      clear hb1
      go_wp2_with fail
      refine (CM.out _ HT1.out).mono ?_
      rintro e w2 ⟨rfl, hb2⟩
      have HB2 := Lib.hid (below_trans HB1.out hb2)
      clear hb2
      go_wp2_with (go_at_call 6; refine (CA.out _).mono ?_; rintro e w3 ⟨rfl, hb3⟩; have HB3 := Lib.hid (below_trans HB2.out hb3); clear hb3)
      go_ret
      exact ⟨rfl, HB3.out⟩
    have hle : T.size = S.size := by omega
    have f2 : decide ((T.size : Int) < (S.size : Int)) = false := decide_eq_false (by omega)
    have f3 : ((S.size : Int) == (T.size : Int)) = true := beq_iff_eq.2 (by omega)
    have f4 : Op.bytesLess S.toList T.toList = false := by
      have h5 : Lib.nDigits n = Lib.nDigits m := by rw [← numB_size, ← numB_size, HS.out, HTe.out]; exact hle.symm
      rw [← HS.out, ← HTe.out, numB_less _ _ h5, decide_eq_false_iff_not]
      omega
    clear hz HS HTe
    go_enter Tryd.func5, Tryd.ntmps5
    go_wp2_with fail
    refine (CN.out _ HT.out).mono ?_
    rintro e w1 ⟨rfl, hb1⟩
    have HB1 := Lib.hid hb1
    have HT1 := Lib.hid (HT.out.below hb1 (Nat.le_refl _))
    clear hb1
    go_wp2_with fail
    refine (CM.out _ HT1.out).mono ?_
    rintro e w2 ⟨rfl, hb2⟩
    have HB2 := Lib.hid (below_trans HB1.out hb2)
    clear hb2
    go_wp2_with (go_at_call 6; refine (CA.out _).mono ?_; rintro e w3 ⟨rfl, hb3⟩; have HB3 := Lib.hid (below_trans HB2.out hb3); clear hb3)
    go_ret
    exact ⟨rfl, HB3.out⟩

end TextOrder
end Go.Proofs.YtdcpbojknondcaaDoor
