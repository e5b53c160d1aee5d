/- The walk of the law TextBack. -/
import Derived.Test.YtdcpbojknondcaaDoorTextAlive
import Derived.Test.YtdcpbojknondcaaDoorTextB64
import Derived.Test.YtdcpbojknondcaaDoorNumFacts
import Derived.Test.YtdcpbojknondcaaDoorOps
namespace Go.Proofs.YtdcpbojknondcaaDoor
namespace TextBack
open Go.ChangeShapes Go.WideShapes Go.ChangeAt Go.RowKit
open Num Mem Words Chacha Aead Quiet Go.Proofs.YtdcpbojknondcaaDoor.Text

set_option maxRecDepth 100000 in
set_option maxHeartbeats 4000000 in
theorem walk (f : Nat → Nat) (n0 : Int) (s : ByteArray) (w : World) (ht : Tab w) (hf : ∀ i, f i < 256) (hn0 : (Lit.int .u64 n0).wf = true) (_ : s.size ≤ maxLen) :
    Calls Tryd.prog 4 #[.agg (byteCells f 32).toArray, .int .u64 n0, .string s] w fun e w' => e = .returned (.bool true) ∧ Below w.heap.size w w' := by
  obtain ⟨n, rfl, hn⟩ := nat_u64 hn0
  clear hn0
  have CA := Lib.hid alive_any
  have HT := Lib.hid ht
  have CN := Lib.hid (fun w h => number_any n hn w h)
  have CK := Lib.hid (key_any f hf)
  have CRK := Lib.hid (readKey_any (strOf (kwB f) 44))
  have CRS := Lib.hid (readKey_any s)
  have CRN := Lib.hid (fun w => readNumber_any (numB n) (by have := numB_size n; have := Lib.nDigits_le20 n hn; omega) 18446744073709551615 (by omega) w)
  rw [byteCells_congr (fun i hi => key_back f hf i hi), key_good f hf] at CRK
  rw [rn_ok (numB_num n) (by rw [numB_at]; omega), rn_okE (numB_num n) (by rw [numB_at]; omega), numB_at] at CRN
  have HEQ := Lib.hid (fun w => Poly.run_eql_arr (P := Tryd.prog) 31 5 32 Tryd.underlying31 Tryd.underlying5 Poly.size_u8 f f hf hf true (by simp) w)
  have CKS : rkE s = 0 → Hid (∀ w, Calls Tryd.prog 14 #[.agg (byteCells (rkB s) 32).toArray] w fun e w' => e = .returned (.string s) ∧ Below w.heap.size w w') := fun h w => by
    have := key_any (rkB s) (fun i => by unfold rkB jB; split; exact byteAt_lt _ _; omega) w
    rwa [word_back s h] at this
  have CNS : rnE s 18446744073709551615 = 0 → Hid (∀ w, Tab w → Calls Tryd.prog 9 #[.int .u64 (rnV s 18446744073709551615 : Nat)] w fun e w' => e = .returned (.string s) ∧ Below w.heap.size w w') := fun h w hw => by
    have hN : isNum s = true := by
      cases hN : isNum s with
      | true => rfl
      | false => unfold rnE at h; rw [if_pos hN] at h; cases h
    have hle : nAt s s.size ≤ 18446744073709551615 := by
      rcases Nat.lt_or_ge 18446744073709551615 (nAt s s.size) with k | k
      · rw [rn_longE hN k] at h; cases h
      · exact k
    have := number_any (nAt s s.size) (by omega) w hw
    rw [num_back s hN] at this
    rwa [rn_ok hN hle]
  obtain ⟨K, hK⟩ : ∃ K, strOf (kwB f) 44 = K := ⟨_, rfl⟩
  have hKs : ((K.size : Nat) : Int) = 44 := by rw [← hK, strOf_size]; rfl
  rw [hK] at CK CRK
  obtain ⟨S, hS⟩ : ∃ S, numB n = S := ⟨_, rfl⟩
  rw [hS] at CN CRN
  obtain ⟨L, hL⟩ : ∃ L, byteCells f 32 = L := ⟨_, rfl⟩
  have HLS := Lib.hid (show L.length = 32 by rw [← hL, byteCells_length])
  have HLZ := Lib.hid (show L.toArray.size = 32 by rw [List.size_toArray, HLS.out])
  have HL1 := Lib.hid (show L.toArray.all (·.oneCell') = true by rw [← hL]; exact bytes_one _ _)
  rw [hL] at CK CRK HEQ ⊢
  obtain ⟨R, hR⟩ : ∃ R, byteCells (rkB s) 32 = R := ⟨_, rfl⟩
  have HRS := Lib.hid (show R.length = 32 by rw [← hR, byteCells_length])
  have HRZ := Lib.hid (show R.toArray.size = 32 by rw [List.size_toArray, HRS.out])
  have HR1 := Lib.hid (show R.toArray.all (·.oneCell') = true by rw [← hR]; exact bytes_one _ _)
  rw [hR] at CRS CKS
  have CRM : 300 < s.size ∨ Hid (∀ w, Calls Tryd.prog 7 #[.string s, .int .u64 18446744073709551615] w fun e w' => e = .returned (.tuple #[.int .u64 (rnV s 18446744073709551615 : Nat), .int .i64 (rnE s 18446744073709551615 : Nat)]) ∧ w' = w) := by
    rcases Nat.lt_or_ge 300 s.size with h | h
    · exact .inl h
    · exact .inr (fun w => readNumber_any s (by omega) 18446744073709551615 (by omega) w)
  obtain ⟨V, hV⟩ : ∃ V, rnV s 18446744073709551615 = V := ⟨_, rfl⟩
  obtain ⟨e1, he1⟩ : ∃ e1, rkE s = e1 := ⟨_, rfl⟩
  obtain ⟨e2, he2⟩ : ∃ e2, rnE s 18446744073709551615 = e2 := ⟨_, rfl⟩
  rw [hV] at CNS CRM
  rw [he1] at CRS CKS
  rw [he2] at CNS CRM
  clear hK hS hL hR hV he1 he2 hf hn ht
  obtain ⟨LA, hLA⟩ : ∃ LA, L.toArray = LA := ⟨_, rfl⟩
  have HLA := Lib.hid hLA
  rw [hLA]
  clear hLA
  go_enter Tryd.func4, Tryd.ntmps4
  go_upto_region 1 with fail
  refine cut_world (fun W => Whole W w.heap.size 31 L.toArray ∧ Below w.heap.size w W) ⟨by rw [HLA.out]; exact whole_new _ _ rfl, below_alloc (Below.refl _ _) _⟩ ?_
  rintro W ⟨k1, kb⟩
  have K1 := Lib.hid k1
  have KB := Lib.hid kb
  clear k1 kb
  have HT1 := Lib.hid (HT.out.below KB.out (Nat.le_refl _))
  generalize hB : w.heap.size = B at K1 KB ⊢
  have HB := Lib.hid hB
  clear hB
  rcases CRM with h1 | CRM
  · have d1 : decide ((300 : Int) < (s.size : Int)) = true := decide_eq_true (by omega)
    go_wp2_with (go_at_call 6; refine (CA.out _).mono ?_; rintro e w1 ⟨rfl, hb⟩)
    go_ret
    exact ⟨rfl, by rw [HB.out]; exact KB.out.trans (hb.mono (Nat.le_of_lt K1.out.lt))⟩
  by_cases h1 : 300 < s.size
  · have d1 : decide ((300 : Int) < (s.size : Int)) = true := decide_eq_true (by omega)
    go_wp2_with (go_at_call 6; refine (CA.out _).mono ?_; rintro e w1 ⟨rfl, hb⟩)
    go_ret
    exact ⟨rfl, by rw [HB.out]; exact KB.out.trans (hb.mono (Nat.le_of_lt K1.out.lt))⟩
  have d1 : decide ((300 : Int) < (s.size : Int)) = false := decide_eq_false (by omega)
  go_upto_region 4 with (first
    | (refine Poly.wpList_load_row_if (by rfl) 31 (.tmp 3) rfl B rfl 31 L _ K1.out rfl rfl (by rw [HLS.out]; kernel_rfl) ?_)
    | (go_at_call 14; refine (CK.out _).mono ?_; rintro e w1 ⟨rfl, hb1⟩; have HB1 := Lib.hid hb1; clear hb1)
    | (go_at_call 13; refine (CRK.out _).mono ?_; rintro e w2 ⟨rfl, hb2⟩; have HB2 := Lib.hid (below_trans HB1.out hb2); clear hb2)
    | (refine wpList_store_row rfl 31 (.tmp 7) (.tmp 23) rfl w2.heap.size L.toArray rfl rfl 31 _ (Whole.new _ _ _) (by rw [HLZ.out]; kernel_rfl) (by rw [HLZ.out]; rfl) HL1.out ?_))
  have hne : B < w2.heap.size := (K1.out.below HB2.out K1.out.lt).lt
  refine cut_world (fun X => Whole X B 31 L.toArray ∧ Whole X w2.heap.size 31 L.toArray ∧ Below B w X) ⟨?_, ?_, ?_⟩ ?_
  · exact Whole.farRow ((K1.out.below HB2.out K1.out.lt).alloc _) (by omega) _
  · exact setRow_heap _ _ _ _ _ _ (Whole.new _ _ _)
  · exact below_setRow (below_alloc' (KB.out.trans (HB2.out.mono (Nat.le_of_lt K1.out.lt))) (Nat.le_of_lt hne) _) (Nat.le_of_lt hne) _
  rintro X ⟨q1, q2, qb⟩
  have Q1 := Lib.hid q1
  have Q2 := Lib.hid q2
  have QB := Lib.hid qb
  have HTX := Lib.hid (HT.out.below qb (by rw [HB.out]; exact Nat.le_refl _))
  generalize w2.heap.size = g at q2 Q2 hne ⊢
  clear q1 q2 qb K1 KB HB1 HB2 HT1 CRK
  go_upto_region 5 with (first
    | (go_at_call 9; refine (CN.out _ HTX.out).mono ?_; rintro e w3 ⟨rfl, hb3⟩; have HB3 := Lib.hid hb3; clear hb3)
    | (go_at_call 7; refine (CRN.out _).mono ?_; rintro e w4 ⟨rfl, rfl⟩))
  have K1 := Lib.hid (Q1.out.below HB3.out Q1.out.lt)
  have K2 := Lib.hid (Q2.out.below HB3.out Q2.out.lt)
  have KB := Lib.hid (QB.out.trans (HB3.out.mono (Nat.le_of_lt Q1.out.lt)))
  clear Q1 Q2 QB HB3 HTX CN CRN
  go_upto_region 7 with (first
    | (refine Poly.wpList_load_row_if (by rfl) 31 (.tmp 7) rfl g rfl 31 L _ K2.out rfl rfl (by rw [HLS.out]; kernel_rfl) ?_)
    | (refine Poly.wpList_load_row_if (by rfl) 31 (.tmp 3) rfl B rfl 31 L _ K1.out rfl rfl (by rw [HLS.out]; kernel_rfl) ?_)
    | (refine Ops.wpList_value_if (by rfl) (.bool false) (Ops.run_neq_op 31 (.tmp 38) (.tmp 39) _ rfl L.toArray L.toArray rfl rfl true false rfl (by kernel_rfl) HEQ.out _) ?_)
    | (go_at_call 14; refine (CK.out _).mono ?_; rintro e w5 ⟨rfl, hb5⟩; have HB5 := Lib.hid hb5; clear hb5))
  have KB5 := Lib.hid (KB.out.trans (HB5.out.mono (Nat.le_of_lt K1.out.lt)))
  have K5 := Lib.hid (show B < w5.heap.size from Nat.lt_of_lt_of_le K1.out.lt HB5.out.size)
  clear K1 K2 KB HB5 HEQ CK
  go_upto_region 8 with (first
    | (go_at_call 13; refine (CRS.out _).mono ?_; rintro e w6 ⟨rfl, hb6⟩; have HB6 := Lib.hid hb6; clear hb6)
    | (refine wpList_store_row rfl 31 (.tmp 11) (.tmp 56) rfl w6.heap.size R.toArray rfl rfl 31 _ (Whole.new _ _ _) (by rw [HRZ.out]; kernel_rfl) (by rw [HRZ.out]; rfl) HR1.out ?_))
  refine cut_world (fun X => Whole X w6.heap.size 31 R.toArray ∧ Below B w X) ⟨?_, ?_⟩ ?_
  · exact setRow_heap _ _ _ _ _ _ (Whole.new _ _ _)
  · exact below_setRow (below_alloc' (KB5.out.trans (HB6.out.mono (Nat.le_of_lt K5.out))) (Nat.le_of_lt (Nat.lt_of_lt_of_le K5.out HB6.out.size)) _) (Nat.le_of_lt (Nat.lt_of_lt_of_le K5.out HB6.out.size)) _
  rintro Y ⟨y1, yb⟩
  have yl : B < Y.heap.size := Nat.lt_trans (Nat.lt_of_lt_of_le K5.out HB6.out.size) y1.lt
  have Y1 := Lib.hid y1
  have YB := Lib.hid yb
  have YL := Lib.hid yl
  clear y1 yb yl KB5 K5 HB6 CRS
  generalize w6.heap.size = h at Y1 ⊢
  go_upto_region 9 with (first
    | (go_at_call 7; refine (CRM.out _).mono ?_; rintro e w7 ⟨rfl, rfl⟩))
  clear CRM
  cases e1 with
  | zero => cases e2 with
    | zero =>
      have CKS0 := CKS rfl
      have CNS0 := CNS rfl
      clear CKS CNS
      go_wp2_with (first
        | (go_at_call 6; refine (CA.out _).mono ?_; rintro e w8 ⟨rfl, hb8⟩; have Z1 := Lib.hid (Y1.out.below hb8 Y1.out.lt); have ZB := Lib.hid (YB.out.trans (hb8.mono (Nat.le_of_lt YL.out))); have ZL := Lib.hid (Nat.lt_of_lt_of_le YL.out hb8.size); clear hb8)
        | (refine Poly.wpList_load_row_if (by rfl) 31 (.tmp 11) rfl h rfl 31 R _ Z1.out rfl rfl (by rw [HRS.out]; kernel_rfl) ?_)
        | (go_at_call 14; refine (CKS0.out _).mono ?_; rintro e w9 ⟨rfl, hb9⟩; have VB := Lib.hid (ZB.out.trans (hb9.mono (Nat.le_of_lt ZL.out))); have VL := Lib.hid (Nat.lt_of_lt_of_le ZL.out hb9.size); clear hb9)
        | (go_at_call 9; refine (CNS0.out _ (HT.out.below VB.out (by rw [HB.out]; exact Nat.le_refl _))).mono ?_; rintro e w10 ⟨rfl, hb10⟩; have UB := Lib.hid (VB.out.trans (hb10.mono (Nat.le_of_lt VL.out))); clear hb10)
        | fail)
      go_ret
      exact ⟨rfl, by rw [HB.out]; exact UB.out⟩
    | succ e2 =>
      have CKS0 := CKS rfl
      clear CKS CNS
      have z2 : ((((e2 + 1 : Nat) : Int)) != 0) = true := by rw [bne_iff_ne]; omega
      go_wp2_with (first
        | (go_at_call 6; refine (CA.out _).mono ?_; rintro e w8 ⟨rfl, hb8⟩; have Z1 := Lib.hid (Y1.out.below hb8 Y1.out.lt); have ZB := Lib.hid (YB.out.trans (hb8.mono (Nat.le_of_lt YL.out))); have ZL := Lib.hid (Nat.lt_of_lt_of_le YL.out hb8.size); clear hb8)
        | (refine Poly.wpList_load_row_if (by rfl) 31 (.tmp 11) rfl h rfl 31 R _ Z1.out rfl rfl (by rw [HRS.out]; kernel_rfl) ?_)
        | (go_at_call 14; refine (CKS0.out _).mono ?_; rintro e w9 ⟨rfl, hb9⟩; have VB := Lib.hid (ZB.out.trans (hb9.mono (Nat.le_of_lt ZL.out))); have VL := Lib.hid (Nat.lt_of_lt_of_le ZL.out hb9.size); clear hb9)
        | fail)
      go_ret
      exact ⟨rfl, by rw [HB.out]; exact VB.out⟩
  | succ e1 => cases e2 with
    | zero =>
      have CNS0 := CNS rfl
      clear CKS CNS
      have z1 : ((((e1 + 1 : Nat) : Int)) != 0) = true := by rw [bne_iff_ne]; omega
      go_wp2_with (first
        | (go_at_call 6; refine (CA.out _).mono ?_; rintro e w8 ⟨rfl, hb8⟩; have Z1 := Lib.hid (Y1.out.below hb8 Y1.out.lt); have ZB := Lib.hid (YB.out.trans (hb8.mono (Nat.le_of_lt YL.out))); have ZL := Lib.hid (Nat.lt_of_lt_of_le YL.out hb8.size); clear hb8)
        | (go_at_call 9; refine (CNS0.out _ (HT.out.below ZB.out (by rw [HB.out]; exact Nat.le_refl _))).mono ?_; rintro e w10 ⟨rfl, hb10⟩; have UB := Lib.hid (ZB.out.trans (hb10.mono (Nat.le_of_lt ZL.out))); clear hb10)
        | fail)
      go_ret
      exact ⟨rfl, by rw [HB.out]; exact UB.out⟩
    | succ e2 =>
      clear CKS CNS
      have z1 : ((((e1 + 1 : Nat) : Int)) != 0) = true := by rw [bne_iff_ne]; omega
      have z2 : ((((e2 + 1 : Nat) : Int)) != 0) = true := by rw [bne_iff_ne]; omega
      go_wp2_with (first
        | (go_at_call 6; refine (CA.out _).mono ?_; rintro e w8 ⟨rfl, hb8⟩; have Z1 := Lib.hid (Y1.out.below hb8 Y1.out.lt); have ZB := Lib.hid (YB.out.trans (hb8.mono (Nat.le_of_lt YL.out))); have ZL := Lib.hid (Nat.lt_of_lt_of_le YL.out hb8.size); clear hb8)
        | fail)
      go_ret
      exact ⟨rfl, by rw [HB.out]; exact ZB.out⟩

end TextBack
end Go.Proofs.YtdcpbojknondcaaDoor
