/- The walk of TrieLives. -/
import Derived.Test.YtcpfchfhcfdcpaaTlBoth
import Derived.Test.YtcpfchfhcfdcpaaTrPlay
import Derived.BigQuiet
namespace Go.Proofs.Ytcpfchfhcfdcpaa
namespace TrieLives
open Go.ChangeShapes Go.WideShapes Go.ChangeAt Go.RowKit
open Num Mem Words Chacha Aead Poly Quiet Ops Adr RowS Tri

set_option maxRecDepth 100000 in
set_option maxHeartbeats 8000000 in
theorem walk0 {w : World} {A : Option Addr} {n c : Nat} {Q : Nat → Opm} (h : IsOps w A n Q) :
    Calls Try.prog 3 #[.slice A n c] w fun e w' => e = .returned (.bool true) ∧ Below w.heap.size w w' := by
  have HO := Lib.hid h
  have HFIT := Lib.hid (fun (k : Nat) (hk : k ≤ n) => play_fit (Q := Q) (k := k) em_fit (fun i hi => h.ok i (Nat.lt_of_lt_of_le hi hk)))
  clear h
  go_enter Try.func3, Try.ntmps3
  go_wp2_with fail
  go_loopw [3, 4, 5] (fun t3 t4 t5 X => ∃ (k : Nat) (q : Option Nat) (B : Option Addr) (d : Nat), k ≤ n ∧ k ≤ 100 ∧ t5 = .int .i64 k ∧ t3 = ptrV q ∧ t4 = .slice B (playT Q emT k).L.length d ∧ TrW X (playT Q emT k) q ∧ RowQ X B d (playT Q emT k).L ∧ Below w.heap.size w X) (fun _ _ i _ => 100 - (intOf i).toNat)
  case atStart => exact ⟨0, none, none, 0, Nat.zero_le _, Nat.zero_le _, rfl, rfl, rfl, em_w _, ⟨⟨fun k x h => by cases h⟩, Nat.le_refl _, Nat.zero_le _⟩, Below.refl _ _⟩
  case round =>
    obtain ⟨k, q, B, d, hk, hk8, rfl, rfl, rfl, hT, hR, hB⟩ := hrel
    have HX := Lib.hid (And.intro hT (And.intro hR hB))
    have hfit := HFIT.out k hk
    have HTS := Lib.hid (show ∀ (_ : k < n) (T : Tm), playT Q emT k = T → playT Q emT (k + 1) = doT T (Q k) ∧ (doT T (Q k)).Fit from fun hlt T e => ⟨by rw [← e]; rfl, by rw [← e]; exact HFIT.out (k + 1) hlt⟩)
    clear hT hR hB
    obtain ⟨T, hTT⟩ : ∃ T, playT Q emT k = T := ⟨_, rfl⟩
    have HTT := Lib.hid hTT
    rw [hTT] at HX hfit ⊢
    have HC2 := Lib.hid (ct2_any hfit)
    have HF := Lib.hid hfit
    obtain ⟨m, hm⟩ : ∃ m, T.L.length = m := ⟨_, rfl⟩
    have HM := Lib.hid hm
    rw [hm] at HC2 ⊢
    clear hTT hfit hm
    by_cases hlt : k < n
    · by_cases h80 : k < 100
      · obtain ⟨b, off, rfl, hbl, hr⟩ := HO.out.range (i := k) (Below.refl _ _) hlt
        have HR := Lib.hid (range_below hr HX.out.2.2 hbl)
        obtain ⟨hts, hf2⟩ := HTS.out hlt T HTT.out
        have hok := HO.out.ok k hlt
        have HDO := Lib.hid (fun (X : World) (q : Option Nat) (h1 : TrW X T q) => do_any h1 HF.out hok)
        have HMO := Lib.hid (fun (X : World) (A : Option Addr) (c : Nat) (h1 : RowQ X A c T.L) => model_any h1 HF.out hok)
        obtain ⟨r, C1, TH, go, gb, hct⟩ := ct_any hf2 hok
        have HCT := Lib.hid hct
        have HC3 := Lib.hid (ct2_any hf2)
        obtain ⟨T2, hT2⟩ : ∃ T2, doT T (Q k) = T2 := ⟨_, rfl⟩
        obtain ⟨E, hE⟩ : ∃ E, doE T (Q k) = E := ⟨_, rfl⟩
        rw [hT2] at HDO HMO HCT HC3 hts
        rw [hE] at HDO HMO
        obtain ⟨m2, hm2⟩ : ∃ m, T2.L.length = m := ⟨_, rfl⟩
        rw [hm2] at HMO HCT HC3
        rw [HM.out] at HMO
        have HN := Lib.hid (And.intro hts hm2)
        have HXL := Lib.hid (show (Q k).cells.length = 37 ∧ (Q k).cells.toArray.all (·.oneCell') = true from ⟨(Q k).len, (Q k).one⟩)
        obtain ⟨Z, hZS, hz⟩ := zero_op'
        have HZS := Lib.hid hZS
        have HMX := Lib.hid (show ∀ V N1, Whole V N1 31 (Q k).cells.toArray → V.rangeAt N1 1 (prefL (Q k).s (Q k).g (Q k).z) ∧ V.rangeAt N1 20 (addrL (Q k).s2 (Q k).g2) from fun V N1 h => ⟨fun j v hj => by rw [h.cell, List.getElem?_toArray]; exact (Q k).pref hj, fun j v hj => by rw [h.cell, List.getElem?_toArray]; exact (Q k).addr hj⟩)
        have HPX := Lib.hid (And.intro (prefL_length (Q k).s (Q k).g (Q k).z) (addrL_length (Q k).s2 (Q k).g2))
        obtain ⟨C, hC⟩ : ∃ C, (Q k).cells = C := ⟨_, rfl⟩
        obtain ⟨PG, hPG⟩ : ∃ C, prefL (Q k).s (Q k).g (Q k).z = C := ⟨_, rfl⟩
        obtain ⟨AL, hAL⟩ : ∃ C, addrL (Q k).s2 (Q k).g2 = C := ⟨_, rfl⟩
        rw [hC] at HR HXL HDO HMO HMX
        rw [hPG] at HMX HPX HCT
        rw [hAL] at HMX HPX HCT
        clear hr hC hbl hPG hAL hm2 hts hf2 hok hct hT2 hE hZS
        go_upto_region 7 with (first
          | (refine wpList_load_mid rfl 31 (.tmp 31) rfl b (off + k * 37) (by go_simp) C _ HR.out rfl rfl (by rw [HXL.out.1]; kernel_rfl) ?_)
          | (refine wpList_store_row rfl 31 (.tmp 6) (.tmp 32) rfl wr.heap.size C.toArray rfl rfl 31 Z (Whole.new _ _ _) (by rw [List.size_toArray, HXL.out.1]; kernel_rfl) (by rw [HZS.out, List.size_toArray, HXL.out.1]) HXL.out.2 ?_))
        refine cut_world (fun X => PyW w wr.heap.size C T q B d T.L X) ⟨setRow_heap _ _ _ _ _ _ (Whole.new _ _ _), HX.out.1.below (below_var _ _ _ _), HX.out.2.1.below (below_var _ _ _ _) (Nat.le_refl _), HX.out.2.2.trans ((below_var _ _ _ _).mono HX.out.2.2.size)⟩ ?_
        rintro X1 h1
        have HX1 := Lib.hid h1
        generalize wr.heap.size = M at HX1 ⊢
        clear h1 HX HR
        go_upto_region 8 with (first
          | (refine wpList_load_row rfl 31 (.tmp 6) rfl M rfl 31 C.toArray (0, 0) _ HX1.out.op rfl rfl (by rw [List.size_toArray, HXL.out.1]; kernel_rfl) ?_)
          | (go_at_call 8; refine (HDO.out _ q HX1.out.t).mono ?_; rintro e X2 ⟨q2, rfl, h2, hb2⟩; have HX2 := Lib.hid (show PyW w M C T2 q2 B d T.L X2 from ⟨HX1.out.op.below hb2 HX1.out.op.lt, h2, HX1.out.r.below hb2 (Nat.le_refl _), HX1.out.bel.trans (hb2.mono HX1.out.bel.size)⟩); clear h2 hb2))
        go_upto_region 9 with (first
          | (refine wpList_load_row rfl 31 (.tmp 6) rfl M rfl 31 C.toArray (0, 0) _ HX2.out.op rfl rfl (by rw [List.size_toArray, HXL.out.1]; kernel_rfl) ?_)
          | (go_at_call 9; refine (HMO.out _ B d HX2.out.r).mono ?_; rintro e X3 ⟨B2, d2, rfl, h2, hb2⟩; have HX3 := Lib.hid (show PyW w M C T2 q2 B2 d2 T2.L X3 from ⟨HX2.out.op.below hb2 HX2.out.op.lt, HX2.out.t.below hb2, h2, HX2.out.bel.trans (hb2.mono HX2.out.bel.size)⟩); clear h2 hb2))
        have hz1 := zero_route
        have hz2 := zero_refr
        have HZS1 := Lib.hid (show (routeL false nought 0 0).toArray.size = 19 by rw [List.size_toArray, routeL_length])
        obtain ⟨Z1, hZ1⟩ : ∃ Z, (routeL false nought 0 0).toArray = Z := ⟨_, rfl⟩
        rw [hZ1] at hz1 hz2 HZS1
        have HRC := Lib.hid (show C1.length = 19 ∧ C1.toArray.all (·.oneCell') = true from by rw [← HCT.out.cel]; exact ⟨r.len, by rw [List.all_toArray, List.all_eq_true]; exact r.each⟩)
        clear hZ1 HX1 HX2
        go_upto_region 11 with (first
          | (refine wpList_load_mid rfl 27 (.tmp 49) rfl M 20 rfl AL _ (HMX.out _ _ HX3.out.op).2 rfl rfl (by rw [HPX.out.2]; kernel_rfl) ?_)
          | (go_at_call 10; refine (HCT.out.fT _ q2 HX3.out.t).mono ?_; rintro e X4 ⟨rfl, hb⟩; have HX4 := Lib.hid (HX3.out.below hb); clear hb)
          | (refine wpList_store_row rfl 38 (.tmp 11) (.tmp 52) rfl X4.heap.size C1.toArray rfl rfl 38 Z1 (Whole.new _ _ _) (by rw [List.size_toArray, HRC.out.1]; kernel_rfl) (by rw [HZS1.out, List.size_toArray, HRC.out.1]) HRC.out.2 ?_))
        refine cut_world (fun X => PzW w M X4.heap.size C C1 T2 q2 B2 d2 T2.L X) ⟨HX4.out.below (below_var _ _ _ _), setRow_heap _ _ _ _ _ _ (Whole.new _ _ _)⟩ ?_
        rintro X5 h5
        have HX5 := Lib.hid h5
        generalize X4.heap.size = M1 at HX5 ⊢
        clear h5 HX4 HX3
        go_upto_region 12 with (first
          | (refine wpList_load_mid rfl 27 (.tmp 56) rfl M 20 rfl AL _ (HMX.out _ _ HX5.out.y.op).2 rfl rfl (by rw [HPX.out.2]; kernel_rfl) ?_)
          | (go_at_call 11; refine (HCT.out.fR _ B2 d2 HX5.out.y.r).mono ?_; rintro e X6 ⟨rfl, hb⟩; have HX6 := Lib.hid (HX5.out.below hb); clear hb)
          | (refine wpList_store_row rfl 41 (.tmp 13) (.tmp 59) rfl X6.heap.size C1.toArray rfl rfl 41 Z1 (Whole.new _ _ _) (by rw [List.size_toArray, HRC.out.1]; kernel_rfl) (by rw [HZS1.out, List.size_toArray, HRC.out.1]) HRC.out.2 ?_))
        refine cut_world (fun X => PxW w M M1 X6.heap.size C C1 T2 q2 B2 d2 T2.L X) ⟨HX6.out.below (below_var _ _ _ _), setRow_heap _ _ _ _ _ _ (Whole.new _ _ _)⟩ ?_
        rintro X7 h7
        have HX7 := Lib.hid h7
        generalize X6.heap.size = M2 at HX7 ⊢
        clear h7 HX6 HX5
        go_upto_region 13 with (first
          | (refine wpList_load_mid rfl 29 (.tmp 63) rfl M 1 rfl PG _ (HMX.out _ _ HX7.out.z.y.op).1 rfl rfl (by rw [HPX.out.1]; kernel_rfl) ?_)
          | (go_at_call 12; refine (HCT.out.gT _ q2 HX7.out.z.y.t).mono ?_; rintro e X8 ⟨rfl, hb⟩; have HX8 := Lib.hid (HX7.out.below hb); clear hb))
        go_upto_region 14 with (first
          | (refine wpList_load_mid rfl 29 (.tmp 70) rfl M 1 rfl PG _ (HMX.out _ _ HX8.out.z.y.op).1 rfl rfl (by rw [HPX.out.1]; kernel_rfl) ?_)
          | (go_at_call 13; refine (HCT.out.gR _ B2 d2 HX8.out.z.y.r).mono ?_; rintro e X9 ⟨rfl, hb⟩; have HX9 := Lib.hid (HX8.out.below hb); clear hb))
        have HMR := Lib.hid (show ∀ V, PxW w M M1 M2 C C1 T2 q2 B2 d2 T2.L V → (V.rangeAt M1 0 (prefL r.s (byt r.p) (r.p.length : Int)) ∧ V.rangeAt M2 0 (prefL r.s (byt r.p) (r.p.length : Int))) ∧ V.cell? ⟨M1, 18, none⟩ = some (.int .i64 r.o) ∧ V.cell? ⟨M2, 18, none⟩ = some (.int .i64 r.o) from fun V hV => ⟨⟨fun j v hj => by rw [Nat.zero_add, hV.z.a.cell, List.getElem?_toArray, ← HCT.out.cel]; exact route_pre _ _ _ _ hj, fun j v hj => by rw [Nat.zero_add, hV.b.cell, List.getElem?_toArray, ← HCT.out.cel]; exact route_pre _ _ _ _ hj⟩, by rw [hV.z.a.cell, List.getElem?_toArray, ← HCT.out.cel]; exact r.own, by rw [hV.b.cell, List.getElem?_toArray, ← HCT.out.cel]; exact r.own⟩)
        have HPR := Lib.hid (prefL_length r.s (byt r.p) (r.p.length : Int))
        have HEQ := Lib.hid (eq_selfR r)
        obtain ⟨PR, hPR⟩ : ∃ PR, prefL r.s (byt r.p) (r.p.length : Int) = PR := ⟨_, rfl⟩
        rw [hPR] at HMR HPR HEQ
        have c1 := (HMR.out _ HX9.out).2.1
        have c2 := (HMR.out _ HX9.out).2.2
        have e1 : (((E : Nat) : Int) != ((E : Nat) : Int)) = false := by simp
        have e2 : (r.o != r.o) = false := by simp
        have e3 : (TH != TH) = false := by simp
        have e4 : (go != go) = false := by simp
        have e5 : (gb != gb) = false := by simp
        have e6 : (((m2 : Nat) : Int) != ((m2 : Nat) : Int)) = false := by simp
        clear hPR HX7 HX8
        go_wp2_with (first
          | (refine Ops.wpList_value_if (by rfl) (.agg PR.toArray) (run_mid_in 29 (.tmp 86) rfl M1 0 rfl PR _ (HMR.out _ HX9.out).1.1 rfl rfl (by rw [HPR.out]; kernel_rfl)) ?_)
          | (refine Ops.wpList_value_if (by rfl) (.agg PR.toArray) (run_mid_in 29 (.tmp 88) rfl M2 0 rfl PR _ (HMR.out _ HX9.out).1.2 rfl rfl (by rw [HPR.out]; kernel_rfl)) ?_)
          | (refine Ops.wpList_value_if (by rfl) (.bool false) (Ops.run_neq_op 29 (.tmp 87) (.tmp 89) 29 rfl PR.toArray PR.toArray rfl rfl true false rfl (by kernel_rfl) (fun w => HEQ.out w) _) ?_)
          | (go_at_call 14; refine (HC3.out.cn _ q2 HX9.out.z.y.t).mono ?_; rintro e X10 ⟨rfl, hb⟩; have HX10 := Lib.hid (HX9.out.below hb).z.y; clear hb))
        all_goals clear c1 c2 HX9 HEQ
        ·
          refine (HC3.out.ro _ q2 HX10.out.t).mono ?_
          rintro e X11 ⟨R, rfl, hr, hb⟩
          have HX11 := Lib.hid (And.intro hr (HX10.out.below hb))
          clear hr hb HX10
          go_wp2_with fail
          refine (HC3.out.asR _ R m2 HX11.out.1).mono ?_
          rintro e X12 ⟨R2, cr, rfl, hr, hb⟩
          have HX12 := Lib.hid (And.intro hr (HX11.out.2.below hb))
          clear hr hb HX11
          go_wp2_with fail
          refine (HC3.out.sa _ R2 B2 cr d2 HX12.out.1 HX12.out.2.r.rd).mono ?_
          rintro e X13 ⟨rfl, hb⟩
          have HX13 := Lib.hid (HX12.out.2.below hb)
          clear hb HX12
          go_wp2_with fail
          go_round
          case rel => exact ⟨k + 1, q2, B2, d2, by omega, by omega, by go_num, rfl, by rw [HN.out.1, HN.out.2], by rw [HN.out.1]; exact HX13.out.t, by rw [HN.out.1]; exact HX13.out.r, HX13.out.bel⟩
          case measure => simp only [intOf]; omega
        ·
          go_round
          case rel => exact ⟨k + 1, q2, B2, d2, by omega, by omega, by go_num, rfl, by rw [HN.out.1, HN.out.2], by rw [HN.out.1]; exact HX10.out.t, by rw [HN.out.1]; exact HX10.out.r, HX10.out.bel⟩
          case measure => simp only [intOf]; omega
      ·
        go_upto_region 18 with fail
        go_wp2_with fail
        refine (alive_any _).mono ?_
        rintro e Y1 ⟨rfl, hb1⟩
        have HY1 := Lib.hid (show TrW Y1 T q ∧ RowQ Y1 B d T.L ∧ Below w.heap.size w Y1 from ⟨HX.out.1.below hb1, HX.out.2.1.below hb1 (Nat.le_refl _), HX.out.2.2.trans (hb1.mono HX.out.2.2.size)⟩)
        clear hb1 HX
        go_wp2_with fail
        refine (HC2.out.ro _ q HY1.out.1).mono ?_
        rintro e Y2 ⟨R, rfl, hr, hb⟩
        have HY2 := Lib.hid (show RdQ Y2 R T.L ∧ RowQ Y2 B d T.L ∧ Below w.heap.size w Y2 from ⟨hr, HY1.out.2.1.below hb (Nat.le_refl _), HY1.out.2.2.trans (hb.mono HY1.out.2.2.size)⟩)
        clear hr hb HY1
        go_wp2_with fail
        refine (HC2.out.asR _ R m HY2.out.1).mono ?_
        rintro e Y3 ⟨R2, c2, rfl, hr, hb⟩
        have HY3 := Lib.hid (show RdQ Y3 R2 T.L ∧ RowQ Y3 B d T.L ∧ Below w.heap.size w Y3 from ⟨hr, HY2.out.2.1.below hb (Nat.le_refl _), HY2.out.2.2.trans (hb.mono HY2.out.2.2.size)⟩)
        clear hr hb HY2
        go_wp2_with fail
        refine (HC2.out.sa _ R2 B c2 d HY3.out.1 HY3.out.2.1.rd).mono ?_
        rintro e Y4 ⟨rfl, hb⟩
        have HY4 := Lib.hid (HY3.out.2.2.trans (hb.mono HY3.out.2.2.size))
        clear hb HY3
        go_wp2_with fail
        go_ret
        exact ⟨rfl, HY4.out⟩
    · by_cases h80 : k < 100
      ·
        go_upto_region 18 with fail
        go_wp2_with fail
        refine (alive_any _).mono ?_
        rintro e Y1 ⟨rfl, hb1⟩
        have HY1 := Lib.hid (show TrW Y1 T q ∧ RowQ Y1 B d T.L ∧ Below w.heap.size w Y1 from ⟨HX.out.1.below hb1, HX.out.2.1.below hb1 (Nat.le_refl _), HX.out.2.2.trans (hb1.mono HX.out.2.2.size)⟩)
        clear hb1 HX
        go_wp2_with fail
        refine (HC2.out.ro _ q HY1.out.1).mono ?_
        rintro e Y2 ⟨R, rfl, hr, hb⟩
        have HY2 := Lib.hid (show RdQ Y2 R T.L ∧ RowQ Y2 B d T.L ∧ Below w.heap.size w Y2 from ⟨hr, HY1.out.2.1.below hb (Nat.le_refl _), HY1.out.2.2.trans (hb.mono HY1.out.2.2.size)⟩)
        clear hr hb HY1
        go_wp2_with fail
        refine (HC2.out.asR _ R m HY2.out.1).mono ?_
        rintro e Y3 ⟨R2, c2, rfl, hr, hb⟩
        have HY3 := Lib.hid (show RdQ Y3 R2 T.L ∧ RowQ Y3 B d T.L ∧ Below w.heap.size w Y3 from ⟨hr, HY2.out.2.1.below hb (Nat.le_refl _), HY2.out.2.2.trans (hb.mono HY2.out.2.2.size)⟩)
        clear hr hb HY2
        go_wp2_with fail
        refine (HC2.out.sa _ R2 B c2 d HY3.out.1 HY3.out.2.1.rd).mono ?_
        rintro e Y4 ⟨rfl, hb⟩
        have HY4 := Lib.hid (HY3.out.2.2.trans (hb.mono HY3.out.2.2.size))
        clear hb HY3
        go_wp2_with fail
        go_ret
        exact ⟨rfl, HY4.out⟩
      ·
        go_upto_region 18 with fail
        go_wp2_with fail
        refine (alive_any _).mono ?_
        rintro e Y1 ⟨rfl, hb1⟩
        have HY1 := Lib.hid (show TrW Y1 T q ∧ RowQ Y1 B d T.L ∧ Below w.heap.size w Y1 from ⟨HX.out.1.below hb1, HX.out.2.1.below hb1 (Nat.le_refl _), HX.out.2.2.trans (hb1.mono HX.out.2.2.size)⟩)
        clear hb1 HX
        go_wp2_with fail
        refine (HC2.out.ro _ q HY1.out.1).mono ?_
        rintro e Y2 ⟨R, rfl, hr, hb⟩
        have HY2 := Lib.hid (show RdQ Y2 R T.L ∧ RowQ Y2 B d T.L ∧ Below w.heap.size w Y2 from ⟨hr, HY1.out.2.1.below hb (Nat.le_refl _), HY1.out.2.2.trans (hb.mono HY1.out.2.2.size)⟩)
        clear hr hb HY1
        go_wp2_with fail
        refine (HC2.out.asR _ R m HY2.out.1).mono ?_
        rintro e Y3 ⟨R2, c2, rfl, hr, hb⟩
        have HY3 := Lib.hid (show RdQ Y3 R2 T.L ∧ RowQ Y3 B d T.L ∧ Below w.heap.size w Y3 from ⟨hr, HY2.out.2.1.below hb (Nat.le_refl _), HY2.out.2.2.trans (hb.mono HY2.out.2.2.size)⟩)
        clear hr hb HY2
        go_wp2_with fail
        refine (HC2.out.sa _ R2 B c2 d HY3.out.1 HY3.out.2.1.rd).mono ?_
        rintro e Y4 ⟨rfl, hb⟩
        have HY4 := Lib.hid (HY3.out.2.2.trans (hb.mono HY3.out.2.2.size))
        clear hb HY3
        go_wp2_with fail
        go_ret
        exact ⟨rfl, HY4.out⟩
theorem walk (A : Option Addr) (n c : Nat) (w : World) (h : Shp.Good w (.list (.obj shO)) [.slice A n c]) : Calls Try.prog 3 #[.slice A n c] w fun e w' => e = .returned (.bool true) ∧ Below w.heap.size w w' := by
  obtain ⟨_, Q, hQ⟩ := open_ops h
  exact walk0 hQ
end TrieLives
end Go.Proofs.Ytcpfchfhcfdcpaa
