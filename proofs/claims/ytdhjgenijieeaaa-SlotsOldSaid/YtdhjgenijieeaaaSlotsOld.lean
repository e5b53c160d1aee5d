/- The walk of SlotsOld. -/
import Derived.Test.YtdhjgenijieeaaaSlInv
namespace Go.Proofs.Ytdhjgenijieeaaa
namespace SlotsOld
open Go.ChangeShapes Go.WideShapes Go.ChangeAt Go.RowKit
open Num Mem Words Chacha Aead Poly Ops Quiet WinT Win Pr Sl

structure OlW (w : World) (B : Nat) (x : SS) (X : World) : Prop where
  s : Whole X B 36 (slL x).toArray
  bel : Below B w X
theorem OlW.below {w : World} {B : Nat} {x : SS} {X Y : World} (h : OlW w B x X) (hb : Below X.heap.size X Y) : OlW w B x Y := ⟨h.s.below hb h.s.lt, h.bel.trans (hb.mono (Nat.le_of_lt h.s.lt))⟩
theorem OlW.set {w : World} {B : Nat} {x y : SS} {X : World} (h : OlW w B x X) : OlW w B y (X.setRow B (slL y).toArray) := ⟨setRow_heap _ _ _ _ _ _ h.s, below_setRow h.bel (Nat.le_refl _) _⟩
theorem run_built0 {P : Program} {o : Oper} {a : Act} {w : World} (t : TypeId) (ho : o.op = .build t #[]) (vs : Array Value) (hb : P.built t [] = some vs) : (execOp a.eval o).run P w = .ok (.value (.agg vs)) w := by
  have e : P.built t ((#[] : Array (Nat × Operand)).map fun (i, x) => (i, a.eval x)).toList = some vs := by simpa using hb
  unfold execOp
  simp only [ho, Sem.run_bind, run_build w t _ vs e, Result.andThen_ok, Sem.run_pure]
set_option maxRecDepth 100000 in
set_option maxHeartbeats 8000000 in
theorem walk0 {w : World} {A : Option Addr} {n c : Nat} {Q : Nat → OpS} (h : IsOps w A n Q) (last : Int) (hl0 : -9223372036854775808 ≤ last) (hl1 : last ≤ 9223372036854775807) :
    Calls Try.prog 5 #[.slice A n c, .int .i64 last] w fun e w' => e = .returned (.bool true) ∧ Below w.heap.size w w' := by
  have HO := Lib.hid h
  have hz := zero_slots
  clear h
  go_enter Try.func5, Try.ntmps5
  go_upto_region 2 with fail
  refine cut_world (fun X => OlW w w.heap.size noS X) ⟨Whole.new _ _ _, below_alloc (Below.refl _ _) _⟩ ?_
  rintro X0 h0
  have HSZ := Lib.hid (show ∀ X, Below w.heap.size w X → ∀ i, i < n → ∃ b off, A = some ⟨b, off, none⟩ ∧ X.rangeAt b (off + i * 73) (Q i).cells from fun X hX i hi => HO.out.range hX hi)
  have HQR := Lib.hid (show ∀ X, Below w.heap.size w X → ∀ i, i < n → Rd X (Q i).A (Q i).n (Q i).f ∧ Rd X (Q i).A2 (Q i).n2 (Q i).f2 from fun X hX i hi => ⟨(HO.out.ok i hi).rd.below hX (Nat.le_refl _), (HO.out.ok i hi).rd2.below hX (Nat.le_refl _)⟩)
  generalize hB : w.heap.size = B at h0 HSZ HQR ⊢
  have HB := Lib.hid hB
  have H0 := Lib.hid h0
  clear hB h0
  go_wp2_with fail
  go_loopw [6] (fun i X => ∃ (k : Nat) (x : SS), k ≤ n ∧ k ≤ 30 ∧ i = .int .i64 k ∧ Inv last x ∧ OlW w B x X) (fun i _ => 30 - (intOf i).toNat)
  case atStart => exact ⟨0, noS, Nat.zero_le _, Nat.zero_le _, rfl, inv_no last, H0.out⟩
  case round =>
    obtain ⟨k, x, hk, hk8, rfl, hI, hW⟩ := hrel
    have HI := Lib.hid hI
    have HW := Lib.hid hW
    clear hI hW H0
    have HXL := Lib.hid (And.intro (slL_length x) (sl_one x))
    by_cases hlt : k < n
    · by_cases h80 : k < 30
      · obtain ⟨b, off, rfl, hr⟩ := HSZ.out wr HW.out.bel k hlt
        have HR := Lib.hid hr
        have HOK := Lib.hid (HO.out.ok k hlt)
        have HRD := Lib.hid (fun V (hV : Below B w V) => HQR.out V hV k hlt)
        have HQL := Lib.hid (And.intro (Q k).len (Q k).one')
        obtain ⟨q, hq⟩ : ∃ q, Q k = q := ⟨_, rfl⟩
        rw [hq] at HR HOK HRD HQL
        have HMX := Lib.hid (show ∀ V M, Whole V M 42 q.cells.toArray → (V.cell? ⟨M, 0, none⟩ = some (.int .i64 q.k) ∧ V.cell? ⟨M, 68, none⟩ = some (.slice q.A q.n q.c) ∧ V.cell? ⟨M, 71, none⟩ = some (.slice q.A2 q.n2 q.c2) ∧ V.cell? ⟨M, 72, none⟩ = some (.int .i64 q.t)) ∧ V.rangeAt M 1 (keysL q.s q.r q.l q.m q.one) ∧ V.rangeAt M 69 (dataL q.rl q.rn (.slice q.A2 q.n2 q.c2)) from fun V M hM => by
          have hg := Poly.whole_range hM
          have e1 := op_kind hg
          have e2 := op_plain hg
          have e3 := op_box hg
          have e4 := op_time hg
          have e5 := op_keys hg
          have e6 := op_data hg
          simp only [Nat.zero_add] at e2 e3 e4 e5 e6
          exact ⟨⟨e1, e2, e3, e4⟩, e5, e6⟩)
        obtain ⟨Z, hZS, hzo⟩ := zero_ops
        have HZS := Lib.hid hZS
        obtain ⟨C, hC⟩ : ∃ C, q.cells = C := ⟨_, rfl⟩
        rw [hC] at HR HQL HMX
        clear hr hq hC hZS
        go_upto_region 6 with (first
          | (refine wpList_load_mid rfl 42 (.tmp 24) rfl b (off + k * 73) (by go_simp) C _ HR.out rfl rfl (by rw [HQL.out.1]; kernel_rfl) ?_)
          | (refine wpList_store_row rfl 42 (.tmp 7) (.tmp 25) rfl wr.heap.size C.toArray rfl rfl 42 Z (Whole.new _ _ _) (by rw [List.size_toArray, HQL.out.1]; kernel_rfl) (by rw [HZS.out, List.size_toArray, HQL.out.1]) HQL.out.2 ?_))
        refine cut_world (fun X => OlW w B x X ∧ Whole X wr.heap.size 42 C.toArray ∧ wr.heap.size ≠ B) ⟨HW.out.below (below_var _ _ _ _), setRow_heap _ _ _ _ _ _ (Whole.new _ _ _), by have := HW.out.s.lt; omega⟩ ?_
        rintro V hV
        generalize wr.heap.size = M at hV ⊢
        have HV := Lib.hid hV
        clear hV HW HR hzo
        obtain ⟨⟨c0, c68, c71, c72⟩, hky, hdt⟩ := HMX.out _ _ HV.out.2.1
        have HKY := Lib.hid hky
        have HDT := Lib.hid hdt
        clear hky hdt
        by_cases hbig : 1600 < q.n
        · have d1 : decide ((1600 : Int) < (q.n : Int)) = true := decide_eq_true (by omega)
          go_wp2_with fail
          refine (alive_any _).mono ?_
          rintro e Y1 ⟨rfl, hb1⟩
          have HBE := Lib.hid (HV.out.1.bel.trans (hb1.mono (Nat.le_of_lt HV.out.1.s.lt)))
          clear hb1
          go_wp2_with fail
          go_ret
          exact ⟨rfl, by rw [HB.out]; exact HBE.out⟩
        · have d1 : decide ((1600 : Int) < (q.n : Int)) = false := decide_eq_false (by omega)
          by_cases hbig2 : 1600 < q.n2
          · have d2 : decide ((1600 : Int) < (q.n2 : Int)) = true := decide_eq_true (by omega)
            go_wp2_with fail
            refine (alive_any _).mono ?_
            rintro e Y1 ⟨rfl, hb1⟩
            have HBE := Lib.hid (HV.out.1.bel.trans (hb1.mono (Nat.le_of_lt HV.out.1.s.lt)))
            clear hb1
            go_wp2_with fail
            go_ret
            exact ⟨rfl, by rw [HB.out]; exact HBE.out⟩
          · have d2 : decide ((1600 : Int) < (q.n2 : Int)) = false := decide_eq_false (by omega)
            by_cases hk0 : q.k = 0
            · rw [hk0] at c0
              have HK := Lib.hid hk0
              by_cases ht : q.t ≤ last
              · have d3 : decide (q.t ≤ last) = true := decide_eq_true ht
                have HT := Lib.hid ht
                have HIN := Lib.hid (fun w => install_all x q.s q.r q.l q.m q.one q.t w)
                unfold slV at HIN
                have HKL := Lib.hid (keysL_length q.s q.r q.l q.m q.one)
                obtain ⟨K, hK⟩ : ∃ K, keysL q.s q.r q.l q.m q.one = K := ⟨_, rfl⟩
                rw [hK] at HIN HKY HKL
                clear hK ht hk0
                go_upto_region 10 with (first
                  | (refine wpList_load_row rfl 36 (.tmp 5) rfl B rfl 36 (slL x).toArray (0, 0) _ HV.out.1.s rfl rfl (by rw [List.size_toArray, HXL.out.1]; kernel_rfl) ?_)
                  | (refine wpList_load_mid rfl 27 (.tmp 49) rfl M 1 rfl K _ HKY.out rfl rfl (by rw [HKL.out]; kernel_rfl) ?_)
                  | (go_at_call 7; refine (HIN.out _).mono ?_; rintro e V2 ⟨⟨y, E, rfl, hy⟩, hb2⟩; unfold slV; have HV2 := Lib.hid (And.intro (HV.out.1.below hb2) (HV.out.2.1.below hb2 HV.out.2.1.lt)); have HY := Lib.hid hy; clear hb2 hy)
                  | (refine wpList_store_row rfl 36 (.tmp 5) (.tmp 54) rfl B (slL y).toArray rfl rfl 36 _ HV2.out.1.s (by rw [List.size_toArray, slL_length]; kernel_rfl) (by rw [sl_size, sl_size]) (sl_one y) ?_))
                have HIY := Lib.hid (show Inv last y from by
                  rcases HY.out with ⟨e, _⟩ | ⟨e, _, hr⟩
                  · rw [e]; exact HI.out
                  · rw [e]; exact inv_inst HI.out (newP_ok HOK.out.s HOK.out.r HOK.out.l HOK.out.m hr) HT.out)
                refine cut_world (fun X => OlW w B y X ∧ Whole X M 42 C.toArray) ⟨HV2.out.1.set, Whole.farRow HV2.out.2 HV.out.2.2 _⟩ ?_
                rintro V3 hV3
                have HV3 := Lib.hid hV3
                clear hV3 HV HV2 c0 c68 c71 c72
                have c0 := (HMX.out _ _ HV3.out.2).1.1
                rw [HK.out] at c0
                go_wp2_with fail
                go_round
                case rel => exact ⟨k + 1, y, by omega, by omega, by go_num, HIY.out, HV3.out.1⟩
                case measure => simp only [intOf]; omega
              · have d3 : decide (q.t ≤ last) = false := decide_eq_false ht
                go_wp2_with fail
                go_round
                case rel => exact ⟨k + 1, x, by omega, by omega, by go_num, HI.out, HV.out.1⟩
                case measure => simp only [intOf]; omega
            · by_cases hk1 : q.k = 1
              · rw [hk1] at c0
                have HK := Lib.hid hk1
                have HSE := Lib.hid (fun V (hr : Rd V q.A q.n q.f) => seal_all' x HI.out.1 q.A q.n q.c q.f HOK.out.f q.t HOK.out.t0 HOK.out.t1 V hr)
                unfold slV at HSE
                have HR1 := Lib.hid ((HRD.out _ HV.out.1.bel).1)
                clear hk0 hk1
                go_upto_region 12 with (first
                  | (refine wpList_load_row rfl 36 (.tmp 5) rfl B rfl 36 (slL x).toArray (0, 0) _ HV.out.1.s rfl rfl (by rw [List.size_toArray, HXL.out.1]; kernel_rfl) ?_)
                  | (go_at_call 8; refine (HSE.out _ HR1.out).mono ?_; rintro e V2 ⟨⟨y, D, E, rfl, _, _, hy⟩, hb2⟩; unfold slV; have HV2 := Lib.hid (And.intro (HV.out.1.below hb2) (HV.out.2.1.below hb2 HV.out.2.1.lt)); have HY := Lib.hid hy; clear hb2 hy)
                  | (refine wpList_store_row rfl 36 (.tmp 5) (.tmp 66) rfl B (slL y).toArray rfl rfl 36 _ HV2.out.1.s (by rw [List.size_toArray, slL_length]; kernel_rfl) (by rw [sl_size, sl_size]) (sl_one y) ?_))
                have HIY := Lib.hid (show Inv last y from by
                  rcases HY.out with ⟨e, _⟩ | ⟨e, _, _, hs⟩
                  · rw [e]; exact HI.out
                  · rw [e]; exact inv_tidy (inv_sealed HI.out hs))
                refine cut_world (fun X => OlW w B y X ∧ Whole X M 42 C.toArray) ⟨HV2.out.1.set, Whole.farRow HV2.out.2 HV.out.2.2 _⟩ ?_
                rintro V3 hV3
                have HV3 := Lib.hid hV3
                clear hV3 HV HV2 c0 c68 c71 c72
                have c0 := (HMX.out _ _ HV3.out.2).1.1
                rw [HK.out] at c0
                go_wp2_with fail
                go_round
                case rel => exact ⟨k + 1, y, by omega, by omega, by go_num, HIY.out, HV3.out.1⟩
                case measure => simp only [intOf]; omega
              · by_cases hk2 : q.k = 2
                · rw [hk2] at c0
                  have HK := Lib.hid hk2
                  have HOP := Lib.hid (fun V (hr : Rd V q.A2 q.n2 q.f2) => sopen_any x HI.out.1 q.t HOK.out.t0 HOK.out.t1 q.rl q.rn HOK.out.rn q.A2 q.n2 q.c2 q.f2 HOK.out.f2 HOK.out.nc HOK.out.c2 V hr)
                  unfold slV at HOP
                  have HR2 := Lib.hid ((HRD.out _ HV.out.1.bel).2)
                  have HDL := Lib.hid (show (dataL q.rl q.rn (.slice q.A2 q.n2 q.c2)).length = 3 from rfl)
                  obtain ⟨D, hD⟩ : ∃ D, dataL q.rl q.rn (.slice q.A2 q.n2 q.c2) = D := ⟨_, rfl⟩
                  rw [hD] at HOP HDT HDL
                  clear hD hk0 hk1 hk2
                  go_wp2_with (first
                    | (refine wpList_load_row rfl 36 (.tmp 5) rfl B rfl 36 (slL x).toArray (0, 0) _ HV.out.1.s rfl rfl (by rw [List.size_toArray, HXL.out.1]; kernel_rfl) ?_)
                    | (refine wpList_load_mid rfl 40 (.tmp 74) rfl M 69 rfl D _ HDT.out rfl rfl (by rw [HDL.out]; kernel_rfl) ?_)
                    | (go_at_call 10; refine (HOP.out _ HR2.out).mono ?_; rintro e V2 ⟨⟨y, A', kk, nx, E, rfl, hy⟩, hb2⟩; unfold slV; have HV2 := Lib.hid (And.intro (HV.out.1.below hb2) (HV.out.2.1.below hb2 HV.out.2.1.lt)); have HY := Lib.hid hy; clear hb2 hy)
                    | (refine wpList_store_row rfl 36 (.tmp 5) (.tmp 79) rfl B (slL y).toArray rfl rfl 36 _ HV2.out.1.s (by rw [List.size_toArray, slL_length]; kernel_rfl) (by rw [sl_size, sl_size]) (sl_one y) ?_))
                  have HIY := Lib.hid (inv_open HI.out HY.out)
                  go_round
                  case rel => exact ⟨k + 1, y, by omega, by omega, by go_num, HIY.out, HV2.out.1.set⟩
                  case measure => simp only [intOf]; omega
                · have n0 : (q.k == 0) = false := by simp [hk0]
                  have n1 : (q.k == 1) = false := by simp [hk1]
                  have n2 : (q.k == 2) = false := by simp [hk2]
                  go_wp2_with fail
                  go_round
                  case rel => exact ⟨k + 1, x, by omega, by omega, by go_num, HI.out, HV.out.1⟩
                  case measure => simp only [intOf]; omega
      ·
        by_cases hn0 : last < 0
        · have d1 : decide (last < 0) = true := decide_eq_true hn0
          go_upto_region 14 with fail
          go_wp2_with fail
          refine (alive_any _).mono ?_
          rintro e Y1 ⟨rfl, hb1⟩
          have HBE := Lib.hid (HW.out.bel.trans (hb1.mono (Nat.le_of_lt HW.out.s.lt)))
          clear hb1
          go_wp2_with fail
          go_ret
          exact ⟨rfl, by rw [HB.out]; exact HBE.out⟩
        · have d1 : decide (last < 0) = false := decide_eq_false hn0
          by_cases hn1 : 1099511447776 < last
          · have d2 : decide (1099511447776 < last) = true := decide_eq_true hn1
            go_upto_region 14 with fail
            go_wp2_with fail
            refine (alive_any _).mono ?_
            rintro e Y1 ⟨rfl, hb1⟩
            have HBE := Lib.hid (HW.out.bel.trans (hb1.mono (Nat.le_of_lt HW.out.s.lt)))
            clear hb1
            go_wp2_with fail
            go_ret
            exact ⟨rfl, by rw [HB.out]; exact HBE.out⟩
          · have d2 : decide (1099511447776 < last) = false := decide_eq_false hn1
            have hT0 : -9223372036854775808 ≤ last + 180000 ∧ last + 180000 ≤ 9223372036854775807 := by omega
            have hold : ∀ p : PS, p.born ≤ last → oldB p (last + 180000) = true := fun p hp => old_at hp
            have HSE := Lib.hid (fun (V : World) => seal_all' x HI.out.1 none 0 0 (fun _ => 0) (fun _ => by decide) (last + 180000) hT0.1 hT0.2 V (.inl rfl))
            have HEX := Lib.hid (show ∀ V, Calls Try.prog 11 #[.agg (slL x).toArray, .int .i64 (last + 180000)] V fun e w' => e = .returned (.agg (slL noS).toArray) ∧ Below V.heap.size V w' from fun V => by
              have := expire_any x (last + 180000) hT0.1 hT0.2 V
              rw [expire_all (fun e => hold _ (HI.out.2.1 e)) (fun e => hold _ (HI.out.2.2.1 e)) (fun e => hold _ (HI.out.2.2.2 e))] at this
              exact this)
            have HCO := Lib.hid (show ∀ V, Calls Try.prog 12 #[.agg (slL noS).toArray] V fun e w' => e = .returned (.int .i64 0) ∧ Below V.heap.size V w' from fun V => count_any noS V)
            have HRE := Lib.hid (show ∀ V, Calls Try.prog 13 #[.agg (slL x).toArray, .int .i64 (last + 180000)] V fun e w' => e = .returned (.bool false) ∧ Below V.heap.size V w' from fun V => by
              have := ready_any x (last + 180000) hT0.1 hT0.2 V
              rw [show readyB x (last + 180000) = false from by
                unfold readyB
                cases hc : x.hc with
                | false => rfl
                | true => rw [hold _ (HI.out.2.2.1 hc)]; rfl] at this
              exact this)
            have HTI := Lib.hid (show ∀ V, Calls Try.prog 14 #[.agg (slL x).toArray, .int .i64 (last + 180000)] V fun e w' => e = .returned (.bool true) ∧ Below V.heap.size V w' from fun V => tired_old x (last + 180000) hT0.1 hT0.2 (fun e => hold _ (HI.out.2.2.1 e)) V)
            have HEE := Lib.hid (show ∀ y E, SealP x y (last + 180000) 0 E → E = 4 ∨ E = 82 from fun y E hy => by
              rcases hy with ⟨_, e, _⟩ | ⟨_, _, hc, hs⟩
              · cases hc : x.hc with
                | false => rw [hc] at e; exact .inl e
                | true =>
                  rw [if_pos hc] at e
                  unfold sE at e
                  rw [if_pos (hold _ (HI.out.2.2.1 hc))] at e
                  exact .inr e
              · unfold sE at hs
                rw [if_pos (hold _ (HI.out.2.2.1 hc))] at hs
                cases hs)
            unfold slV at HSE
            have HZD := Lib.hid (show ∀ w : World, (zeroValue 40).run Try.prog w = .ok (.agg noD.toArray) w from zero_data)
            have hzd := HZD.out
            clear hold
            go_upto_region 14 with fail
            go_upto_region 18 with (first
              | (refine wpList_load_row rfl 36 (.tmp 5) rfl B rfl 36 (slL x).toArray (0, 0) _ HW.out.s rfl rfl (by rw [List.size_toArray, slL_length]; kernel_rfl) ?_)
              | (go_at_call 8; refine (HSE.out _).mono ?_; rintro e V2 ⟨⟨y, D, E, rfl, hD1, hD2, hy⟩, hb2⟩; unfold slV; have HV2 := Lib.hid (HW.out.below hb2); have HY := Lib.hid (HEE.out y E hy); have HD := Lib.hid (And.intro hD1 hD2); clear hb2 hy hD1 hD2)
              | (refine wpList_store_row rfl 36 (.tmp 9) (.tmp 96) rfl V2.heap.size (slL y).toArray rfl rfl 36 _ ((Whole.new _ _ _).alloc _) (by rw [List.size_toArray, slL_length]; kernel_rfl) (by rw [sl_size, sl_size]) (sl_one y) ?_)
              | (refine wpList_store_row rfl 40 (.tmp 10) (.tmp 97) rfl (V2.heap.size + 1) D.toArray rfl rfl 40 noD.toArray (Whole.farRow (whole_new _ _ (by simp)) (by omega) _) (by rw [List.size_toArray, HD.out.1]; kernel_rfl) (by rw [List.size_toArray, List.size_toArray, HD.out.1]; rfl) HD.out.2 ?_))
            refine cut_world (fun X => OlW w B x X) (HV2.out.below (below_two _ _ _ _ _)) ?_
            rintro V3 h3
            have H3 := Lib.hid h3
            clear h3 HV2 HW hzd
            go_wp2_with fail
            refine (alive_any _).mono ?_
            rintro e Y1 ⟨rfl, hb1⟩
            have HA1 := Lib.hid (H3.out.below hb1)
            clear hb1 H3
            go_wp2_with (refine Ops.wpList_value_if (by rfl) (.agg (slL x).toArray) (run_load_in 36 (.tmp 5) rfl B rfl (slL x).toArray 219 (sl_size x) HA1.out.s rfl rfl (by kernel_rfl)) ?_)
            refine (HEX.out _).mono ?_
            rintro e Y2 ⟨rfl, hb1⟩
            have HA2 := Lib.hid (HA1.out.below hb1)
            clear hb1 HA1
            go_wp2_with fail
            refine (HCO.out _).mono ?_
            rintro e Y3 ⟨rfl, hb1⟩
            have HA3 := Lib.hid (HA2.out.below hb1)
            clear hb1 HA2
            go_wp2_with (refine Ops.wpList_value_if (by rfl) (.agg (slL x).toArray) (run_load_in 36 (.tmp 5) rfl B rfl (slL x).toArray 219 (sl_size x) HA3.out.s rfl rfl (by kernel_rfl)) ?_)
            refine (HEX.out _).mono ?_
            rintro e Y4 ⟨rfl, hb1⟩
            have HA4 := Lib.hid (HA3.out.below hb1)
            clear hb1 HA3
            go_wp2_with (first
              | (refine Ops.wpList_value_if (by rfl) (.agg (slL noS).toArray) (run_built0 36 rfl (slL noS).toArray built_noS) ?_)
              | (refine Ops.wpList_value_if (by rfl) (.bool true) (Ops.run_eql_op 36 (.tmp 110) (.tmp 111) 36 rfl (slL noS).toArray (slL noS).toArray rfl rfl true (by kernel_rfl) (fun w => eq_noS w) _) ?_)
              | (refine Ops.wpList_value_if (by rfl) (.agg (slL x).toArray) (run_load_in 36 (.tmp 5) rfl B rfl (slL x).toArray 219 (sl_size x) HA4.out.s rfl rfl (by kernel_rfl)) ?_))
            refine (HRE.out _).mono ?_
            rintro e Y5 ⟨rfl, hb1⟩
            have HA5 := Lib.hid (HA4.out.below hb1)
            clear hb1 HA4
            go_wp2_with (refine Ops.wpList_value_if (by rfl) (.agg (slL x).toArray) (run_load_in 36 (.tmp 5) rfl B rfl (slL x).toArray 219 (sl_size x) HA5.out.s rfl rfl (by kernel_rfl)) ?_)
            refine (HTI.out _).mono ?_
            rintro e Y6 ⟨rfl, hb1⟩
            have HA6 := Lib.hid (HA5.out.below hb1)
            clear hb1 HA5
            rcases HY.out with rfl | rfl
            · go_wp2_with fail
              go_ret
              exact ⟨rfl, by rw [HB.out]; exact HA6.out.bel⟩
            · go_wp2_with fail
              go_ret
              exact ⟨rfl, by rw [HB.out]; exact HA6.out.bel⟩
    ·
      by_cases hn0 : last < 0
      · have d1 : decide (last < 0) = true := decide_eq_true hn0
        go_upto_region 14 with fail
        go_wp2_with fail
        refine (alive_any _).mono ?_
        rintro e Y1 ⟨rfl, hb1⟩
        have HBE := Lib.hid (HW.out.bel.trans (hb1.mono (Nat.le_of_lt HW.out.s.lt)))
        clear hb1
        go_wp2_with fail
        go_ret
        exact ⟨rfl, by rw [HB.out]; exact HBE.out⟩
      · have d1 : decide (last < 0) = false := decide_eq_false hn0
        by_cases hn1 : 1099511447776 < last
        · have d2 : decide (1099511447776 < last) = true := decide_eq_true hn1
          go_upto_region 14 with fail
          go_wp2_with fail
          refine (alive_any _).mono ?_
          rintro e Y1 ⟨rfl, hb1⟩
          have HBE := Lib.hid (HW.out.bel.trans (hb1.mono (Nat.le_of_lt HW.out.s.lt)))
          clear hb1
          go_wp2_with fail
          go_ret
          exact ⟨rfl, by rw [HB.out]; exact HBE.out⟩
        · have d2 : decide (1099511447776 < last) = false := decide_eq_false hn1
          have hT0 : -9223372036854775808 ≤ last + 180000 ∧ last + 180000 ≤ 9223372036854775807 := by omega
          have hold : ∀ p : PS, p.born ≤ last → oldB p (last + 180000) = true := fun p hp => old_at hp
          have HSE := Lib.hid (fun (V : World) => seal_all' x HI.out.1 none 0 0 (fun _ => 0) (fun _ => by decide) (last + 180000) hT0.1 hT0.2 V (.inl rfl))
          have HEX := Lib.hid (show ∀ V, Calls Try.prog 11 #[.agg (slL x).toArray, .int .i64 (last + 180000)] V fun e w' => e = .returned (.agg (slL noS).toArray) ∧ Below V.heap.size V w' from fun V => by
            have := expire_any x (last + 180000) hT0.1 hT0.2 V
            rw [expire_all (fun e => hold _ (HI.out.2.1 e)) (fun e => hold _ (HI.out.2.2.1 e)) (fun e => hold _ (HI.out.2.2.2 e))] at this
            exact this)
          have HCO := Lib.hid (show ∀ V, Calls Try.prog 12 #[.agg (slL noS).toArray] V fun e w' => e = .returned (.int .i64 0) ∧ Below V.heap.size V w' from fun V => count_any noS V)
          have HRE := Lib.hid (show ∀ V, Calls Try.prog 13 #[.agg (slL x).toArray, .int .i64 (last + 180000)] V fun e w' => e = .returned (.bool false) ∧ Below V.heap.size V w' from fun V => by
            have := ready_any x (last + 180000) hT0.1 hT0.2 V
            rw [show readyB x (last + 180000) = false from by
              unfold readyB
              cases hc : x.hc with
              | false => rfl
              | true => rw [hold _ (HI.out.2.2.1 hc)]; rfl] at this
            exact this)
          have HTI := Lib.hid (show ∀ V, Calls Try.prog 14 #[.agg (slL x).toArray, .int .i64 (last + 180000)] V fun e w' => e = .returned (.bool true) ∧ Below V.heap.size V w' from fun V => tired_old x (last + 180000) hT0.1 hT0.2 (fun e => hold _ (HI.out.2.2.1 e)) V)
          have HEE := Lib.hid (show ∀ y E, SealP x y (last + 180000) 0 E → E = 4 ∨ E = 82 from fun y E hy => by
            rcases hy with ⟨_, e, _⟩ | ⟨_, _, hc, hs⟩
            · cases hc : x.hc with
              | false => rw [hc] at e; exact .inl e
              | true =>
                rw [if_pos hc] at e
                unfold sE at e
                rw [if_pos (hold _ (HI.out.2.2.1 hc))] at e
                exact .inr e
            · unfold sE at hs
              rw [if_pos (hold _ (HI.out.2.2.1 hc))] at hs
              cases hs)
          unfold slV at HSE
          have HZD := Lib.hid (show ∀ w : World, (zeroValue 40).run Try.prog w = .ok (.agg noD.toArray) w from zero_data)
          have hzd := HZD.out
          clear hold
          go_upto_region 14 with fail
          go_upto_region 18 with (first
            | (refine wpList_load_row rfl 36 (.tmp 5) rfl B rfl 36 (slL x).toArray (0, 0) _ HW.out.s rfl rfl (by rw [List.size_toArray, slL_length]; kernel_rfl) ?_)
            | (go_at_call 8; refine (HSE.out _).mono ?_; rintro e V2 ⟨⟨y, D, E, rfl, hD1, hD2, hy⟩, hb2⟩; unfold slV; have HV2 := Lib.hid (HW.out.below hb2); have HY := Lib.hid (HEE.out y E hy); have HD := Lib.hid (And.intro hD1 hD2); clear hb2 hy hD1 hD2)
            | (refine wpList_store_row rfl 36 (.tmp 9) (.tmp 96) rfl V2.heap.size (slL y).toArray rfl rfl 36 _ ((Whole.new _ _ _).alloc _) (by rw [List.size_toArray, slL_length]; kernel_rfl) (by rw [sl_size, sl_size]) (sl_one y) ?_)
            | (refine wpList_store_row rfl 40 (.tmp 10) (.tmp 97) rfl (V2.heap.size + 1) D.toArray rfl rfl 40 noD.toArray (Whole.farRow (whole_new _ _ (by simp)) (by omega) _) (by rw [List.size_toArray, HD.out.1]; kernel_rfl) (by rw [List.size_toArray, List.size_toArray, HD.out.1]; rfl) HD.out.2 ?_))
          refine cut_world (fun X => OlW w B x X) (HV2.out.below (below_two _ _ _ _ _)) ?_
          rintro V3 h3
          have H3 := Lib.hid h3
          clear h3 HV2 HW hzd
          go_wp2_with fail
          refine (alive_any _).mono ?_
          rintro e Y1 ⟨rfl, hb1⟩
          have HA1 := Lib.hid (H3.out.below hb1)
          clear hb1 H3
          go_wp2_with (refine Ops.wpList_value_if (by rfl) (.agg (slL x).toArray) (run_load_in 36 (.tmp 5) rfl B rfl (slL x).toArray 219 (sl_size x) HA1.out.s rfl rfl (by kernel_rfl)) ?_)
          refine (HEX.out _).mono ?_
          rintro e Y2 ⟨rfl, hb1⟩
          have HA2 := Lib.hid (HA1.out.below hb1)
          clear hb1 HA1
          go_wp2_with fail
          refine (HCO.out _).mono ?_
          rintro e Y3 ⟨rfl, hb1⟩
          have HA3 := Lib.hid (HA2.out.below hb1)
          clear hb1 HA2
          go_wp2_with (refine Ops.wpList_value_if (by rfl) (.agg (slL x).toArray) (run_load_in 36 (.tmp 5) rfl B rfl (slL x).toArray 219 (sl_size x) HA3.out.s rfl rfl (by kernel_rfl)) ?_)
          refine (HEX.out _).mono ?_
          rintro e Y4 ⟨rfl, hb1⟩
          have HA4 := Lib.hid (HA3.out.below hb1)
          clear hb1 HA3
          go_wp2_with (first
            | (refine Ops.wpList_value_if (by rfl) (.agg (slL noS).toArray) (run_built0 36 rfl (slL noS).toArray built_noS) ?_)
            | (refine Ops.wpList_value_if (by rfl) (.bool true) (Ops.run_eql_op 36 (.tmp 110) (.tmp 111) 36 rfl (slL noS).toArray (slL noS).toArray rfl rfl true (by kernel_rfl) (fun w => eq_noS w) _) ?_)
            | (refine Ops.wpList_value_if (by rfl) (.agg (slL x).toArray) (run_load_in 36 (.tmp 5) rfl B rfl (slL x).toArray 219 (sl_size x) HA4.out.s rfl rfl (by kernel_rfl)) ?_))
          refine (HRE.out _).mono ?_
          rintro e Y5 ⟨rfl, hb1⟩
          have HA5 := Lib.hid (HA4.out.below hb1)
          clear hb1 HA4
          go_wp2_with (refine Ops.wpList_value_if (by rfl) (.agg (slL x).toArray) (run_load_in 36 (.tmp 5) rfl B rfl (slL x).toArray 219 (sl_size x) HA5.out.s rfl rfl (by kernel_rfl)) ?_)
          refine (HTI.out _).mono ?_
          rintro e Y6 ⟨rfl, hb1⟩
          have HA6 := Lib.hid (HA5.out.below hb1)
          clear hb1 HA5
          rcases HY.out with rfl | rfl
          · go_wp2_with fail
            go_ret
            exact ⟨rfl, by rw [HB.out]; exact HA6.out.bel⟩
          · go_wp2_with fail
            go_ret
            exact ⟨rfl, by rw [HB.out]; exact HA6.out.bel⟩
theorem walk (A : Option Addr) (n c : Nat) (last : Int) (w : World) (h : Shp.Good w (.list (.obj shS)) [.slice A n c]) (hl : (Lit.int .i64 last).wf = true) : Calls Try.prog 5 #[.slice A n c, .int .i64 last] w fun e w' => e = .returned (.bool true) ∧ Below w.heap.size w w' := by
  obtain ⟨_, Q, hQ⟩ := open_ops h
  have hb : -9223372036854775808 ≤ last ∧ last ≤ 9223372036854775807 := by
    simp [Lit.wf, IntKind.min, IntKind.max, IntKind.signed, IntKind.bits] at hl
    omega
  exact walk0 hQ last hb.1 hb.2
end SlotsOld
end Go.Proofs.Ytdhjgenijieeaaa
