/- The walk of SlotsThree. -/
import Derived.Test.YtdhjgenijieeaaaSlIn
namespace Go.Proofs.Ytdhjgenijieeaaa
namespace SlotsThree
open Go.ChangeShapes Go.WideShapes Go.ChangeAt Go.RowKit
open Num Mem Words Chacha Aead Poly Ops Quiet WinT Win Pr RowS Sl

structure ThW (w : World) (B : Nat) (x : SS) (N : List Nat) (A : Option Addr) (c : Nat) (X : World) : Prop where
  s : Whole X B 36 (slL x).toArray
  own : X.ownsRow (B + 1) 25 1 (.slice A N.length c) N.length (u32L N)
  bel : Below B w X
theorem ThW.below {w : World} {B : Nat} {x : SS} {N : List Nat} {A : Option Addr} {c : Nat} {X Y : World} (h : ThW w B x N A c X) (hb : Below X.heap.size X Y) : ThW w B x N A c Y :=
  ⟨h.s.below hb h.s.lt, owns_same h.own fun _ _ hw _ => hw.below hb hw.lt, h.bel.trans (hb.mono (Nat.le_of_lt h.s.lt))⟩
theorem ThW.set {w : World} {B : Nat} {x y : SS} {N : List Nat} {A : Option Addr} {c : Nat} {X : World} (h : ThW w B x N A c X) : ThW w B y N A c (X.setRow B (slL y).toArray) :=
  ⟨setRow_heap _ _ _ _ _ _ h.s, owns_same h.own fun g _ hw hv => Whole.farRow hw (by have := own_ge h.own hv; omega) _, below_setRow h.bel (Nat.le_refl _) _⟩
theorem ThW.push {w : World} {B : Nat} {x : SS} {N : List Nat} {A A' : Option Addr} {c c' : Nat} {X Y : World} (l : Nat) (h : ThW w B x N A c X) (ho : Y.ownsRow (B + 1) 25 1 (.slice A' (N.length + 1) c') (N.length + 1) (u32L N ++ [.int .u32 (l : Nat)])) (hb : Below (B + 1) X Y) : ThW w B x (N ++ [l]) A' c' Y :=
  ⟨h.s.below hb (Nat.lt_succ_self _), by rw [List.length_append, List.length_singleton, u32L_snoc]; exact ho, h.bel.trans (hb.mono (Nat.le_succ _))⟩
set_option maxRecDepth 100000 in
set_option maxHeartbeats 8000000 in
theorem walk0 {w : World} {A : Option Addr} {n c : Nat} {Q : Nat → OpS} (h : IsOps w A n Q) :
    Calls Try.prog 3 #[.slice A n c] w fun e w' => e = .returned (.bool true) ∧ Below w.heap.size w w' := by
  have HO := Lib.hid h
  have hz := zero_slots
  have HZD := Lib.hid (show ∀ w : World, (zeroValue 40).run Try.prog w = .ok (.agg noD.toArray) w from zero_data)
  clear h
  go_enter Try.func3, Try.ntmps3
  go_upto_region 2 with fail
  refine cut_world (fun X => ThW w w.heap.size noS [] none 0 X) ⟨Whole.new _ _ _, ⟨rfl, .inl ⟨rfl, rfl⟩⟩, below_alloc (Below.refl _ _) _⟩ ?_
  rintro X0 h0
  have HSZ := Lib.hid (show ∀ X, Below w.heap.size w X → ∀ i, i < n → ∃ b off, A = some ⟨b, off, none⟩ ∧ X.rangeAt b (off + i * 73) (Q i).cells from fun X hX i hi => HO.out.range hX hi)
  have HQR := Lib.hid (show ∀ X, Below w.heap.size w X → ∀ i, i < n → Rd X (Q i).A (Q i).n (Q i).f ∧ Rd X (Q i).A2 (Q i).n2 (Q i).f2 from fun X hX i hi => ⟨(HO.out.ok i hi).rd.below hX (Nat.le_refl _), (HO.out.ok i hi).rd2.below hX (Nat.le_refl _)⟩)
  generalize hB : w.heap.size = B at h0 HSZ HQR ⊢
  have HB := Lib.hid hB
  have H0 := Lib.hid h0
  clear hB h0
  go_wp2_with fail
  go_loopw [4, 5] (fun s i X => ∃ (k : Nat) (x : SS) (N : List Nat) (Am : Option Addr) (cm : Nat), k ≤ n ∧ k ≤ 40 ∧ i = .int .i64 k ∧ s = .slice Am N.length cm ∧ N.length ≤ k ∧ Inv3 N x ∧ ThW w B x N Am cm X) (fun _ i _ => 40 - (intOf i).toNat)
  case atStart => exact ⟨0, noS, [], none, 0, Nat.zero_le _, Nat.zero_le _, rfl, rfl, Nat.le_refl _, ⟨(inv_no 0).1, (fun e => by cases e)⟩, H0.out⟩
  case round =>
    obtain ⟨k, x, N, Am, cm, hk, hk8, rfl, rfl, hNk, hI, hW⟩ := hrel
    have HI := Lib.hid hI
    have HW := Lib.hid hW
    clear hI hW H0
    have HXL := Lib.hid (And.intro (slL_length x) (sl_one x))
    by_cases hlt : k < n
    · by_cases h80 : k < 40
      · obtain ⟨b, off, rfl, hr⟩ := HSZ.out wr HW.out.bel k hlt
        have HR := Lib.hid hr
        have HOK := Lib.hid (HO.out.ok k hlt)
        have HRD := Lib.hid (fun V (hV : Below B w V) => HQR.out V hV k hlt)
        have HQL := Lib.hid (And.intro (Q k).len (Q k).one')
        obtain ⟨q, hq⟩ : ∃ q, Q k = q := ⟨_, rfl⟩
        rw [hq] at HR HOK HRD HQL
        have HMX := Lib.hid (show ∀ V M, Whole V M 42 q.cells.toArray → (V.cell? ⟨M, 0, none⟩ = some (.int .i64 q.k) ∧ V.cell? ⟨M, 68, none⟩ = some (.slice q.A q.n q.c) ∧ V.cell? ⟨M, 71, none⟩ = some (.slice q.A2 q.n2 q.c2) ∧ V.cell? ⟨M, 72, none⟩ = some (.int .i64 q.t)) ∧ (V.rangeAt M 1 (keysL q.s q.r q.l q.m q.one) ∧ V.rangeAt M 69 (dataL q.rl q.rn (.slice q.A2 q.n2 q.c2))) ∧ V.cell? ⟨M, 65, none⟩ = some (.int .u32 (q.l : Nat)) ∧ V.cell? ⟨M, 67, none⟩ = some (.bool q.one) ∧ V.cell? ⟨M, 69, none⟩ = some (.int .u32 (q.rl : Nat)) from fun V M hM => by
          have hg := Poly.whole_range hM
          have e1 := op_kind hg
          have e2 := op_plain hg
          have e3 := op_box hg
          have e4 := op_time hg
          have e5 := op_keys hg
          have e6 := op_data hg
          simp only [Nat.zero_add] at e2 e3 e4 e5 e6
          have hk : ∀ j v, ([.int .u32 (q.l : Nat), .int .u32 (q.m : Nat), .bool q.one] : List Value)[j]? = some v → (keysL q.s q.r q.l q.m q.one)[64 + j]? = some v := fun j v hj => by
            unfold keysL
            rw [List.getElem?_append_right (by rw [byteCells_length]; omega), List.getElem?_append_right (by simp only [byteCells_length]; omega)]
            simp only [byteCells_length]
            rw [show 64 + j - 32 - 32 = j by omega]
            exact hj
          exact ⟨⟨e1, e2, e3, e4⟩, ⟨e5, e6⟩, e5 64 _ (hk 0 _ rfl), e5 66 _ (hk 2 _ rfl), e6 0 _ rfl⟩)
        obtain ⟨Z, hZS, hzo⟩ := zero_ops
        have HZS := Lib.hid hZS
        obtain ⟨C, hC⟩ : ∃ C, q.cells = C := ⟨_, rfl⟩
        rw [hC] at HR HQL HMX
        clear hr hq hC hZS
        go_upto_region 7 with (first
          | (refine wpList_load_mid rfl 42 (.tmp 26) rfl b (off + k * 73) (by go_simp) C _ HR.out rfl rfl (by rw [HQL.out.1]; kernel_rfl) ?_)
          | (refine wpList_store_row rfl 42 (.tmp 6) (.tmp 27) rfl wr.heap.size C.toArray rfl rfl 42 Z (Whole.new _ _ _) (by rw [List.size_toArray, HQL.out.1]; kernel_rfl) (by rw [HZS.out, List.size_toArray, HQL.out.1]) HQL.out.2 ?_))
        refine cut_world (fun X => ThW w B x N Am cm X ∧ Whole X wr.heap.size 42 C.toArray ∧ wr.heap.size ≠ B) ⟨HW.out.below (below_var _ _ _ _), setRow_heap _ _ _ _ _ _ (Whole.new _ _ _), by have := HW.out.s.lt; omega⟩ ?_
        rintro V hV
        generalize wr.heap.size = M at hV ⊢
        have HV := Lib.hid hV
        clear hV HW HR hzo
        obtain ⟨⟨c0, c68, c71, c72⟩, ⟨hky, hdt⟩, c65, c67, c69⟩ := HMX.out _ _ HV.out.2.1
        have HKY := Lib.hid hky
        have HDT := Lib.hid hdt
        clear hky hdt
        by_cases hbig : 1600 < q.n
        · have d1 : decide ((1600 : Int) < (q.n : Int)) = true := decide_eq_true (by omega)
          go_wp2_with fail
          refine (alive_any _).mono ?_
          rintro e Y1 ⟨rfl, hb1⟩
          have HBE := Lib.hid (HV.out.1.bel.trans (hb1.mono (Nat.le_of_lt HV.out.1.s.lt)))
          clear hb1
          go_wp2_with fail
          go_ret
          exact ⟨rfl, by rw [HB.out]; exact HBE.out⟩
        · have d1 : decide ((1600 : Int) < (q.n : Int)) = false := decide_eq_false (by omega)
          by_cases hbig2 : 1600 < q.n2
          · have d2 : decide ((1600 : Int) < (q.n2 : Int)) = true := decide_eq_true (by omega)
            go_wp2_with fail
            refine (alive_any _).mono ?_
            rintro e Y1 ⟨rfl, hb1⟩
            have HBE := Lib.hid (HV.out.1.bel.trans (hb1.mono (Nat.le_of_lt HV.out.1.s.lt)))
            clear hb1
            go_wp2_with fail
            go_ret
            exact ⟨rfl, by rw [HB.out]; exact HBE.out⟩
          · have d2 : decide ((1600 : Int) < (q.n2 : Int)) = false := decide_eq_false (by omega)
            go_upto_region 9 with fail
            by_cases hk0 : q.k = 0
            · rw [hk0] at c0
              obtain ⟨ob, hob⟩ : ∃ b, q.one = b := ⟨_, rfl⟩
              have HON := Lib.hid hob
              rw [hob] at c67
              clear hob hk0
              obtain ⟨LI, hLI⟩ : ∃ LI : Int, ((q.l : Nat) : Int) = LI := ⟨_, rfl⟩
              have HLI := Lib.hid hLI
              rw [hLI] at c65
              clear hLI
              cases ob with
              | true =>
                go_upto_region 13 with (first
                  | (refine wpList_rowOne rfl 37 25 (.tmp 50) rfl (.int .u32 LI) rfl Try.underlying37 [Value.int .u32 LI].toArray (one_built LI) ?_)
                  | (at_builtin; rw [← HLI.out]; refine wpList_pushU (w := V) q.l rfl _ _ rfl rfl rfl HV.out.1.own (Nat.succ_le_of_lt HV.out.1.s.lt) (by omega) ?_; intro A3 c3 V1 hown hbel hkp; have HP := Lib.hid (And.intro (HV.out.1.push q.l hown hbel) (hkp _ _ _ HV.out.2.1 (by decide))); clear hown hbel hkp))
                have HIC := Lib.hid (show Inv3 (N ++ [q.l]) x ∧ (q.one = true → q.l ∈ N ++ [q.l]) from ⟨inv3_more HI.out q.l, fun _ => List.mem_append_right _ List.mem_cons_self⟩)
                clear HV HKY HDT c0 c68 c71 c72 c65 c67 c69
                obtain ⟨⟨_, _, _, c72⟩, ⟨hky, _⟩, _⟩ := HMX.out _ _ HP.out.2
                have HKY := Lib.hid hky
                have HIN := Lib.hid (fun w => install_all x q.s q.r q.l q.m q.one q.t w)
                unfold slV at HIN
                have HKL := Lib.hid (keysL_length q.s q.r q.l q.m q.one)
                obtain ⟨K, hK⟩ : ∃ K, keysL q.s q.r q.l q.m q.one = K := ⟨_, rfl⟩
                rw [hK] at HIN HKY HKL
                clear hK hky
                go_upto_region 26 with (first
                  | (refine wpList_load_row rfl 36 (.tmp 3) rfl B rfl 36 (slL x).toArray (0, 0) _ HP.out.1.s rfl rfl (by rw [List.size_toArray, HXL.out.1]; kernel_rfl) ?_)
                  | (refine wpList_load_mid rfl 27 (.tmp 55) rfl M 1 rfl K _ HKY.out rfl rfl (by rw [HKL.out]; kernel_rfl) ?_)
                  | (go_at_call 7; refine (HIN.out _).mono ?_; rintro e V5 ⟨⟨y, E, rfl, hy⟩, hb5⟩; unfold slV; have HV5 := Lib.hid (HP.out.1.below hb5); have HY := Lib.hid hy; clear hb5 hy)
                  | (refine wpList_store_row rfl 36 (.tmp 3) (.tmp 60) rfl B (slL y).toArray rfl rfl 36 _ HV5.out.s (by rw [List.size_toArray, slL_length]; kernel_rfl) (by rw [sl_size, sl_size]) (sl_one y) ?_))
                have HIY := Lib.hid (show Inv3 (N ++ [q.l]) y from by
                  rcases HY.out with ⟨e, _⟩ | ⟨e, _, hr⟩
                  · rw [e]; exact HIC.out.1
                  · rw [e]; exact inv3_inst HIC.out.1 (newP_ok HOK.out.s HOK.out.r HOK.out.l HOK.out.m hr) HIC.out.2)
                refine cut_world (fun X => ThW w B y (N ++ [q.l]) A3 c3 X) HV5.out.set ?_
                rintro V8 h8
                have HZ9 := Lib.hid h8
                clear h8 HP HV5 c72 HKY
                have HCT := Lib.hid (fun V => count_any y V)
                have hle : decide ((3 : Int) < (((nums y).length : Nat) : Int)) = false := decide_eq_false (by have := nums_le y; omega)
                unfold slV at HCT
                go_wp2_with (first
                  | (refine wpList_load_row rfl 36 (.tmp 3) rfl B rfl 36 (slL y).toArray (0, 0) _ HZ9.out.s rfl rfl (by rw [List.size_toArray, slL_length]; kernel_rfl) ?_)
                  | (go_at_call 12; refine (HCT.out _).mono ?_; rintro e V9 ⟨rfl, hb9⟩; have H9 := Lib.hid (HZ9.out.below hb9); clear hb9))
                go_round
                case rel => exact ⟨k + 1, y, N ++ [q.l], A3, c3, by omega, by omega, by go_num, (by rw [List.length_append, List.length_singleton]), (by rw [List.length_append, List.length_singleton]; omega), HIY.out, H9.out⟩
                case measure => simp only [intOf]; omega
              | false =>
                have HP := Lib.hid (And.intro HV.out.1 HV.out.2.1)
                have HIC := Lib.hid (show Inv3 N x ∧ (q.one = true → q.l ∈ N) from ⟨HI.out, fun e => by rw [HON.out] at e; cases e⟩)
                go_upto_region 13 with fail
                clear HV HKY HDT c0 c68 c71 c72 c65 c67 c69
                obtain ⟨⟨_, _, _, c72⟩, ⟨hky, _⟩, _⟩ := HMX.out _ _ HP.out.2
                have HKY := Lib.hid hky
                have HIN := Lib.hid (fun w => install_all x q.s q.r q.l q.m q.one q.t w)
                unfold slV at HIN
                have HKL := Lib.hid (keysL_length q.s q.r q.l q.m q.one)
                obtain ⟨K, hK⟩ : ∃ K, keysL q.s q.r q.l q.m q.one = K := ⟨_, rfl⟩
                rw [hK] at HIN HKY HKL
                clear hK hky
                go_upto_region 26 with (first
                  | (refine wpList_load_row rfl 36 (.tmp 3) rfl B rfl 36 (slL x).toArray (0, 0) _ HP.out.1.s rfl rfl (by rw [List.size_toArray, HXL.out.1]; kernel_rfl) ?_)
                  | (refine wpList_load_mid rfl 27 (.tmp 55) rfl M 1 rfl K _ HKY.out rfl rfl (by rw [HKL.out]; kernel_rfl) ?_)
                  | (go_at_call 7; refine (HIN.out _).mono ?_; rintro e V5 ⟨⟨y, E, rfl, hy⟩, hb5⟩; unfold slV; have HV5 := Lib.hid (HP.out.1.below hb5); have HY := Lib.hid hy; clear hb5 hy)
                  | (refine wpList_store_row rfl 36 (.tmp 3) (.tmp 60) rfl B (slL y).toArray rfl rfl 36 _ HV5.out.s (by rw [List.size_toArray, slL_length]; kernel_rfl) (by rw [sl_size, sl_size]) (sl_one y) ?_))
                have HIY := Lib.hid (show Inv3 (N) y from by
                  rcases HY.out with ⟨e, _⟩ | ⟨e, _, hr⟩
                  · rw [e]; exact HIC.out.1
                  · rw [e]; exact inv3_inst HIC.out.1 (newP_ok HOK.out.s HOK.out.r HOK.out.l HOK.out.m hr) HIC.out.2)
                refine cut_world (fun X => ThW w B y (N) Am cm X) HV5.out.set ?_
                rintro V8 h8
                have HZ9 := Lib.hid h8
                clear h8 HP HV5 c72 HKY
                have HCT := Lib.hid (fun V => count_any y V)
                have hle : decide ((3 : Int) < (((nums y).length : Nat) : Int)) = false := decide_eq_false (by have := nums_le y; omega)
                unfold slV at HCT
                go_wp2_with (first
                  | (refine wpList_load_row rfl 36 (.tmp 3) rfl B rfl 36 (slL y).toArray (0, 0) _ HZ9.out.s rfl rfl (by rw [List.size_toArray, slL_length]; kernel_rfl) ?_)
                  | (go_at_call 12; refine (HCT.out _).mono ?_; rintro e V9 ⟨rfl, hb9⟩; have H9 := Lib.hid (HZ9.out.below hb9); clear hb9))
                go_round
                case rel => exact ⟨k + 1, y, N, Am, cm, by omega, by omega, by go_num, rfl, (by omega), HIY.out, H9.out⟩
                case measure => simp only [intOf]; omega
            · by_cases hk1 : q.k = 1
              · rw [hk1] at c0
                have HSE := Lib.hid (fun V (hr : Rd V q.A q.n q.f) => seal_all' x HI.out.1 q.A q.n q.c q.f HOK.out.f q.t HOK.out.t0 HOK.out.t1 V hr)
                unfold slV at HSE
                have HR1 := Lib.hid ((HRD.out _ HV.out.1.bel).1)
                have hzd := HZD.out
                have HLC := Lib.hid (show ∀ V, ThW w B x N Am cm V → V.cell? ⟨B, 139, none⟩ = some (.int .u32 (x.c.l : Nat)) from fun V hV => loc_c hV.s)
                obtain ⟨CI, hCI⟩ : ∃ LI : Int, ((x.c.l : Nat) : Int) = LI := ⟨_, rfl⟩
                have HCI := Lib.hid hCI
                rw [hCI] at HLC
                clear hk0 hk1 hCI
                go_upto_region 16 with (first
                  | (refine wpList_load_row rfl 36 (.tmp 3) rfl B rfl 36 (slL x).toArray (0, 0) _ HV.out.1.s rfl rfl (by rw [List.size_toArray, HXL.out.1]; kernel_rfl) ?_)
                  | (go_at_call 8; refine (HSE.out _ HR1.out).mono ?_; rintro e V2 ⟨⟨y, D, E, rfl, hD1, hD2, hy⟩, hb2⟩; unfold slV; have HV2 := Lib.hid (HV.out.1.below hb2); have HY := Lib.hid hy; have HD := Lib.hid (And.intro hD1 hD2); clear hb2 hy hD1 hD2)
                  | (refine wpList_store_row rfl 36 (.tmp 7) (.tmp 71) rfl V2.heap.size (slL y).toArray rfl rfl 36 _ ((Whole.new _ _ _).alloc _) (by rw [List.size_toArray, slL_length]; kernel_rfl) (by rw [sl_size, sl_size]) (sl_one y) ?_)
                  | (refine wpList_store_row rfl 40 (.tmp 8) (.tmp 72) rfl (V2.heap.size + 1) D.toArray rfl rfl 40 noD.toArray (Whole.farRow (whole_new _ _ (by simp)) (by omega) _) (by rw [List.size_toArray, HD.out.1]; kernel_rfl) (by rw [List.size_toArray, List.size_toArray, HD.out.1]; rfl) HD.out.2 ?_))
                refine cut_world (fun X => ThW w B x N Am cm X ∧ Whole X V2.heap.size 36 (slL y).toArray) ⟨HV2.out.below (below_two _ _ _ _ _), Whole.farRow (setRow_heap _ _ _ _ _ _ ((Whole.new _ _ _).alloc _)) (by omega) _⟩ ?_
                rintro V3 h3
                generalize V2.heap.size = g7 at h3 ⊢
                have H3 := Lib.hid h3
                clear h3 HV2 HV HKY HDT hzd c0 c68 c71 c72 c65 c67 c69
                have cl := HLC.out _ H3.out.1
                rcases HY.out with ⟨hyx, hEi, hE⟩ | ⟨hyx, rfl, hhc, hs⟩
                · have HIY := Lib.hid (show Inv3 N y from by rw [hyx]; exact HI.out)
                  have h4 : E = 4 ∨ E = 82 ∨ E = 81 ∨ E = 3 := by
                    rw [hEi]
                    unfold sE at hEi ⊢
                    by_cases c1 : x.hc = true
                    · rw [if_pos c1] at hEi ⊢
                      by_cases c2 : oldB x.c q.t = true
                      · rw [if_pos c2]; exact .inr (.inl rfl)
                      · rw [if_neg c2] at hEi ⊢
                        by_cases c3 : spent ≤ x.c.sent
                        · rw [if_pos c3]; exact .inr (.inr (.inl rfl))
                        · rw [if_neg c3] at hEi ⊢
                          by_cases c4 : q.n % 16 ≠ 0 ∨ 1516 < q.n
                          · rw [if_pos c4]; exact .inr (.inr (.inr rfl))
                          · rw [if_neg c4] at hEi; exact absurd hEi hE
                    · rw [if_neg c1]; exact .inl rfl
                  clear hyx hE hEi HY
                  rcases h4 with rfl | rfl | rfl | rfl
                  ·
                    go_upto_region 18 with fail
                    go_upto_region 26 with (first
                      | (refine wpList_load_row rfl 36 (.tmp 7) rfl g7 rfl 36 (slL y).toArray (0, 0) _ H3.out.2 rfl rfl (by rw [List.size_toArray, slL_length]; kernel_rfl) ?_)
                      | (refine wpList_store_row rfl 36 (.tmp 3) (.tmp 85) rfl B (slL y).toArray rfl rfl 36 _ H3.out.1.s (by rw [List.size_toArray, slL_length]; kernel_rfl) (by rw [sl_size, sl_size]) (sl_one y) ?_))
                    refine cut_world (fun X => ThW w B y N Am cm X) H3.out.1.set ?_
                    rintro V8 h8
                    have HZ9 := Lib.hid h8
                    clear h8 H3 cl
                    have HCT := Lib.hid (fun V => count_any y V)
                    have hle : decide ((3 : Int) < (((nums y).length : Nat) : Int)) = false := decide_eq_false (by have := nums_le y; omega)
                    unfold slV at HCT
                    go_wp2_with (first
                      | (refine wpList_load_row rfl 36 (.tmp 3) rfl B rfl 36 (slL y).toArray (0, 0) _ HZ9.out.s rfl rfl (by rw [List.size_toArray, slL_length]; kernel_rfl) ?_)
                      | (go_at_call 12; refine (HCT.out _).mono ?_; rintro e V9 ⟨rfl, hb9⟩; have H9 := Lib.hid (HZ9.out.below hb9); clear hb9))
                    go_round
                    case rel => exact ⟨k + 1, y, N, Am, cm, by omega, by omega, by go_num, rfl, (by omega), HIY.out, H9.out⟩
                    case measure => simp only [intOf]; omega
                  ·
                    go_upto_region 18 with fail
                    go_upto_region 26 with (first
                      | (refine wpList_load_row rfl 36 (.tmp 7) rfl g7 rfl 36 (slL y).toArray (0, 0) _ H3.out.2 rfl rfl (by rw [List.size_toArray, slL_length]; kernel_rfl) ?_)
                      | (refine wpList_store_row rfl 36 (.tmp 3) (.tmp 85) rfl B (slL y).toArray rfl rfl 36 _ H3.out.1.s (by rw [List.size_toArray, slL_length]; kernel_rfl) (by rw [sl_size, sl_size]) (sl_one y) ?_))
                    refine cut_world (fun X => ThW w B y N Am cm X) H3.out.1.set ?_
                    rintro V8 h8
                    have HZ9 := Lib.hid h8
                    clear h8 H3 cl
                    have HCT := Lib.hid (fun V => count_any y V)
                    have hle : decide ((3 : Int) < (((nums y).length : Nat) : Int)) = false := decide_eq_false (by have := nums_le y; omega)
                    unfold slV at HCT
                    go_wp2_with (first
                      | (refine wpList_load_row rfl 36 (.tmp 3) rfl B rfl 36 (slL y).toArray (0, 0) _ HZ9.out.s rfl rfl (by rw [List.size_toArray, slL_length]; kernel_rfl) ?_)
                      | (go_at_call 12; refine (HCT.out _).mono ?_; rintro e V9 ⟨rfl, hb9⟩; have H9 := Lib.hid (HZ9.out.below hb9); clear hb9))
                    go_round
                    case rel => exact ⟨k + 1, y, N, Am, cm, by omega, by omega, by go_num, rfl, (by omega), HIY.out, H9.out⟩
                    case measure => simp only [intOf]; omega
                  ·
                    go_upto_region 18 with fail
                    go_upto_region 26 with (first
                      | (refine wpList_load_row rfl 36 (.tmp 7) rfl g7 rfl 36 (slL y).toArray (0, 0) _ H3.out.2 rfl rfl (by rw [List.size_toArray, slL_length]; kernel_rfl) ?_)
                      | (refine wpList_store_row rfl 36 (.tmp 3) (.tmp 85) rfl B (slL y).toArray rfl rfl 36 _ H3.out.1.s (by rw [List.size_toArray, slL_length]; kernel_rfl) (by rw [sl_size, sl_size]) (sl_one y) ?_))
                    refine cut_world (fun X => ThW w B y N Am cm X) H3.out.1.set ?_
                    rintro V8 h8
                    have HZ9 := Lib.hid h8
                    clear h8 H3 cl
                    have HCT := Lib.hid (fun V => count_any y V)
                    have hle : decide ((3 : Int) < (((nums y).length : Nat) : Int)) = false := decide_eq_false (by have := nums_le y; omega)
                    unfold slV at HCT
                    go_wp2_with (first
                      | (refine wpList_load_row rfl 36 (.tmp 3) rfl B rfl 36 (slL y).toArray (0, 0) _ HZ9.out.s rfl rfl (by rw [List.size_toArray, slL_length]; kernel_rfl) ?_)
                      | (go_at_call 12; refine (HCT.out _).mono ?_; rintro e V9 ⟨rfl, hb9⟩; have H9 := Lib.hid (HZ9.out.below hb9); clear hb9))
                    go_round
                    case rel => exact ⟨k + 1, y, N, Am, cm, by omega, by omega, by go_num, rfl, (by omega), HIY.out, H9.out⟩
                    case measure => simp only [intOf]; omega
                  ·
                    go_upto_region 18 with fail
                    go_upto_region 26 with (first
                      | (refine wpList_load_row rfl 36 (.tmp 7) rfl g7 rfl 36 (slL y).toArray (0, 0) _ H3.out.2 rfl rfl (by rw [List.size_toArray, slL_length]; kernel_rfl) ?_)
                      | (refine wpList_store_row rfl 36 (.tmp 3) (.tmp 85) rfl B (slL y).toArray rfl rfl 36 _ H3.out.1.s (by rw [List.size_toArray, slL_length]; kernel_rfl) (by rw [sl_size, sl_size]) (sl_one y) ?_))
                    refine cut_world (fun X => ThW w B y N Am cm X) H3.out.1.set ?_
                    rintro V8 h8
                    have HZ9 := Lib.hid h8
                    clear h8 H3 cl
                    have HCT := Lib.hid (fun V => count_any y V)
                    have hle : decide ((3 : Int) < (((nums y).length : Nat) : Int)) = false := decide_eq_false (by have := nums_le y; omega)
                    unfold slV at HCT
                    go_wp2_with (first
                      | (refine wpList_load_row rfl 36 (.tmp 3) rfl B rfl 36 (slL y).toArray (0, 0) _ HZ9.out.s rfl rfl (by rw [List.size_toArray, slL_length]; kernel_rfl) ?_)
                      | (go_at_call 12; refine (HCT.out _).mono ?_; rintro e V9 ⟨rfl, hb9⟩; have H9 := Lib.hid (HZ9.out.below hb9); clear hb9))
                    go_round
                    case rel => exact ⟨k + 1, y, N, Am, cm, by omega, by omega, by go_num, rfl, (by omega), HIY.out, H9.out⟩
                    case measure => simp only [intOf]; omega
                · have HIY := Lib.hid (show Inv3 N y from by rw [hyx]; exact inv3_tidy (inv3_sealed HI.out hs))
                  have HIN := Lib.hid (show Calls Try.prog 9 #[.slice Am N.length cm, .int .u32 CI] V3 fun e w' => e = .returned (.bool true) ∧ Below V3.heap.size V3 w' from by rw [← HCI.out]; exact in_any H3.out.1.own (by omega) x.c.l (HI.out.2 hhc))
                  clear hyx hhc hs HY
                  go_wp2_with fail
                  refine HIN.out.mono ?_
                  rintro e V4 ⟨rfl, hb4⟩
                  have H4 := Lib.hid (And.intro (H3.out.1.below hb4) (H3.out.2.below hb4 H3.out.2.lt))
                  clear hb4 H3 cl HIN
                  go_upto_region 26 with (first
                    | (refine wpList_load_row rfl 36 (.tmp 7) rfl g7 rfl 36 (slL y).toArray (0, 0) _ H4.out.2 rfl rfl (by rw [List.size_toArray, slL_length]; kernel_rfl) ?_)
                    | (refine wpList_store_row rfl 36 (.tmp 3) (.tmp 85) rfl B (slL y).toArray rfl rfl 36 _ H4.out.1.s (by rw [List.size_toArray, slL_length]; kernel_rfl) (by rw [sl_size, sl_size]) (sl_one y) ?_))
                  refine cut_world (fun X => ThW w B y N Am cm X) H4.out.1.set ?_
                  rintro V8 h8
                  have HZ9 := Lib.hid h8
                  clear h8 H4
                  have HCT := Lib.hid (fun V => count_any y V)
                  have hle : decide ((3 : Int) < (((nums y).length : Nat) : Int)) = false := decide_eq_false (by have := nums_le y; omega)
                  unfold slV at HCT
                  go_wp2_with (first
                    | (refine wpList_load_row rfl 36 (.tmp 3) rfl B rfl 36 (slL y).toArray (0, 0) _ HZ9.out.s rfl rfl (by rw [List.size_toArray, slL_length]; kernel_rfl) ?_)
                    | (go_at_call 12; refine (HCT.out _).mono ?_; rintro e V9 ⟨rfl, hb9⟩; have H9 := Lib.hid (HZ9.out.below hb9); clear hb9))
                  go_round
                  case rel => exact ⟨k + 1, y, N, Am, cm, by omega, by omega, by go_num, rfl, (by omega), HIY.out, H9.out⟩
                  case measure => simp only [intOf]; omega
              · by_cases hk2 : q.k = 2
                · rw [hk2] at c0
                  have HOP := Lib.hid (fun V (hr : Rd V q.A2 q.n2 q.f2) => sopen_any x HI.out.1 q.t HOK.out.t0 HOK.out.t1 q.rl q.rn HOK.out.rn q.A2 q.n2 q.c2 q.f2 HOK.out.f2 HOK.out.nc HOK.out.c2 V hr)
                  unfold slV at HOP
                  have HR2 := Lib.hid ((HRD.out _ HV.out.1.bel).2)
                  have HDL := Lib.hid (show (dataL q.rl q.rn (.slice q.A2 q.n2 q.c2)).length = 3 from rfl)
                  obtain ⟨D, hD⟩ : ∃ D, dataL q.rl q.rn (.slice q.A2 q.n2 q.c2) = D := ⟨_, rfl⟩
                  rw [hD] at HOP HDT HDL
                  clear hD hk0 hk1 hk2
                  go_upto_region 21 with (first
                    | (refine wpList_load_row rfl 36 (.tmp 3) rfl B rfl 36 (slL x).toArray (0, 0) _ HV.out.1.s rfl rfl (by rw [List.size_toArray, HXL.out.1]; kernel_rfl) ?_)
                    | (refine wpList_load_mid rfl 40 (.tmp 90) rfl M 69 rfl D _ HDT.out rfl rfl (by rw [HDL.out]; kernel_rfl) ?_)
                    | (go_at_call 10; refine (HOP.out _ HR2.out).mono ?_; rintro e V2 ⟨⟨y, A', kk, nx, E, rfl, hy⟩, hb2⟩; unfold slV; have HV2 := Lib.hid (And.intro (HV.out.1.below hb2) (HV.out.2.1.below hb2 HV.out.2.1.lt)); have HY := Lib.hid hy; clear hb2 hy)
                    | (refine wpList_store_row rfl 36 (.tmp 10) (.tmp 95) rfl V2.heap.size (slL y).toArray rfl rfl 36 _ (Whole.new _ _ _) (by rw [List.size_toArray, slL_length]; kernel_rfl) (by rw [sl_size, sl_size]) (sl_one y) ?_))
                  refine cut_world (fun X => ThW w B x N Am cm X ∧ Whole X M 42 C.toArray ∧ Whole X V2.heap.size 36 (slL y).toArray) ⟨HV2.out.1.below (below_var _ _ _ _), HV2.out.2.below (below_var _ _ _ _) HV2.out.2.lt, setRow_heap _ _ _ _ _ _ (Whole.new _ _ _)⟩ ?_
                  rintro V3 h3
                  generalize V2.heap.size = g7 at h3 ⊢
                  have H3 := Lib.hid h3
                  clear h3 HV2 HV HKY HDT c0 c68 c71 c72 c65 c67 c69
                  by_cases hE : E = 0
                  · subst hE
                    cases nx with
                    | true =>
                      have c69 := (HMX.out _ _ H3.out.2.1).2.2.2.2
                      obtain ⟨LI, hLI⟩ : ∃ LI : Int, ((q.rl : Nat) : Int) = LI := ⟨_, rfl⟩
                      have HLI := Lib.hid hLI
                      rw [hLI] at c69
                      clear hLI
                      go_upto_region 23 with (first
                        | (refine wpList_rowOne rfl 37 25 (.tmp 107) rfl (.int .u32 LI) rfl Try.underlying37 [Value.int .u32 LI].toArray (one_built LI) ?_)
                        | (at_builtin; rw [← HLI.out]; refine wpList_pushU (w := V3) q.rl rfl _ _ rfl rfl rfl H3.out.1.own (Nat.succ_le_of_lt H3.out.1.s.lt) (by omega) ?_; intro A3 c3 V4 hown hbel hkp; have H4 := Lib.hid (And.intro (H3.out.1.push q.rl hown hbel) (hkp _ _ _ H3.out.2.2 (by decide))); clear hown hbel hkp))
                      have HIY := Lib.hid (inv3_open (inv3_more HI.out q.rl) HY.out (fun _ _ => List.mem_append_right _ List.mem_cons_self))
                      clear H3 c69
                      go_upto_region 26 with (first
                        | (refine wpList_load_row rfl 36 (.tmp 10) rfl g7 rfl 36 (slL y).toArray (0, 0) _ H4.out.2 rfl rfl (by rw [List.size_toArray, slL_length]; kernel_rfl) ?_)
                        | (refine wpList_store_row rfl 36 (.tmp 3) (.tmp 110) rfl B (slL y).toArray rfl rfl 36 _ H4.out.1.s (by rw [List.size_toArray, slL_length]; kernel_rfl) (by rw [sl_size, sl_size]) (sl_one y) ?_))
                      refine cut_world (fun X => ThW w B y (N ++ [q.rl]) A3 c3 X) H4.out.1.set ?_
                      rintro V8 h8
                      have HZ9 := Lib.hid h8
                      clear h8 H4
                      have HCT := Lib.hid (fun V => count_any y V)
                      have hle : decide ((3 : Int) < (((nums y).length : Nat) : Int)) = false := decide_eq_false (by have := nums_le y; omega)
                      unfold slV at HCT
                      go_wp2_with (first
                        | (refine wpList_load_row rfl 36 (.tmp 3) rfl B rfl 36 (slL y).toArray (0, 0) _ HZ9.out.s rfl rfl (by rw [List.size_toArray, slL_length]; kernel_rfl) ?_)
                        | (go_at_call 12; refine (HCT.out _).mono ?_; rintro e V9 ⟨rfl, hb9⟩; have H9 := Lib.hid (HZ9.out.below hb9); clear hb9))
                      go_round
                      case rel => exact ⟨k + 1, y, N ++ [q.rl], A3, c3, by omega, by omega, by go_num, (by rw [List.length_append, List.length_singleton]), (by rw [List.length_append, List.length_singleton]; omega), HIY.out, H9.out⟩
                      case measure => simp only [intOf]; omega
                    | false =>
                      have H4 := Lib.hid (And.intro H3.out.1 H3.out.2.2)
                      have HIY := Lib.hid (inv3_open HI.out HY.out (fun _ e => by cases e))
                      clear H3
                      go_upto_region 26 with (first
                        | (refine wpList_load_row rfl 36 (.tmp 10) rfl g7 rfl 36 (slL y).toArray (0, 0) _ H4.out.2 rfl rfl (by rw [List.size_toArray, slL_length]; kernel_rfl) ?_)
                        | (refine wpList_store_row rfl 36 (.tmp 3) (.tmp 110) rfl B (slL y).toArray rfl rfl 36 _ H4.out.1.s (by rw [List.size_toArray, slL_length]; kernel_rfl) (by rw [sl_size, sl_size]) (sl_one y) ?_))
                      refine cut_world (fun X => ThW w B y (N) Am cm X) H4.out.1.set ?_
                      rintro V8 h8
                      have HZ9 := Lib.hid h8
                      clear h8 H4
                      have HCT := Lib.hid (fun V => count_any y V)
                      have hle : decide ((3 : Int) < (((nums y).length : Nat) : Int)) = false := decide_eq_false (by have := nums_le y; omega)
                      unfold slV at HCT
                      go_wp2_with (first
                        | (refine wpList_load_row rfl 36 (.tmp 3) rfl B rfl 36 (slL y).toArray (0, 0) _ HZ9.out.s rfl rfl (by rw [List.size_toArray, slL_length]; kernel_rfl) ?_)
                        | (go_at_call 12; refine (HCT.out _).mono ?_; rintro e V9 ⟨rfl, hb9⟩; have H9 := Lib.hid (HZ9.out.below hb9); clear hb9))
                      go_round
                      case rel => exact ⟨k + 1, y, N, Am, cm, by omega, by omega, by go_num, rfl, (by omega), HIY.out, H9.out⟩
                      case measure => simp only [intOf]; omega
                  · have hEE : (((E : Nat) : Int) == 0) = false := by simp; omega
                    have H4 := Lib.hid (And.intro H3.out.1 H3.out.2.2)
                    have HIY := Lib.hid (inv3_open HI.out HY.out (fun e => absurd e hE))
                    clear H3 hE
                    go_upto_region 26 with (first
                      | (refine wpList_load_row rfl 36 (.tmp 10) rfl g7 rfl 36 (slL y).toArray (0, 0) _ H4.out.2 rfl rfl (by rw [List.size_toArray, slL_length]; kernel_rfl) ?_)
                      | (refine wpList_store_row rfl 36 (.tmp 3) (.tmp 110) rfl B (slL y).toArray rfl rfl 36 _ H4.out.1.s (by rw [List.size_toArray, slL_length]; kernel_rfl) (by rw [sl_size, sl_size]) (sl_one y) ?_))
                    refine cut_world (fun X => ThW w B y (N) Am cm X) H4.out.1.set ?_
                    rintro V8 h8
                    have HZ9 := Lib.hid h8
                    clear h8 H4
                    have HCT := Lib.hid (fun V => count_any y V)
                    have hle : decide ((3 : Int) < (((nums y).length : Nat) : Int)) = false := decide_eq_false (by have := nums_le y; omega)
                    unfold slV at HCT
                    go_wp2_with (first
                      | (refine wpList_load_row rfl 36 (.tmp 3) rfl B rfl 36 (slL y).toArray (0, 0) _ HZ9.out.s rfl rfl (by rw [List.size_toArray, slL_length]; kernel_rfl) ?_)
                      | (go_at_call 12; refine (HCT.out _).mono ?_; rintro e V9 ⟨rfl, hb9⟩; have H9 := Lib.hid (HZ9.out.below hb9); clear hb9))
                    go_round
                    case rel => exact ⟨k + 1, y, N, Am, cm, by omega, by omega, by go_num, rfl, (by omega), HIY.out, H9.out⟩
                    case measure => simp only [intOf]; omega
                · by_cases hk3 : q.k = 3
                  · rw [hk3] at c0
                    have HEX := Lib.hid (fun V => expire_any x q.t HOK.out.t0 HOK.out.t1 V)
                    have HIY := Lib.hid (inv3_expire HI.out q.t)
                    unfold slV at HEX
                    obtain ⟨y, hy⟩ : ∃ y, expire x q.t = y := ⟨_, rfl⟩
                    rw [hy] at HEX HIY
                    clear hy hk0 hk1 hk2 hk3
                    go_upto_region 26 with (first
                      | (refine wpList_load_row rfl 36 (.tmp 3) rfl B rfl 36 (slL x).toArray (0, 0) _ HV.out.1.s rfl rfl (by rw [List.size_toArray, HXL.out.1]; kernel_rfl) ?_)
                      | (go_at_call 11; refine (HEX.out _).mono ?_; rintro e V2 ⟨rfl, hb2⟩; have HV2 := Lib.hid (HV.out.1.below hb2); clear hb2)
                      | (refine wpList_store_row rfl 36 (.tmp 3) (.tmp 116) rfl B (slL y).toArray rfl rfl 36 _ HV2.out.s (by rw [List.size_toArray, slL_length]; kernel_rfl) (by rw [sl_size, sl_size]) (sl_one y) ?_))
                    refine cut_world (fun X => ThW w B y N Am cm X) HV2.out.set ?_
                    rintro V8 h8
                    have HZ9 := Lib.hid h8
                    clear h8 HV HV2 c0 c68 c71 c72 c65 c67 c69
                    have HCT := Lib.hid (fun V => count_any y V)
                    have hle : decide ((3 : Int) < (((nums y).length : Nat) : Int)) = false := decide_eq_false (by have := nums_le y; omega)
                    unfold slV at HCT
                    go_wp2_with (first
                      | (refine wpList_load_row rfl 36 (.tmp 3) rfl B rfl 36 (slL y).toArray (0, 0) _ HZ9.out.s rfl rfl (by rw [List.size_toArray, slL_length]; kernel_rfl) ?_)
                      | (go_at_call 12; refine (HCT.out _).mono ?_; rintro e V9 ⟨rfl, hb9⟩; have H9 := Lib.hid (HZ9.out.below hb9); clear hb9))
                    go_round
                    case rel => exact ⟨k + 1, y, N, Am, cm, by omega, by omega, by go_num, rfl, (by omega), HIY.out, H9.out⟩
                    case measure => simp only [intOf]; omega
                  · have n0 : (q.k == 0) = false := by simp [hk0]
                    have n1 : (q.k == 1) = false := by simp [hk1]
                    have n2 : (q.k == 2) = false := by simp [hk2]
                    have n3 : (q.k == 3) = false := by simp [hk3]
                    generalize q.k = kk at c0 n0 n1 n2 n3
                    have HZ9 := Lib.hid HV.out.1
                    have HIY := Lib.hid HI.out
                    have HCT := Lib.hid (fun V => count_any x V)
                    have hle : decide ((3 : Int) < (((nums x).length : Nat) : Int)) = false := decide_eq_false (by have := nums_le x; omega)
                    unfold slV at HCT
                    go_wp2_with (first
                      | (refine wpList_load_row rfl 36 (.tmp 3) rfl B rfl 36 (slL x).toArray (0, 0) _ HZ9.out.s rfl rfl (by rw [List.size_toArray, slL_length]; kernel_rfl) ?_)
                      | (go_at_call 12; refine (HCT.out _).mono ?_; rintro e V9 ⟨rfl, hb9⟩; have H9 := Lib.hid (HZ9.out.below hb9); clear hb9))
                    go_round
                    case rel => exact ⟨k + 1, x, N, Am, cm, by omega, by omega, by go_num, rfl, (by omega), HIY.out, H9.out⟩
                    case measure => simp only [intOf]; omega
      · have HALL := Lib.hid HW.out
        go_wp2_with fail
        refine (alive_any _).mono ?_
        rintro e Y1 ⟨rfl, hb1⟩
        have HBE := Lib.hid (HALL.out.bel.trans (hb1.mono (Nat.le_of_lt HALL.out.s.lt)))
        clear hb1
        go_wp2_with fail
        go_ret
        exact ⟨rfl, by rw [HB.out]; exact HBE.out⟩
    · have HALL := Lib.hid HW.out
      go_wp2_with fail
      refine (alive_any _).mono ?_
      rintro e Y1 ⟨rfl, hb1⟩
      have HBE := Lib.hid (HALL.out.bel.trans (hb1.mono (Nat.le_of_lt HALL.out.s.lt)))
      clear hb1
      go_wp2_with fail
      go_ret
      exact ⟨rfl, by rw [HB.out]; exact HBE.out⟩
theorem walk (A : Option Addr) (n c : Nat) (w : World) (h : Shp.Good w (.list (.obj shS)) [.slice A n c]) : Calls Try.prog 3 #[.slice A n c] w fun e w' => e = .returned (.bool true) ∧ Below w.heap.size w w' := by
  obtain ⟨_, Q, hQ⟩ := open_ops h
  exact walk0 hQ
end SlotsThree
end Go.Proofs.Ytdhjgenijieeaaa
