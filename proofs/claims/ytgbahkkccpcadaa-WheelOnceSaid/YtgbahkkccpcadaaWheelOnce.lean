/- The walk of WheelOnce. -/
import Derived.Test.YtgbahkkccpcadaaOnceA
import Derived.Deep.DeepCutAuto
namespace Go.Proofs.Ytgbahkkccpcadaa
namespace WheelOnce
open Go.ChangeShapes Go.WideShapes Go.ChangeAt Go.RowKit Go.Maps
open Num Mem Words Chacha Aead Poly Quiet RowV RowS Ops EqLits Stamp Wh
open WheelSteps (IsU open_us bel_fk and18 own_block)

theorem op_one (q : OpV) : (opL q).toArray.all (·.oneCell') = true := by simp [opL, Value.oneCell']
theorem builtW (o k t : Int) : Try.prog.built 38 [(0, .int .i64 o), (1, .int .i64 k), (2, .int .i64 t)] = some #[.int .i64 o, .int .i64 k, .int .i64 t] := by kernel_rfl
set_option maxRecDepth 100000 in
set_option maxHeartbeats 4000000 in
theorem walk0 (A : Option Addr) (N c : Nat) (Q : Nat → OpV) (A2 : Option Addr) (M c2 : Nat) (U : Nat → Nat) (w : World) (hq : IsOps w A N Q) (hu : IsU w A2 M U) (hN : N ≤ 9223372036854775807) (hM : M ≤ 9223372036854775807) :
    Calls Try.prog 5 #[.slice A N c, .slice A2 M c2] w fun e w' => e = .returned (.bool true) ∧ Below w.heap.size w w' := by
  have HQ := Lib.hid hq
  have HU := Lib.hid hu
  have HN := Lib.hid (new_any 0 ⟨by omega, by omega⟩ w)
  have HAL := Lib.hid alive_ok
  clear hq hu
  go_enter Try.func5, Try.ntmps5
  go_wp2_with fail
  refine HN.out.mono ?_
  rintro e w1 ⟨g, rfl, hb1, ha⟩
  have H1 := Lib.hid (show L1 w g [] none 0 w1 from by
    obtain ⟨F, hF, _⟩ := WB.new ha (Nat.le_refl _)
    exact ⟨[], F, ⟨hF, ⟨rfl, .inl ⟨rfl, rfl⟩⟩, fun j e => (by cases e), hb1⟩, fun x => Iff.rfl, rfl⟩)
  have HB1 := Lib.hid hb1
  clear hb1 ha HN
  by_cases h64 : 64 < N
  · have d1 : decide ((64 : Int) < (N : Int)) = true := decide_eq_true (by omega)
    have HC := Lib.hid (HAL.out w1)
    go_wp2_with fail
    refine HC.out.mono ?_
    rintro e w3 ⟨rfl, hb3⟩
    have HB3 := Lib.hid hb3
    clear hb3
    go_wp2_with fail
    go_ret
    exact ⟨rfl, below_trans HB1.out HB3.out⟩
  have d1 : decide ((64 : Int) < (N : Int)) = false := decide_eq_false (by omega)
  clear HB1
  go_wp2_with fail
  go_loopw [7, 8] (fun st i X => ∃ (k : Nat) (S : List Tm) (As : Option Addr) (cs : Nat), k ≤ N ∧ S.length ≤ k ∧ i = .int .i64 k ∧ st = .slice As S.length cs ∧ L1 w g S As cs X) (fun _ i _ => N - (intOf i).toNat)
  case atStart => exact ⟨0, [], none, 0, Nat.zero_le _, Nat.zero_le _, rfl, rfl, H1.out⟩
  case round =>
    obtain ⟨k, S, As, cs, hk, hSk, rfl, rfl, hW⟩ := hrel
    have HW := Lib.hid hW
    clear hW H1
    by_cases hlt : k < N
    · have HOK := Lib.hid (HQ.out.ok k hlt)
      have HBW := Lib.hid (show Below w.heap.size w wr from by obtain ⟨T, F, h, _⟩ := HW.out; exact h.bel)
      obtain ⟨b, off, rfl, hrg⟩ := HQ.out.range HBW.out hlt
      obtain ⟨q, hqk⟩ : ∃ q, Q k = q := ⟨_, rfl⟩
      rw [hqk] at HOK hrg
      have HRG := Lib.hid hrg
      clear hrg hqk
      obtain ⟨V, hV⟩ : ∃ V, (opL q).toArray = V := ⟨_, rfl⟩
      have HV := Lib.hid hV
      have HVS := Lib.hid (show V.size = 4 from by rw [← hV]; rfl)
      have HVO := Lib.hid (show V.all (·.oneCell') = true from by rw [← hV]; exact op_one q)
      clear hV
      go_upto_region 9 with (first | (refine Ops.wpList_load_mid_if (by rfl) 34 (.tmp 50) rfl b (off + k * 4) rfl (opL q) _ HRG.out rfl rfl (by kernel_rfl) ?_; rw [HV.out]) | (refine wpList_store_row rfl 34 (.tmp 9) (.tmp 51) rfl wr.heap.size V rfl rfl 34 _ (Whole.new _ _ _) (by rw [HVS.out]; kernel_rfl) (by rw [HVS.out]; rfl) HVO.out ?_))
      obtain ⟨t9, ht9⟩ : ∃ t9, wr.heap.size = t9 := ⟨_, rfl⟩
      rw [ht9]
      refine cut_world (fun X => ∃ T F, O1 w g 0 S T As cs F X ∧ (∀ x, x ∈ T ↔ x ∈ S) ∧ T.length = S.length ∧ Whole X t9 34 #[.int .i64 q.c, .int .i64 q.o, .int .i64 q.k, .int .i64 q.t] ∧ ¬ F t9 ∧ (Value.slice As S.length cs).ownBlock ≠ some t9) (by
        obtain ⟨T, F, h, h1, h2⟩ := HW.out
        have hb := below_var wr #[.int .i64 0, .int .i64 0, .int .i64 0, .int .i64 0] V 34
        rw [ht9] at hb
        refine ⟨T, F, h.below (ht9 ▸ hb), h1, h2, ?_, fun c => by have := (h.wb.2 t9 c).2; omega, fun e => by have := (own_lt' h.row t9 e).2; omega⟩
        have := setRow_heap _ _ _ V _ _ (whole_new (w := wr) 34 #[.int .i64 0, .int .i64 0, .int .i64 0, .int .i64 0] ht9)
        rw [← HV.out] at this ⊢
        exact this) ?_
      rintro X ⟨T, F, hO, hmem, hlen, hv9, hf9, ho9⟩
      have HO := Lib.hid hO
      have HV9 := Lib.hid hv9
      have HF9 := Lib.hid hf9
      have HO9 := Lib.hid ho9
      have HMEM := Lib.hid hmem
      have HLEN := Lib.hid hlen
      have ck1 : X.cell? ⟨t9, 1, none⟩ = some (.int .i64 q.o) := hv9.cell 1
      have ck2 : X.cell? ⟨t9, 2, none⟩ = some (.int .i64 q.k) := hv9.cell 2
      have ck3 : X.cell? ⟨t9, 3, none⟩ = some (.int .i64 q.t) := hv9.cell 3
      have HGT := Lib.hid (get_any hO.wb.1 q.o q.k HOK.out.o HOK.out.k)
      clear hO hv9 hf9 ho9 hmem hlen HW HBW HRG HVS HVO HV ht9
      go_wp2_with fail
      refine HGT.out.mono ?_
      rintro e X1 ⟨rfl, rfl⟩
      cases hf : findT q.o q.k T with
      | some y =>
        simp only [Option.isSome_some, getV]
        go_wp2_with fail
        go_round
        case rel => exact ⟨k + 1, S, As, cs, by omega, by omega, by go_num, rfl, T, F, HO.out, HMEM.out, HLEN.out⟩
        case measure => simp only [intOf]; omega
      | none =>
        simp only [Option.isSome_none, getV]
        have HST := Lib.hid (set_any HO.out.wb.1 q.o q.k q.t HOK.out.o HOK.out.k)
        have HFN := Lib.hid hf
        clear hf HGT
        go_wp2_with fail
        refine HST.out.mono ?_
        rintro e X2 ⟨rfl, hw2, hk2⟩
        obtain ⟨F2, hO2, hsub⟩ := HO.out.set hw2 hk2
        have HO2 := Lib.hid hO2
        have hv2 := hk2.whole HV9.out HF9.out
        have cv1 : X2.cell? ⟨t9, 1, none⟩ = some (.int .i64 q.o) := hv2.cell 1
        have cv2 : X2.cell? ⟨t9, 2, none⟩ = some (.int .i64 q.k) := hv2.cell 2
        have cv3 : X2.cell? ⟨t9, 3, none⟩ = some (.int .i64 q.t) := hv2.cell 3
        have hcs := setT_cases (now := 0) (t := q.t) HFN.out
        clear hw2 hk2 hO2 hsub hv2 HST ck1 ck2 ck3
        rcases hcs with ⟨he0, hT'⟩ | ⟨he0, hT'⟩
        · rw [hT'] at HO2
          have HBS := Lib.hid HO2.out.bel.size
          have hS64 : S.length ≤ 64 := by omega
          clear hT'
          go_wp2_with (at_builtin; refine wpList_pushG2 (tmL ⟨q.o, q.k, q.t⟩) 3 rfl _ _ 45 38 (.agg zeroT.toArray) 24 Try.underlying45 infoT rfl (by omega) rfl rfl rfl HO2.out.row HBS.out rfl (tm_each _) (by omega) (by omega) ?_; intro A' c' X3 hown hbel hgr hoff)
          have HL3 := Lib.hid (show L1 w g (S ++ [⟨q.o, q.k, q.t⟩]) A' c' X3 from ⟨_, F2, HO2.out.push hown hgr hoff, fun x => by
            rw [mem_ins, HMEM.out]
            simp only [List.mem_append, List.mem_singleton]
            exact Or.comm, by rw [length_ins HO.out.wb.1.good.srt, HLEN.out, List.length_append]; rfl⟩)
          clear hown hbel hgr hoff
          go_wp2_with fail
          go_round
          case rel => exact ⟨k + 1, S ++ [⟨q.o, q.k, q.t⟩], A', c', by omega, by rw [List.length_append]; simp only [List.length_cons, List.length_nil]; omega, by go_num, by rw [List.length_append]; rfl, HL3.out⟩
          case measure => simp only [intOf]; omega
        · rw [hT'] at HO2
          clear hT'
          go_wp2_with fail
          go_round
          case rel => exact ⟨k + 1, S, As, cs, by omega, by omega, by go_num, rfl, T, F2, HO2.out, HMEM.out, HLEN.out⟩
          case measure => simp only [intOf]; omega
    · have hkN : k = N := by omega
      have hS64 : S.length ≤ 64 := by omega
      have H2 := Lib.hid (show L2 w g 0 0 S As cs 0 wr from by
        obtain ⟨T, F, h, h1, h2⟩ := HW.out
        exact ⟨T, F, h, fun x hx => (h1 x).1 hx, by omega, fun h => absurd h (by omega)⟩)
      clear HW HQ
      obtain ⟨n, hn⟩ : ∃ n, S.length = n := ⟨_, rfl⟩
      rw [hn] at hS64 ⊢
      have HN := Lib.hid hn
      clear hn hSk
      have d2 : decide ((k : Int) < (N : Int)) = false := decide_eq_false (by omega)
      clear hkN
      go_wp2_with fail
      go_loopw [12, 13, 14] (fun ca nw j X => ∃ (i came : Nat) (nb : Int), i ≤ M + 1 ∧ i ≤ 100 ∧ ca = .int .i64 came ∧ nw = .int .i64 nb ∧ j = .int .i64 i ∧ 0 ≤ nb ∧ (i = 0 → nb = 0) ∧ (i ≤ M → nb ≤ i * 262143) ∧ (i = M + 1 → nb = 1099511627776) ∧ L2 w g nb i S As cs came X) (fun _ _ j _ => M + 1 - (intOf j).toNat)
      case atStart => exact ⟨0, 0, 0, by omega, by omega, rfl, rfl, rfl, by omega, fun _ => rfl, fun _ => by omega, fun h => by omega, H2.out⟩
      case round =>
        obtain ⟨i, came, nb, hiM, hi100, rfl, rfl, rfl, hnb0, hnbz, hnbi, hnbm, hW⟩ := hrel
        have HW := Lib.hid hW
        clear hW H2
        by_cases hlt : i < M + 1 ∧ i < 100
        · obtain ⟨hiM1, h100⟩ := hlt
          have d3 : decide ((i : Int) ≤ (M : Int)) = true := decide_eq_true (by omega)
          by_cases hlM : i < M
          · obtain ⟨b, off, rfl, hbl, hrd⟩ : ∃ b off, A2 = some ⟨b, off, none⟩ ∧ b < w.heap.size ∧ ∀ i, i < M → w.cell? ⟨b, off + i, none⟩ = some (.int .u32 (U i : Nat)) := by
              rcases HU.out.rd with h | h
              · omega
              · exact h
            have HBW := Lib.hid (show Below w.heap.size w wr from by obtain ⟨_, _, h, _⟩ := HW.out; exact h.bel)
            have cu : wr.cell? ⟨b, off + i, none⟩ = some (.int .u32 (U i : Nat)) := (HBW.out.cell (p := ⟨b, off + i, none⟩) hbl).trans (hrd i hlM)
            have hU := HU.out.ok i
            have HMM := Lib.hid (show ∃ m, wrap64 (nb + wrap64 (bits .and .u32 ((U i : Nat) : Int) 262143)) = m ∧ nb ≤ m ∧ m ≤ nb + 262143 from by
              obtain ⟨v, hv1, hv⟩ := and18 (U i) hU
              have := hnbi (by omega)
              refine ⟨nb + (v : Int), ?_, by omega, by omega⟩
              rw [hv]
              unfold wrap64
              omega)
            have hne : ¬ ((i : Int) = (M : Int)) := by omega
            clear hrd hU
            go_upto_region 23 with fail
            obtain ⟨m, hm, hm1, hm3⟩ := HMM.out
            rw [hm]
            have hm2 := hnbi (by omega)
            clear hm cu HMM
            obtain ⟨T, F, hO, hsub, hcnt, hgt⟩ := HW.out
            have hord := hO.wb.1.good.ok
            have HADV := Lib.hid (advance_any hO.wb.1 (fun i hi => (hO.wb.2 i hi).2) m ⟨by omega, by omega⟩ hm1)
            have HO := Lib.hid hO
            have HSUB := Lib.hid hsub
            have HCNT := Lib.hid hcnt
            have HGT := Lib.hid hgt
            have HORD := Lib.hid hord
            clear hO hsub hcnt hgt hord HW
            go_wp2_with fail
            refine HADV.out.mono ?_
            rintro e w6 ⟨E1, R1, A1, c1, rfl, hER, hle, hRl, hro, hw6, hk6, _⟩
            have HO6 := Lib.hid (HO.out.same hw6 hk6)
            have hin : ∀ x ∈ E1, x ∈ T := fun x hx => by rw [hER]; exact List.mem_append_left _ hx
            have HE := Lib.hid (show ∀ x ∈ E1, x ∈ S ∧ x.t ≤ m ∧ nb ≤ x.t ∧ (0 < i → nb < x.t) from fun x hx => ⟨HSUB.out x (hin x hx), hle x hx, (HORD.out x (hin x hx)).2.2.2.2.1, fun h => HGT.out h x (hin x hx)⟩)
            have HSRT := Lib.hid (show Srt E1 from by have := HO.out.wb.1.good.srt; rw [hER] at this; exact (List.pairwise_append.1 this).1)
            have HL2 := Lib.hid (show L2 w g m (i + 1) S As cs (came + E1.length) w6 from ⟨R1, F, HO6.out, fun x hx => HSUB.out x (by rw [hER]; exact List.mem_append_right _ hx), by
              have := HCNT.out
              rw [hER, List.length_append] at this
              omega, fun _ => hRl⟩)
            have hcb : came + E1.length ≤ 64 := by
              have := HCNT.out
              rw [hER, List.length_append] at this
              have := HN.out
              omega
            have HRL := Lib.hid (RdT.own hro)
            have HRS := Lib.hid (RdT.own HO6.out.row)
            obtain ⟨n1, hn1⟩ : ∃ n1, E1.length = n1 := ⟨_, rfl⟩
            rw [hn1] at HL2 hcb ⊢
            have HN1 := Lib.hid hn1
            clear hER hle hRl hro hw6 hk6 hin HADV HO HSUB HCNT HGT HORD HO6 hn1
            go_wp2_with fail
            go_loopw [12, 18] (fun ca kk X => ∃ k2 : Nat, k2 ≤ n1 ∧ ca = .int .i64 ((came + k2 : Nat) : Int) ∧ kk = .int .i64 k2 ∧ Below w6.heap.size w6 X) (fun _ kk _ => n1 - (intOf kk).toNat)
            case atStart => exact ⟨0, Nat.zero_le _, rfl, rfl, Below.refl _ _⟩
            case round =>
              obtain ⟨k2, hk2, rfl, rfl, hb⟩ := hrel
              have HBL := Lib.hid hb
              clear hb
              by_cases hlt2 : k2 < n1
              · have hkL : k2 < E1.length := by rw [HN1.out]; exact hlt2
                have hx := List.getElem?_eq_getElem hkL
                obtain ⟨x, hxe⟩ : ∃ x, E1[k2] = x := ⟨_, rfl⟩
                rw [hxe] at hx
                have HXE := Lib.hid (HE.out x (hxe ▸ List.getElem_mem hkL))
                obtain ⟨gl, hA1, hgl, hrg⟩ := HRL.out k2 x hx
                subst hA1
                have HG := Lib.hid hgl
                have HRG := Lib.hid hrg
                have HX := Lib.hid hx
                clear hxe hx hgl hrg hkL
                obtain ⟨Vx, hVx⟩ : ∃ V, (tmL x).toArray = V := ⟨_, rfl⟩
                have HVX := Lib.hid hVx
                clear hVx
                go_wp2_with fail
                go_loopw [19, 20] (fun b nn X => ∃ (j : Nat) (bb : Bool), j ≤ n ∧ b = .bool bb ∧ nn = .int .i64 j ∧ bb = decide (x ∈ S.take j) ∧ Below w6.heap.size w6 X) (fun _ nn _ => n - (intOf nn).toNat)
                case atStart => exact ⟨0, false, Nat.zero_le _, rfl, rfl, by simp, HBL.out⟩
                case round =>
                  obtain ⟨j, bb, hj, rfl, rfl, hbb, hb⟩ := hrel
                  have HBB := Lib.hid hbb
                  have HBJ := Lib.hid hb
                  clear hbb hb HBL
                  by_cases hlt3 : j < n
                  · have hjS : j < S.length := by rw [HN.out]; exact hlt3
                    have hy := List.getElem?_eq_getElem hjS
                    have hts : S.take (j + 1) = S.take j ++ [S[j]] := List.take_succ_eq_append_getElem hjS
                    generalize S[j] = y at hy hts
                    have HTS := Lib.hid hts
                    obtain ⟨gs, hAs, hgs, hrgs⟩ := HRS.out j y hy
                    subst hAs
                    have HGS := Lib.hid hgs
                    have HRGS := Lib.hid hrgs
                    clear hts hy hgs hrgs hjS
                    cases bb with
                    | true =>
                      go_upto_region 33 with fail
                      refine q_start (by kernel_rfl) (by kernel_rfl) ?_
                      refine Ops.wq_in ?_
                      refine Ops.wq_take _ (by rfl) (fun X hx => by go_simp; try with_reducible rfl) ?_
                      try simp only [Act.put, List.setIfInBounds_toArray, List.set_cons_zero, List.set_cons_succ]
                      refine Ops.wq_take _ (by rfl) (fun X hx => by go_simp; try with_reducible rfl) ?_
                      try simp only [Act.put, List.setIfInBounds_toArray, List.set_cons_zero, List.set_cons_succ]
                      refine Ops.wq_pass (by rfl) ?_
                      try simp only [Act.put, List.setIfInBounds_toArray, List.set_cons_zero, List.set_cons_succ]
                      refine Ops.wq_pass (by rfl) ?_
                      try simp only [Act.put, List.setIfInBounds_toArray, List.set_cons_zero, List.set_cons_succ]
                      refine Ops.wq_pass (by rfl) ?_
                      try simp only [Act.put, List.setIfInBounds_toArray, List.set_cons_zero, List.set_cons_succ]
                      refine Ops.wq_pass (by rfl) ?_
                      try simp only [Act.put, List.setIfInBounds_toArray, List.set_cons_zero, List.set_cons_succ]
                      refine Ops.wq_pass (by rfl) ?_
                      try simp only [Act.put, List.setIfInBounds_toArray, List.set_cons_zero, List.set_cons_succ]
                      refine Ops.wq_pass (by rfl) ?_
                      try simp only [Act.put, List.setIfInBounds_toArray, List.set_cons_zero, List.set_cons_succ]
                      refine Ops.wq_pass (by rfl) ?_
                      try simp only [Act.put, List.setIfInBounds_toArray, List.set_cons_zero, List.set_cons_succ]
                      refine Ops.wq_pass (by rfl) ?_
                      try simp only [Act.put, List.setIfInBounds_toArray, List.set_cons_zero, List.set_cons_succ]
                      refine Ops.wq_pass (by rfl) ?_
                      try simp only [Act.put, List.setIfInBounds_toArray, List.set_cons_zero, List.set_cons_succ]
                      refine Ops.wq_take _ (by rfl) (fun X hx => by go_simp; try with_reducible rfl) ?_
                      try simp only [Act.put, List.setIfInBounds_toArray, List.set_cons_zero, List.set_cons_succ]
                      refine Ops.wq_take _ (by rfl) (fun X hx => by go_simp; try with_reducible rfl) ?_
                      try simp only [Act.put, List.setIfInBounds_toArray, List.set_cons_zero, List.set_cons_succ]
                      refine Ops.wq_end ?_
                      intro X2 hb2
                      have HB2 := Lib.hid (below_trans HBJ.out hb2)
                      clear hb2
                      go_wp2_with fail
                      go_round
                      case rel => exact ⟨j + 1, true, by omega, rfl, by go_num, by
                        rw [HTS.out]
                        have h : x ∈ S.take j := of_decide_eq_true HBB.out.symm
                        exact (decide_eq_true (List.mem_append_left _ h)).symm, HB2.out⟩
                      case measure => simp only [intOf]; omega
                    | false =>
                      obtain ⟨Vy, hVy⟩ : ∃ V, (tmL y).toArray = V := ⟨_, rfl⟩
                      have HVY := Lib.hid hVy
                      obtain ⟨r, hr⟩ : ∃ r, decide (y = x) = r := ⟨_, rfl⟩
                      have HEQ := Lib.hid (fun w => eqin_tm 9997 y x w)
                      rw [hVy, HVX.out, hr] at HEQ
                      have HR := Lib.hid hr
                      clear hVy hr
                      go_upto_region 33 with fail
                      refine q_start (by kernel_rfl) (by kernel_rfl) ?_
                      refine Ops.wq_in ?_
                      refine Ops.wq_take _ (by rfl) (fun X hx => by go_simp; try with_reducible rfl) ?_
                      try simp only [Act.put, List.setIfInBounds_toArray, List.set_cons_zero, List.set_cons_succ]
                      refine Ops.wq_take _ (by rfl) (fun X hx => by go_simp; try with_reducible rfl) ?_
                      try simp only [Act.put, List.setIfInBounds_toArray, List.set_cons_zero, List.set_cons_succ]
                      refine Ops.wq_take _ (by rfl) (fun X hx => by go_simp; try with_reducible rfl) ?_
                      try simp only [Act.put, List.setIfInBounds_toArray, List.set_cons_zero, List.set_cons_succ]
                      refine Ops.wq_take _ (by rfl) (fun X hx => by go_simp; try with_reducible rfl) ?_
                      try simp only [Act.put, List.setIfInBounds_toArray, List.set_cons_zero, List.set_cons_succ]
                      refine Ops.wq_take _ (by rfl) (fun X hx => by go_simp; try with_reducible rfl) ?_
                      try simp only [Act.put, List.setIfInBounds_toArray, List.set_cons_zero, List.set_cons_succ]
                      refine Ops.wq_take (.agg Vy) (by rfl) (fun X hx => by rw [← HVY.out]; exact run_mid_in 38 (.tmp 132) rfl gs (j * 3) (by go_simp) (tmL y) _ (range_below HRGS.out (below_trans HBJ.out hx) HGS.out) rfl rfl (by kernel_rfl)) ?_
                      try simp only [Act.put, List.setIfInBounds_toArray, List.set_cons_zero, List.set_cons_succ]
                      refine Ops.wq_take _ (by rfl) (fun X hx => by go_simp; try with_reducible rfl) ?_
                      try simp only [Act.put, List.setIfInBounds_toArray, List.set_cons_zero, List.set_cons_succ]
                      refine Ops.wq_take _ (by rfl) (fun X hx => by go_simp; try with_reducible rfl) ?_
                      try simp only [Act.put, List.setIfInBounds_toArray, List.set_cons_zero, List.set_cons_succ]
                      refine Ops.wq_take _ (by rfl) (fun X hx => by go_simp; try with_reducible rfl) ?_
                      try simp only [Act.put, List.setIfInBounds_toArray, List.set_cons_zero, List.set_cons_succ]
                      refine Ops.wq_take (.agg Vx) (by rfl) (fun X hx => by rw [← HVX.out]; exact run_mid_in 38 (.tmp 136) rfl gl (k2 * 3) (by go_simp) (tmL x) _ (range_below HRG.out (below_trans HBJ.out hx) HG.out) rfl rfl (by kernel_rfl)) ?_
                      try simp only [Act.put, List.setIfInBounds_toArray, List.set_cons_zero, List.set_cons_succ]
                      refine Ops.wq_take (.bool r) (by rfl) (fun X hx => Ops.run_eql_op 38 (.tmp 133) (.tmp 137) 38 rfl Vy Vx rfl rfl r (by kernel_rfl) (fun w => HEQ.out w) X) ?_
                      try simp only [Act.put, List.setIfInBounds_toArray, List.set_cons_zero, List.set_cons_succ]
                      refine Ops.wq_take _ (by rfl) (fun X hx => by go_simp; try with_reducible rfl) ?_
                      try simp only [Act.put, List.setIfInBounds_toArray, List.set_cons_zero, List.set_cons_succ]
                      refine Ops.wq_take _ (by rfl) (fun X hx => by go_simp; try with_reducible rfl) ?_
                      try simp only [Act.put, List.setIfInBounds_toArray, List.set_cons_zero, List.set_cons_succ]
                      refine Ops.wq_end ?_
                      intro X2 hb2
                      have HB2 := Lib.hid (below_trans HBJ.out hb2)
                      clear hb2
                      go_wp2_with fail
                      go_round
                      case rel => exact ⟨j + 1, r, by omega, rfl, by go_num, by
                        rw [HTS.out, ← HR.out]
                        have h : ¬ x ∈ S.take j := of_decide_eq_false HBB.out.symm
                        by_cases e : y = x
                        · rw [decide_eq_true e, decide_eq_true (by rw [e]; simp)]
                        · rw [decide_eq_false e, decide_eq_false (by
                            intro hc
                            rcases List.mem_append.1 hc with hc | hc
                            · exact h hc
                            · exact e (List.mem_singleton.1 hc).symm)], HB2.out⟩
                      case measure => simp only [intOf]; omega
                  · have hjn : j = n := by omega
                    obtain rfl : bb = true := by
                      rw [HBB.out, hjn, List.take_of_length_le (Nat.le_of_eq HN.out)]
                      exact decide_eq_true HXE.out.1
                    have d5 : decide ((j : Int) < (n : Int)) = false := decide_eq_false (by omega)
                    have ct : wr.cell? ⟨gl, k2 * 3 + 2, none⟩ = some (.int .i64 x.t) := (range_below HRG.out HBJ.out HG.out) 2 _ rfl
                    have e1 := HXE.out.2.1
                    have e2 := HXE.out.2.2.1
                    have e3 := HXE.out.2.2.2
                    have d6 : decide (m < x.t) = false := decide_eq_false (by omega)
                    have d7 : decide (x.t < nb) = false := decide_eq_false (by omega)
                    have hd8 : (x.t == nb) = false ∨ (x.t == nb) = true ∧ decide (0 < i) = false := by
                      by_cases e : x.t = nb
                      · exact .inr ⟨by simp [e], decide_eq_false (by omega)⟩
                      · exact .inl (by simp [e])
                    clear e1 e2 e3
                    go_upto_region 34 with fail
                    go_cut [21] (fun late X => late = .bool false ∧ Below w6.heap.size w6 X)
                    case first =>
                      rcases hd8 with d8 | ⟨d8, d9⟩
                      · go_wp2_with fail
                        go_meet
                        exact ⟨rfl, HBJ.out⟩
                      · go_wp2_with fail
                        go_meet
                        exact ⟨by first | rfl | rw [d9], HBJ.out⟩
                    case rest =>
                      obtain ⟨rfl, hbc⟩ := hcut
                      have HBC := Lib.hid hbc
                      clear hbc HBJ ct
                      go_upto_region 35 with fail
                      rcases Nat.eq_zero_or_pos k2 with hk0 | hk0
                      · have d9' : decide (0 < (k2 : Int)) = false := decide_eq_false (by omega)
                        refine q_start (by kernel_rfl) (by kernel_rfl) ?_
                        refine Ops.wq_in ?_
                        refine Ops.wq_take _ (by rfl) (fun X hx => by go_simp; try with_reducible rfl) ?_
                        try simp only [Act.put, List.setIfInBounds_toArray, List.set_cons_zero, List.set_cons_succ]
                        refine Ops.wq_take _ (by rfl) (fun X hx => by go_simp; try with_reducible rfl) ?_
                        try simp only [Act.put, List.setIfInBounds_toArray, List.set_cons_zero, List.set_cons_succ]
                        refine Ops.wq_take _ (by rfl) (fun X hx => by go_simp; try with_reducible rfl) ?_
                        try simp only [Act.put, List.setIfInBounds_toArray, List.set_cons_zero, List.set_cons_succ]
                        refine Ops.wq_take _ (by rfl) (fun X hx => by go_simp; try with_reducible rfl) ?_
                        try simp only [Act.put, List.setIfInBounds_toArray, List.set_cons_zero, List.set_cons_succ]
                        refine Ops.wq_take _ (by rfl) (fun X hx => by go_simp; try with_reducible rfl) ?_
                        try simp only [Act.put, List.setIfInBounds_toArray, List.set_cons_zero, List.set_cons_succ]
                        refine Ops.wq_take _ (by rfl) (fun X hx => by go_simp; try with_reducible rfl) ?_
                        try simp only [Act.put, List.setIfInBounds_toArray, List.set_cons_zero, List.set_cons_succ]
                        refine Ops.wq_take _ (by rfl) (fun X hx => by go_simp; try with_reducible rfl) ?_
                        try simp only [Act.put, List.setIfInBounds_toArray, List.set_cons_zero, List.set_cons_succ]
                        refine Ops.wq_take _ (by rfl) (fun X hx => by go_simp; try with_reducible rfl) ?_
                        try simp only [Act.put, List.setIfInBounds_toArray, List.set_cons_zero, List.set_cons_succ]
                        refine Ops.wq_take _ (by rfl) (fun X hx => by go_simp; try with_reducible rfl) ?_
                        try simp only [Act.put, List.setIfInBounds_toArray, List.set_cons_zero, List.set_cons_succ]
                        refine Ops.wq_pass (by rfl) ?_
                        try simp only [Act.put, List.setIfInBounds_toArray, List.set_cons_zero, List.set_cons_succ]
                        refine Ops.wq_pass (by rfl) ?_
                        try simp only [Act.put, List.setIfInBounds_toArray, List.set_cons_zero, List.set_cons_succ]
                        refine Ops.wq_pass (by rfl) ?_
                        try simp only [Act.put, List.setIfInBounds_toArray, List.set_cons_zero, List.set_cons_succ]
                        refine Ops.wq_pass (by rfl) ?_
                        try simp only [Act.put, List.setIfInBounds_toArray, List.set_cons_zero, List.set_cons_succ]
                        refine Ops.wq_pass (by rfl) ?_
                        try simp only [Act.put, List.setIfInBounds_toArray, List.set_cons_zero, List.set_cons_succ]
                        refine Ops.wq_pass (by rfl) ?_
                        try simp only [Act.put, List.setIfInBounds_toArray, List.set_cons_zero, List.set_cons_succ]
                        refine Ops.wq_pass (by rfl) ?_
                        try simp only [Act.put, List.setIfInBounds_toArray, List.set_cons_zero, List.set_cons_succ]
                        refine Ops.wq_pass (by rfl) ?_
                        try simp only [Act.put, List.setIfInBounds_toArray, List.set_cons_zero, List.set_cons_succ]
                        refine Ops.wq_pass (by rfl) ?_
                        try simp only [Act.put, List.setIfInBounds_toArray, List.set_cons_zero, List.set_cons_succ]
                        refine Ops.wq_pass (by rfl) ?_
                        try simp only [Act.put, List.setIfInBounds_toArray, List.set_cons_zero, List.set_cons_succ]
                        refine Ops.wq_pass (by rfl) ?_
                        try simp only [Act.put, List.setIfInBounds_toArray, List.set_cons_zero, List.set_cons_succ]
                        refine Ops.wq_pass (by rfl) ?_
                        try simp only [Act.put, List.setIfInBounds_toArray, List.set_cons_zero, List.set_cons_succ]
                        refine Ops.wq_take _ (by rfl) (fun X hx => by go_simp; try with_reducible rfl) ?_
                        try simp only [Act.put, List.setIfInBounds_toArray, List.set_cons_zero, List.set_cons_succ]
                        refine Ops.wq_take _ (by rfl) (fun X hx => by go_simp; try with_reducible rfl) ?_
                        try simp only [Act.put, List.setIfInBounds_toArray, List.set_cons_zero, List.set_cons_succ]
                        refine Ops.wq_end ?_
                        intro X2 hb2
                        have HB2 := Lib.hid (below_trans HBC.out hb2)
                        clear hb2
                        go_wp2_with fail
                        go_round
                        case rel => exact ⟨k2 + 1, by omega, by go_num, by go_num, HB2.out⟩
                        case measure => simp only [intOf]; omega
                      · obtain ⟨k3, hk3⟩ : ∃ k3, k2 = k3 + 1 := ⟨k2 - 1, by omega⟩
                        have d9' : decide (0 < (k2 : Int)) = true := decide_eq_true (by omega)
                        have hk3i : (k2 : Int) - 1 = (k3 : Int) := by omega
                        have hk3l : k3 < E1.length := by have := HN1.out; omega
                        have hz := List.getElem?_eq_getElem hk3l
                        have hzx : (E1[k3]).t ≤ x.t := by
                          have hk2l : k2 < E1.length := by have := HN1.out; omega
                          have h := List.pairwise_iff_getElem.1 HSRT.out k3 k2 hk3l hk2l (by omega)
                          have hx := HX.out
                          rw [List.getElem?_eq_getElem hk2l] at hx
                          rw [Option.some.inj hx] at h
                          exact t_le (.inr h)
                        generalize E1[k3] = z at hz hzx
                        obtain ⟨g3, hg3, _, hrg3⟩ := HRL.out k3 z hz
                        injection hg3 with hg3
                        injection hg3 with hg3
                        subst hg3
                        have HRZ := Lib.hid (show ∀ V, Below wc.heap.size wc V → V.cell? ⟨gl, k3 * 3 + 2, none⟩ = some (.int .i64 z.t) from fun V hV => (range_below hrg3 (below_trans HBC.out hV) HG.out) 2 _ rfl)
                        have HRX := Lib.hid (show ∀ V, Below wc.heap.size wc V → V.cell? ⟨gl, k2 * 3 + 2, none⟩ = some (.int .i64 x.t) from fun V hV => (range_below HRG.out (below_trans HBC.out hV) HG.out) 2 _ rfl)
                        have hw3 : IntKind.i64.wrap (k3 : Int) = (k3 : Int) := by rw [IntKind.wrap_i64]; omega
                        have d10 : decide (x.t < z.t) = false := decide_eq_false (by omega)
                        have hk3n : k3 < n1 := by omega
                        clear hz hzx hrg3 hk3l hk3
                        refine q_start (by kernel_rfl) (by kernel_rfl) ?_
                        refine Ops.wq_in ?_
                        refine Ops.wq_take _ (by rfl) (fun X hx => by go_simp; try with_reducible rfl) ?_
                        try simp only [Act.put, List.setIfInBounds_toArray, List.set_cons_zero, List.set_cons_succ]
                        refine Ops.wq_take _ (by rfl) (fun X hx => by go_simp; try with_reducible rfl) ?_
                        try simp only [Act.put, List.setIfInBounds_toArray, List.set_cons_zero, List.set_cons_succ]
                        refine Ops.wq_take _ (by rfl) (fun X hx => by go_simp; try with_reducible rfl) ?_
                        try simp only [Act.put, List.setIfInBounds_toArray, List.set_cons_zero, List.set_cons_succ]
                        refine Ops.wq_take _ (by rfl) (fun X hx => by go_simp; try with_reducible rfl) ?_
                        try simp only [Act.put, List.setIfInBounds_toArray, List.set_cons_zero, List.set_cons_succ]
                        refine Ops.wq_take _ (by rfl) (fun X hx => by go_simp; try with_reducible rfl) ?_
                        try simp only [Act.put, List.setIfInBounds_toArray, List.set_cons_zero, List.set_cons_succ]
                        refine Ops.wq_take _ (by rfl) (fun X hx => by go_simp; try with_reducible rfl) ?_
                        try simp only [Act.put, List.setIfInBounds_toArray, List.set_cons_zero, List.set_cons_succ]
                        refine Ops.wq_take _ (by rfl) (fun X hx => by go_simp; try with_reducible rfl) ?_
                        try simp only [Act.put, List.setIfInBounds_toArray, List.set_cons_zero, List.set_cons_succ]
                        refine Ops.wq_take _ (by rfl) (fun X hx => by go_simp; try with_reducible rfl) ?_
                        try simp only [Act.put, List.setIfInBounds_toArray, List.set_cons_zero, List.set_cons_succ]
                        refine Ops.wq_take _ (by rfl) (fun X hx => by go_simp; try with_reducible rfl) ?_
                        try simp only [Act.put, List.setIfInBounds_toArray, List.set_cons_zero, List.set_cons_succ]
                        refine Ops.wq_take _ (by rfl) (fun X hx => by go_simp; try with_reducible rfl) ?_
                        try simp only [Act.put, List.setIfInBounds_toArray, List.set_cons_zero, List.set_cons_succ]
                        refine Ops.wq_take _ (by rfl) (fun X hx => by go_simp; try with_reducible rfl) ?_
                        try simp only [Act.put, List.setIfInBounds_toArray, List.set_cons_zero, List.set_cons_succ]
                        refine Ops.wq_take _ (by rfl) (fun X hx => by go_simp; try with_reducible rfl) ?_
                        try simp only [Act.put, List.setIfInBounds_toArray, List.set_cons_zero, List.set_cons_succ]
                        refine Ops.wq_take _ (by rfl) (fun X hx => by go_simp; try with_reducible rfl) ?_
                        try simp only [Act.put, List.setIfInBounds_toArray, List.set_cons_zero, List.set_cons_succ]
                        refine Ops.wq_take _ (by rfl) (fun X hx => by go_simp; try with_reducible rfl) ?_
                        try simp only [Act.put, List.setIfInBounds_toArray, List.set_cons_zero, List.set_cons_succ]
                        refine Ops.wq_take _ (by rfl) (fun X hx => by have cl := HRZ.out X hx; go_simp; try with_reducible rfl) ?_
                        try simp only [Act.put, List.setIfInBounds_toArray, List.set_cons_zero, List.set_cons_succ]
                        refine Ops.wq_take _ (by rfl) (fun X hx => by go_simp; try with_reducible rfl) ?_
                        try simp only [Act.put, List.setIfInBounds_toArray, List.set_cons_zero, List.set_cons_succ]
                        refine Ops.wq_take _ (by rfl) (fun X hx => by go_simp; try with_reducible rfl) ?_
                        try simp only [Act.put, List.setIfInBounds_toArray, List.set_cons_zero, List.set_cons_succ]
                        refine Ops.wq_take _ (by rfl) (fun X hx => by go_simp; try with_reducible rfl) ?_
                        try simp only [Act.put, List.setIfInBounds_toArray, List.set_cons_zero, List.set_cons_succ]
                        refine Ops.wq_take _ (by rfl) (fun X hx => by go_simp; try with_reducible rfl) ?_
                        try simp only [Act.put, List.setIfInBounds_toArray, List.set_cons_zero, List.set_cons_succ]
                        refine Ops.wq_take _ (by rfl) (fun X hx => by have cl := HRX.out X hx; go_simp; try with_reducible rfl) ?_
                        try simp only [Act.put, List.setIfInBounds_toArray, List.set_cons_zero, List.set_cons_succ]
                        refine Ops.wq_take _ (by rfl) (fun X hx => by go_simp; try with_reducible rfl) ?_
                        try simp only [Act.put, List.setIfInBounds_toArray, List.set_cons_zero, List.set_cons_succ]
                        refine Ops.wq_take _ (by rfl) (fun X hx => by go_simp; try with_reducible rfl) ?_
                        try simp only [Act.put, List.setIfInBounds_toArray, List.set_cons_zero, List.set_cons_succ]
                        refine Ops.wq_take _ (by rfl) (fun X hx => by go_simp; try with_reducible rfl) ?_
                        try simp only [Act.put, List.setIfInBounds_toArray, List.set_cons_zero, List.set_cons_succ]
                        refine Ops.wq_end ?_
                        intro X2 hb2
                        have HB2 := Lib.hid (below_trans HBC.out hb2)
                        clear hb2
                        go_wp2_with fail
                        go_round
                        case rel => exact ⟨k2 + 1, by omega, by go_num, by go_num, HB2.out⟩
                        case measure => simp only [intOf]; omega
              · have d5 : decide ((k2 : Int) < (n1 : Int)) = false := decide_eq_false (by omega)
                have HW3 := Lib.hid (show L2 w g m (i + 1) S As cs (came + k2) wr from by
                  have hkn : k2 = n1 := by omega
                  rw [hkn]
                  obtain ⟨T, F, h, h1⟩ := HL2.out
                  exact ⟨T, F, h.below HBL.out, h1⟩)
                go_wp2_with fail
                go_round
                case rel => exact ⟨i + 1, came + k2, m, by omega, by omega, by go_num, rfl, by go_num, by omega, fun h => by omega, fun h => by omega, fun h => by omega, HW3.out⟩
                case measure => simp only [intOf]; omega
          · have dA : decide ((i : Int) < (M : Int)) = false := decide_eq_false (by omega)
            have dB : ((i : Int) == (M : Int)) = true := by simp; omega
            have hm1 : nb ≤ 1099511627776 := by have := hnbi (by omega); omega
            go_upto_region 23 with fail
            obtain ⟨T, F, hO, hsub, hcnt, hgt⟩ := HW.out
            have hord := hO.wb.1.good.ok
            have HADV := Lib.hid (advance_any hO.wb.1 (fun i hi => (hO.wb.2 i hi).2) (1099511627776 : Int) ⟨by omega, by omega⟩ hm1)
            have HO := Lib.hid hO
            have HSUB := Lib.hid hsub
            have HCNT := Lib.hid hcnt
            have HGT := Lib.hid hgt
            have HORD := Lib.hid hord
            clear hO hsub hcnt hgt hord HW
            go_wp2_with fail
            refine HADV.out.mono ?_
            rintro e w6 ⟨E1, R1, A1, c1, rfl, hER, hle, hRl, hro, hw6, hk6, _⟩
            have HO6 := Lib.hid (HO.out.same hw6 hk6)
            have hin : ∀ x ∈ E1, x ∈ T := fun x hx => by rw [hER]; exact List.mem_append_left _ hx
            have HE := Lib.hid (show ∀ x ∈ E1, x ∈ S ∧ x.t ≤ (1099511627776 : Int) ∧ nb ≤ x.t ∧ (0 < i → nb < x.t) from fun x hx => ⟨HSUB.out x (hin x hx), hle x hx, (HORD.out x (hin x hx)).2.2.2.2.1, fun h => HGT.out h x (hin x hx)⟩)
            have HSRT := Lib.hid (show Srt E1 from by have := HO.out.wb.1.good.srt; rw [hER] at this; exact (List.pairwise_append.1 this).1)
            have HL2 := Lib.hid (show L2 w g (1099511627776 : Int) (i + 1) S As cs (came + E1.length) w6 from ⟨R1, F, HO6.out, fun x hx => HSUB.out x (by rw [hER]; exact List.mem_append_right _ hx), by
              have := HCNT.out
              rw [hER, List.length_append] at this
              omega, fun _ => hRl⟩)
            have hcb : came + E1.length ≤ 64 := by
              have := HCNT.out
              rw [hER, List.length_append] at this
              have := HN.out
              omega
            have HRL := Lib.hid (RdT.own hro)
            have HRS := Lib.hid (RdT.own HO6.out.row)
            obtain ⟨n1, hn1⟩ : ∃ n1, E1.length = n1 := ⟨_, rfl⟩
            rw [hn1] at HL2 hcb ⊢
            have HN1 := Lib.hid hn1
            clear hER hle hRl hro hw6 hk6 hin HADV HO HSUB HCNT HGT HORD HO6 hn1
            go_wp2_with fail
            go_loopw [12, 18] (fun ca kk X => ∃ k2 : Nat, k2 ≤ n1 ∧ ca = .int .i64 ((came + k2 : Nat) : Int) ∧ kk = .int .i64 k2 ∧ Below w6.heap.size w6 X) (fun _ kk _ => n1 - (intOf kk).toNat)
            case atStart => exact ⟨0, Nat.zero_le _, rfl, rfl, Below.refl _ _⟩
            case round =>
              obtain ⟨k2, hk2, rfl, rfl, hb⟩ := hrel
              have HBL := Lib.hid hb
              clear hb
              by_cases hlt2 : k2 < n1
              · have hkL : k2 < E1.length := by rw [HN1.out]; exact hlt2
                have hx := List.getElem?_eq_getElem hkL
                obtain ⟨x, hxe⟩ : ∃ x, E1[k2] = x := ⟨_, rfl⟩
                rw [hxe] at hx
                have HXE := Lib.hid (HE.out x (hxe ▸ List.getElem_mem hkL))
                obtain ⟨gl, hA1, hgl, hrg⟩ := HRL.out k2 x hx
                subst hA1
                have HG := Lib.hid hgl
                have HRG := Lib.hid hrg
                have HX := Lib.hid hx
                clear hxe hx hgl hrg hkL
                obtain ⟨Vx, hVx⟩ : ∃ V, (tmL x).toArray = V := ⟨_, rfl⟩
                have HVX := Lib.hid hVx
                clear hVx
                go_wp2_with fail
                go_loopw [19, 20] (fun b nn X => ∃ (j : Nat) (bb : Bool), j ≤ n ∧ b = .bool bb ∧ nn = .int .i64 j ∧ bb = decide (x ∈ S.take j) ∧ Below w6.heap.size w6 X) (fun _ nn _ => n - (intOf nn).toNat)
                case atStart => exact ⟨0, false, Nat.zero_le _, rfl, rfl, by simp, HBL.out⟩
                case round =>
                  obtain ⟨j, bb, hj, rfl, rfl, hbb, hb⟩ := hrel
                  have HBB := Lib.hid hbb
                  have HBJ := Lib.hid hb
                  clear hbb hb HBL
                  by_cases hlt3 : j < n
                  · have hjS : j < S.length := by rw [HN.out]; exact hlt3
                    have hy := List.getElem?_eq_getElem hjS
                    have hts : S.take (j + 1) = S.take j ++ [S[j]] := List.take_succ_eq_append_getElem hjS
                    generalize S[j] = y at hy hts
                    have HTS := Lib.hid hts
                    obtain ⟨gs, hAs, hgs, hrgs⟩ := HRS.out j y hy
                    subst hAs
                    have HGS := Lib.hid hgs
                    have HRGS := Lib.hid hrgs
                    clear hts hy hgs hrgs hjS
                    cases bb with
                    | true =>
                      go_upto_region 33 with fail
                      refine q_start (by kernel_rfl) (by kernel_rfl) ?_
                      refine Ops.wq_in ?_
                      refine Ops.wq_take _ (by rfl) (fun X hx => by go_simp; try with_reducible rfl) ?_
                      try simp only [Act.put, List.setIfInBounds_toArray, List.set_cons_zero, List.set_cons_succ]
                      refine Ops.wq_take _ (by rfl) (fun X hx => by go_simp; try with_reducible rfl) ?_
                      try simp only [Act.put, List.setIfInBounds_toArray, List.set_cons_zero, List.set_cons_succ]
                      refine Ops.wq_pass (by rfl) ?_
                      try simp only [Act.put, List.setIfInBounds_toArray, List.set_cons_zero, List.set_cons_succ]
                      refine Ops.wq_pass (by rfl) ?_
                      try simp only [Act.put, List.setIfInBounds_toArray, List.set_cons_zero, List.set_cons_succ]
                      refine Ops.wq_pass (by rfl) ?_
                      try simp only [Act.put, List.setIfInBounds_toArray, List.set_cons_zero, List.set_cons_succ]
                      refine Ops.wq_pass (by rfl) ?_
                      try simp only [Act.put, List.setIfInBounds_toArray, List.set_cons_zero, List.set_cons_succ]
                      refine Ops.wq_pass (by rfl) ?_
                      try simp only [Act.put, List.setIfInBounds_toArray, List.set_cons_zero, List.set_cons_succ]
                      refine Ops.wq_pass (by rfl) ?_
                      try simp only [Act.put, List.setIfInBounds_toArray, List.set_cons_zero, List.set_cons_succ]
                      refine Ops.wq_pass (by rfl) ?_
                      try simp only [Act.put, List.setIfInBounds_toArray, List.set_cons_zero, List.set_cons_succ]
                      refine Ops.wq_pass (by rfl) ?_
                      try simp only [Act.put, List.setIfInBounds_toArray, List.set_cons_zero, List.set_cons_succ]
                      refine Ops.wq_pass (by rfl) ?_
                      try simp only [Act.put, List.setIfInBounds_toArray, List.set_cons_zero, List.set_cons_succ]
                      refine Ops.wq_take _ (by rfl) (fun X hx => by go_simp; try with_reducible rfl) ?_
                      try simp only [Act.put, List.setIfInBounds_toArray, List.set_cons_zero, List.set_cons_succ]
                      refine Ops.wq_take _ (by rfl) (fun X hx => by go_simp; try with_reducible rfl) ?_
                      try simp only [Act.put, List.setIfInBounds_toArray, List.set_cons_zero, List.set_cons_succ]
                      refine Ops.wq_end ?_
                      intro X2 hb2
                      have HB2 := Lib.hid (below_trans HBJ.out hb2)
                      clear hb2
                      go_wp2_with fail
                      go_round
                      case rel => exact ⟨j + 1, true, by omega, rfl, by go_num, by
                        rw [HTS.out]
                        have h : x ∈ S.take j := of_decide_eq_true HBB.out.symm
                        exact (decide_eq_true (List.mem_append_left _ h)).symm, HB2.out⟩
                      case measure => simp only [intOf]; omega
                    | false =>
                      obtain ⟨Vy, hVy⟩ : ∃ V, (tmL y).toArray = V := ⟨_, rfl⟩
                      have HVY := Lib.hid hVy
                      obtain ⟨r, hr⟩ : ∃ r, decide (y = x) = r := ⟨_, rfl⟩
                      have HEQ := Lib.hid (fun w => eqin_tm 9997 y x w)
                      rw [hVy, HVX.out, hr] at HEQ
                      have HR := Lib.hid hr
                      clear hVy hr
                      go_upto_region 33 with fail
                      refine q_start (by kernel_rfl) (by kernel_rfl) ?_
                      refine Ops.wq_in ?_
                      refine Ops.wq_take _ (by rfl) (fun X hx => by go_simp; try with_reducible rfl) ?_
                      try simp only [Act.put, List.setIfInBounds_toArray, List.set_cons_zero, List.set_cons_succ]
                      refine Ops.wq_take _ (by rfl) (fun X hx => by go_simp; try with_reducible rfl) ?_
                      try simp only [Act.put, List.setIfInBounds_toArray, List.set_cons_zero, List.set_cons_succ]
                      refine Ops.wq_take _ (by rfl) (fun X hx => by go_simp; try with_reducible rfl) ?_
                      try simp only [Act.put, List.setIfInBounds_toArray, List.set_cons_zero, List.set_cons_succ]
                      refine Ops.wq_take _ (by rfl) (fun X hx => by go_simp; try with_reducible rfl) ?_
                      try simp only [Act.put, List.setIfInBounds_toArray, List.set_cons_zero, List.set_cons_succ]
                      refine Ops.wq_take _ (by rfl) (fun X hx => by go_simp; try with_reducible rfl) ?_
                      try simp only [Act.put, List.setIfInBounds_toArray, List.set_cons_zero, List.set_cons_succ]
                      refine Ops.wq_take (.agg Vy) (by rfl) (fun X hx => by rw [← HVY.out]; exact run_mid_in 38 (.tmp 132) rfl gs (j * 3) (by go_simp) (tmL y) _ (range_below HRGS.out (below_trans HBJ.out hx) HGS.out) rfl rfl (by kernel_rfl)) ?_
                      try simp only [Act.put, List.setIfInBounds_toArray, List.set_cons_zero, List.set_cons_succ]
                      refine Ops.wq_take _ (by rfl) (fun X hx => by go_simp; try with_reducible rfl) ?_
                      try simp only [Act.put, List.setIfInBounds_toArray, List.set_cons_zero, List.set_cons_succ]
                      refine Ops.wq_take _ (by rfl) (fun X hx => by go_simp; try with_reducible rfl) ?_
                      try simp only [Act.put, List.setIfInBounds_toArray, List.set_cons_zero, List.set_cons_succ]
                      refine Ops.wq_take _ (by rfl) (fun X hx => by go_simp; try with_reducible rfl) ?_
                      try simp only [Act.put, List.setIfInBounds_toArray, List.set_cons_zero, List.set_cons_succ]
                      refine Ops.wq_take (.agg Vx) (by rfl) (fun X hx => by rw [← HVX.out]; exact run_mid_in 38 (.tmp 136) rfl gl (k2 * 3) (by go_simp) (tmL x) _ (range_below HRG.out (below_trans HBJ.out hx) HG.out) rfl rfl (by kernel_rfl)) ?_
                      try simp only [Act.put, List.setIfInBounds_toArray, List.set_cons_zero, List.set_cons_succ]
                      refine Ops.wq_take (.bool r) (by rfl) (fun X hx => Ops.run_eql_op 38 (.tmp 133) (.tmp 137) 38 rfl Vy Vx rfl rfl r (by kernel_rfl) (fun w => HEQ.out w) X) ?_
                      try simp only [Act.put, List.setIfInBounds_toArray, List.set_cons_zero, List.set_cons_succ]
                      refine Ops.wq_take _ (by rfl) (fun X hx => by go_simp; try with_reducible rfl) ?_
                      try simp only [Act.put, List.setIfInBounds_toArray, List.set_cons_zero, List.set_cons_succ]
                      refine Ops.wq_take _ (by rfl) (fun X hx => by go_simp; try with_reducible rfl) ?_
                      try simp only [Act.put, List.setIfInBounds_toArray, List.set_cons_zero, List.set_cons_succ]
                      refine Ops.wq_end ?_
                      intro X2 hb2
                      have HB2 := Lib.hid (below_trans HBJ.out hb2)
                      clear hb2
                      go_wp2_with fail
                      go_round
                      case rel => exact ⟨j + 1, r, by omega, rfl, by go_num, by
                        rw [HTS.out, ← HR.out]
                        have h : ¬ x ∈ S.take j := of_decide_eq_false HBB.out.symm
                        by_cases e : y = x
                        · rw [decide_eq_true e, decide_eq_true (by rw [e]; simp)]
                        · rw [decide_eq_false e, decide_eq_false (by
                            intro hc
                            rcases List.mem_append.1 hc with hc | hc
                            · exact h hc
                            · exact e (List.mem_singleton.1 hc).symm)], HB2.out⟩
                      case measure => simp only [intOf]; omega
                  · have hjn : j = n := by omega
                    obtain rfl : bb = true := by
                      rw [HBB.out, hjn, List.take_of_length_le (Nat.le_of_eq HN.out)]
                      exact decide_eq_true HXE.out.1
                    have d5 : decide ((j : Int) < (n : Int)) = false := decide_eq_false (by omega)
                    have ct : wr.cell? ⟨gl, k2 * 3 + 2, none⟩ = some (.int .i64 x.t) := (range_below HRG.out HBJ.out HG.out) 2 _ rfl
                    have e1 := HXE.out.2.1
                    have e2 := HXE.out.2.2.1
                    have e3 := HXE.out.2.2.2
                    have d6 : decide ((1099511627776 : Int) < x.t) = false := decide_eq_false (by omega)
                    have d7 : decide (x.t < nb) = false := decide_eq_false (by omega)
                    have hd8 : (x.t == nb) = false ∨ (x.t == nb) = true ∧ decide (0 < i) = false := by
                      by_cases e : x.t = nb
                      · exact .inr ⟨by simp [e], decide_eq_false (by omega)⟩
                      · exact .inl (by simp [e])
                    clear e1 e2 e3
                    go_upto_region 34 with fail
                    go_cut [21] (fun late X => late = .bool false ∧ Below w6.heap.size w6 X)
                    case first =>
                      rcases hd8 with d8 | ⟨d8, d9⟩
                      · go_wp2_with fail
                        go_meet
                        exact ⟨rfl, HBJ.out⟩
                      · go_wp2_with fail
                        go_meet
                        exact ⟨by first | rfl | rw [d9], HBJ.out⟩
                    case rest =>
                      obtain ⟨rfl, hbc⟩ := hcut
                      have HBC := Lib.hid hbc
                      clear hbc HBJ ct
                      go_upto_region 35 with fail
                      rcases Nat.eq_zero_or_pos k2 with hk0 | hk0
                      · have d9' : decide (0 < (k2 : Int)) = false := decide_eq_false (by omega)
                        refine q_start (by kernel_rfl) (by kernel_rfl) ?_
                        refine Ops.wq_in ?_
                        refine Ops.wq_take _ (by rfl) (fun X hx => by go_simp; try with_reducible rfl) ?_
                        try simp only [Act.put, List.setIfInBounds_toArray, List.set_cons_zero, List.set_cons_succ]
                        refine Ops.wq_take _ (by rfl) (fun X hx => by go_simp; try with_reducible rfl) ?_
                        try simp only [Act.put, List.setIfInBounds_toArray, List.set_cons_zero, List.set_cons_succ]
                        refine Ops.wq_take _ (by rfl) (fun X hx => by go_simp; try with_reducible rfl) ?_
                        try simp only [Act.put, List.setIfInBounds_toArray, List.set_cons_zero, List.set_cons_succ]
                        refine Ops.wq_take _ (by rfl) (fun X hx => by go_simp; try with_reducible rfl) ?_
                        try simp only [Act.put, List.setIfInBounds_toArray, List.set_cons_zero, List.set_cons_succ]
                        refine Ops.wq_take _ (by rfl) (fun X hx => by go_simp; try with_reducible rfl) ?_
                        try simp only [Act.put, List.setIfInBounds_toArray, List.set_cons_zero, List.set_cons_succ]
                        refine Ops.wq_take _ (by rfl) (fun X hx => by go_simp; try with_reducible rfl) ?_
                        try simp only [Act.put, List.setIfInBounds_toArray, List.set_cons_zero, List.set_cons_succ]
                        refine Ops.wq_take _ (by rfl) (fun X hx => by go_simp; try with_reducible rfl) ?_
                        try simp only [Act.put, List.setIfInBounds_toArray, List.set_cons_zero, List.set_cons_succ]
                        refine Ops.wq_take _ (by rfl) (fun X hx => by go_simp; try with_reducible rfl) ?_
                        try simp only [Act.put, List.setIfInBounds_toArray, List.set_cons_zero, List.set_cons_succ]
                        refine Ops.wq_take _ (by rfl) (fun X hx => by go_simp; try with_reducible rfl) ?_
                        try simp only [Act.put, List.setIfInBounds_toArray, List.set_cons_zero, List.set_cons_succ]
                        refine Ops.wq_pass (by rfl) ?_
                        try simp only [Act.put, List.setIfInBounds_toArray, List.set_cons_zero, List.set_cons_succ]
                        refine Ops.wq_pass (by rfl) ?_
                        try simp only [Act.put, List.setIfInBounds_toArray, List.set_cons_zero, List.set_cons_succ]
                        refine Ops.wq_pass (by rfl) ?_
                        try simp only [Act.put, List.setIfInBounds_toArray, List.set_cons_zero, List.set_cons_succ]
                        refine Ops.wq_pass (by rfl) ?_
                        try simp only [Act.put, List.setIfInBounds_toArray, List.set_cons_zero, List.set_cons_succ]
                        refine Ops.wq_pass (by rfl) ?_
                        try simp only [Act.put, List.setIfInBounds_toArray, List.set_cons_zero, List.set_cons_succ]
                        refine Ops.wq_pass (by rfl) ?_
                        try simp only [Act.put, List.setIfInBounds_toArray, List.set_cons_zero, List.set_cons_succ]
                        refine Ops.wq_pass (by rfl) ?_
                        try simp only [Act.put, List.setIfInBounds_toArray, List.set_cons_zero, List.set_cons_succ]
                        refine Ops.wq_pass (by rfl) ?_
                        try simp only [Act.put, List.setIfInBounds_toArray, List.set_cons_zero, List.set_cons_succ]
                        refine Ops.wq_pass (by rfl) ?_
                        try simp only [Act.put, List.setIfInBounds_toArray, List.set_cons_zero, List.set_cons_succ]
                        refine Ops.wq_pass (by rfl) ?_
                        try simp only [Act.put, List.setIfInBounds_toArray, List.set_cons_zero, List.set_cons_succ]
                        refine Ops.wq_pass (by rfl) ?_
                        try simp only [Act.put, List.setIfInBounds_toArray, List.set_cons_zero, List.set_cons_succ]
                        refine Ops.wq_pass (by rfl) ?_
                        try simp only [Act.put, List.setIfInBounds_toArray, List.set_cons_zero, List.set_cons_succ]
                        refine Ops.wq_take _ (by rfl) (fun X hx => by go_simp; try with_reducible rfl) ?_
                        try simp only [Act.put, List.setIfInBounds_toArray, List.set_cons_zero, List.set_cons_succ]
                        refine Ops.wq_take _ (by rfl) (fun X hx => by go_simp; try with_reducible rfl) ?_
                        try simp only [Act.put, List.setIfInBounds_toArray, List.set_cons_zero, List.set_cons_succ]
                        refine Ops.wq_end ?_
                        intro X2 hb2
                        have HB2 := Lib.hid (below_trans HBC.out hb2)
                        clear hb2
                        go_wp2_with fail
                        go_round
                        case rel => exact ⟨k2 + 1, by omega, by go_num, by go_num, HB2.out⟩
                        case measure => simp only [intOf]; omega
                      · obtain ⟨k3, hk3⟩ : ∃ k3, k2 = k3 + 1 := ⟨k2 - 1, by omega⟩
                        have d9' : decide (0 < (k2 : Int)) = true := decide_eq_true (by omega)
                        have hk3i : (k2 : Int) - 1 = (k3 : Int) := by omega
                        have hk3l : k3 < E1.length := by have := HN1.out; omega
                        have hz := List.getElem?_eq_getElem hk3l
                        have hzx : (E1[k3]).t ≤ x.t := by
                          have hk2l : k2 < E1.length := by have := HN1.out; omega
                          have h := List.pairwise_iff_getElem.1 HSRT.out k3 k2 hk3l hk2l (by omega)
                          have hx := HX.out
                          rw [List.getElem?_eq_getElem hk2l] at hx
                          rw [Option.some.inj hx] at h
                          exact t_le (.inr h)
                        generalize E1[k3] = z at hz hzx
                        obtain ⟨g3, hg3, _, hrg3⟩ := HRL.out k3 z hz
                        injection hg3 with hg3
                        injection hg3 with hg3
                        subst hg3
                        have HRZ := Lib.hid (show ∀ V, Below wc.heap.size wc V → V.cell? ⟨gl, k3 * 3 + 2, none⟩ = some (.int .i64 z.t) from fun V hV => (range_below hrg3 (below_trans HBC.out hV) HG.out) 2 _ rfl)
                        have HRX := Lib.hid (show ∀ V, Below wc.heap.size wc V → V.cell? ⟨gl, k2 * 3 + 2, none⟩ = some (.int .i64 x.t) from fun V hV => (range_below HRG.out (below_trans HBC.out hV) HG.out) 2 _ rfl)
                        have hw3 : IntKind.i64.wrap (k3 : Int) = (k3 : Int) := by rw [IntKind.wrap_i64]; omega
                        have d10 : decide (x.t < z.t) = false := decide_eq_false (by omega)
                        have hk3n : k3 < n1 := by omega
                        clear hz hzx hrg3 hk3l hk3
                        refine q_start (by kernel_rfl) (by kernel_rfl) ?_
                        refine Ops.wq_in ?_
                        refine Ops.wq_take _ (by rfl) (fun X hx => by go_simp; try with_reducible rfl) ?_
                        try simp only [Act.put, List.setIfInBounds_toArray, List.set_cons_zero, List.set_cons_succ]
                        refine Ops.wq_take _ (by rfl) (fun X hx => by go_simp; try with_reducible rfl) ?_
                        try simp only [Act.put, List.setIfInBounds_toArray, List.set_cons_zero, List.set_cons_succ]
                        refine Ops.wq_take _ (by rfl) (fun X hx => by go_simp; try with_reducible rfl) ?_
                        try simp only [Act.put, List.setIfInBounds_toArray, List.set_cons_zero, List.set_cons_succ]
                        refine Ops.wq_take _ (by rfl) (fun X hx => by go_simp; try with_reducible rfl) ?_
                        try simp only [Act.put, List.setIfInBounds_toArray, List.set_cons_zero, List.set_cons_succ]
                        refine Ops.wq_take _ (by rfl) (fun X hx => by go_simp; try with_reducible rfl) ?_
                        try simp only [Act.put, List.setIfInBounds_toArray, List.set_cons_zero, List.set_cons_succ]
                        refine Ops.wq_take _ (by rfl) (fun X hx => by go_simp; try with_reducible rfl) ?_
                        try simp only [Act.put, List.setIfInBounds_toArray, List.set_cons_zero, List.set_cons_succ]
                        refine Ops.wq_take _ (by rfl) (fun X hx => by go_simp; try with_reducible rfl) ?_
                        try simp only [Act.put, List.setIfInBounds_toArray, List.set_cons_zero, List.set_cons_succ]
                        refine Ops.wq_take _ (by rfl) (fun X hx => by go_simp; try with_reducible rfl) ?_
                        try simp only [Act.put, List.setIfInBounds_toArray, List.set_cons_zero, List.set_cons_succ]
                        refine Ops.wq_take _ (by rfl) (fun X hx => by go_simp; try with_reducible rfl) ?_
                        try simp only [Act.put, List.setIfInBounds_toArray, List.set_cons_zero, List.set_cons_succ]
                        refine Ops.wq_take _ (by rfl) (fun X hx => by go_simp; try with_reducible rfl) ?_
                        try simp only [Act.put, List.setIfInBounds_toArray, List.set_cons_zero, List.set_cons_succ]
                        refine Ops.wq_take _ (by rfl) (fun X hx => by go_simp; try with_reducible rfl) ?_
                        try simp only [Act.put, List.setIfInBounds_toArray, List.set_cons_zero, List.set_cons_succ]
                        refine Ops.wq_take _ (by rfl) (fun X hx => by go_simp; try with_reducible rfl) ?_
                        try simp only [Act.put, List.setIfInBounds_toArray, List.set_cons_zero, List.set_cons_succ]
                        refine Ops.wq_take _ (by rfl) (fun X hx => by go_simp; try with_reducible rfl) ?_
                        try simp only [Act.put, List.setIfInBounds_toArray, List.set_cons_zero, List.set_cons_succ]
                        refine Ops.wq_take _ (by rfl) (fun X hx => by go_simp; try with_reducible rfl) ?_
                        try simp only [Act.put, List.setIfInBounds_toArray, List.set_cons_zero, List.set_cons_succ]
                        refine Ops.wq_take _ (by rfl) (fun X hx => by have cl := HRZ.out X hx; go_simp; try with_reducible rfl) ?_
                        try simp only [Act.put, List.setIfInBounds_toArray, List.set_cons_zero, List.set_cons_succ]
                        refine Ops.wq_take _ (by rfl) (fun X hx => by go_simp; try with_reducible rfl) ?_
                        try simp only [Act.put, List.setIfInBounds_toArray, List.set_cons_zero, List.set_cons_succ]
                        refine Ops.wq_take _ (by rfl) (fun X hx => by go_simp; try with_reducible rfl) ?_
                        try simp only [Act.put, List.setIfInBounds_toArray, List.set_cons_zero, List.set_cons_succ]
                        refine Ops.wq_take _ (by rfl) (fun X hx => by go_simp; try with_reducible rfl) ?_
                        try simp only [Act.put, List.setIfInBounds_toArray, List.set_cons_zero, List.set_cons_succ]
                        refine Ops.wq_take _ (by rfl) (fun X hx => by go_simp; try with_reducible rfl) ?_
                        try simp only [Act.put, List.setIfInBounds_toArray, List.set_cons_zero, List.set_cons_succ]
                        refine Ops.wq_take _ (by rfl) (fun X hx => by have cl := HRX.out X hx; go_simp; try with_reducible rfl) ?_
                        try simp only [Act.put, List.setIfInBounds_toArray, List.set_cons_zero, List.set_cons_succ]
                        refine Ops.wq_take _ (by rfl) (fun X hx => by go_simp; try with_reducible rfl) ?_
                        try simp only [Act.put, List.setIfInBounds_toArray, List.set_cons_zero, List.set_cons_succ]
                        refine Ops.wq_take _ (by rfl) (fun X hx => by go_simp; try with_reducible rfl) ?_
                        try simp only [Act.put, List.setIfInBounds_toArray, List.set_cons_zero, List.set_cons_succ]
                        refine Ops.wq_take _ (by rfl) (fun X hx => by go_simp; try with_reducible rfl) ?_
                        try simp only [Act.put, List.setIfInBounds_toArray, List.set_cons_zero, List.set_cons_succ]
                        refine Ops.wq_end ?_
                        intro X2 hb2
                        have HB2 := Lib.hid (below_trans HBC.out hb2)
                        clear hb2
                        go_wp2_with fail
                        go_round
                        case rel => exact ⟨k2 + 1, by omega, by go_num, by go_num, HB2.out⟩
                        case measure => simp only [intOf]; omega
              · have d5 : decide ((k2 : Int) < (n1 : Int)) = false := decide_eq_false (by omega)
                have HW3 := Lib.hid (show L2 w g (1099511627776 : Int) (i + 1) S As cs (came + k2) wr from by
                  have hkn : k2 = n1 := by omega
                  rw [hkn]
                  obtain ⟨T, F, h, h1⟩ := HL2.out
                  exact ⟨T, F, h.below HBL.out, h1⟩)
                go_wp2_with fail
                go_round
                case rel => exact ⟨i + 1, came + k2, (1099511627776 : Int), by omega, by omega, by go_num, rfl, by go_num, by omega, fun h => by omega, fun h => by omega, fun h => by omega, HW3.out⟩
                case measure => simp only [intOf]; omega
        · obtain ⟨T, F, hO, hsub, hcnt, hgt⟩ := HW.out
          have hfin : came = n ∨ 100 ≤ M := by
            by_cases h1 : i = M + 1
            · left
              have hT : T = [] := by
                rcases hTc : T with _ | ⟨x, T'⟩
                · rfl
                · have hx : x ∈ T := by rw [hTc]; exact List.mem_cons_self
                  have h2 := hgt (by omega) x hx
                  have h3 := (hO.wb.1.good.ok x hx).2.2.2.2.2
                  have h4 := hnbm h1
                  omega
              rw [hT] at hcnt
              have := HN.out
              simp only [List.length_nil] at hcnt
              omega
            · right; omega
          have HCN := Lib.hid (fun X (hb : Below wr.heap.size wr X) => count_any (hO.wb.1.below hb))
          have HO := Lib.hid hO
          have hct : came + T.length = n := by rw [hcnt]; exact HN.out
          have HAW := Lib.hid (HAL.out wr)
          have hwr : IntKind.i64.wrap ((came : Int) + (T.length : Int)) = (came : Int) + (T.length : Int) := by rw [IntKind.wrap_i64]; omega
          have hsum : ((came : Int) + (T.length : Int) == (n : Int)) = true := by simp; omega
          have hlast : decide (100 ≤ (M : Int)) = true ∨ decide (100 ≤ (M : Int)) = false ∧ ((came : Int) == (n : Int)) = true := by
            rcases hfin with h | h
            · by_cases h2 : 100 ≤ M
              · exact .inl (decide_eq_true (by omega))
              · exact .inr ⟨decide_eq_false (by omega), by simp [h]⟩
            · exact .inl (decide_eq_true (by omega))
          clear hO hsub hcnt hgt hfin HW hct
          rcases Nat.lt_or_ge i (M + 1) with hi1 | hi1
          · have d3 : decide ((i : Int) ≤ (M : Int)) = true := decide_eq_true (by omega)
            have d4 : decide ((i : Int) < 100) = false := decide_eq_false (by omega)
            go_wp2_with fail
            refine HAW.out.mono ?_
            rintro e w7 ⟨rfl, hb7⟩
            have HB7 := Lib.hid hb7
            have HC7 := Lib.hid (HCN.out w7 hb7)
            clear hb7 HAW HCN
            go_wp2_with fail
            refine HC7.out.mono ?_
            rintro e w8 ⟨rfl, rfl⟩
            rcases hlast with hl | ⟨hl, hl2⟩
            · go_wp2_with fail
              go_ret
              exact ⟨rfl, below_trans HO.out.bel HB7.out⟩
            · go_wp2_with fail
              go_ret
              exact ⟨rfl, below_trans HO.out.bel HB7.out⟩
          · have d3 : decide ((i : Int) ≤ (M : Int)) = false := decide_eq_false (by omega)
            go_wp2_with fail
            refine HAW.out.mono ?_
            rintro e w7 ⟨rfl, hb7⟩
            have HB7 := Lib.hid hb7
            have HC7 := Lib.hid (HCN.out w7 hb7)
            clear hb7 HAW HCN
            go_wp2_with fail
            refine HC7.out.mono ?_
            rintro e w8 ⟨rfl, rfl⟩
            rcases hlast with hl | ⟨hl, hl2⟩
            · go_wp2_with fail
              go_ret
              exact ⟨rfl, below_trans HO.out.bel HB7.out⟩
            · go_wp2_with fail
              go_ret
              exact ⟨rfl, below_trans HO.out.bel HB7.out⟩
theorem walk (A : Option Addr) (N c : Nat) (A2 : Option Addr) (M c2 : Nat) (w : World) (h : Shp.Good w (.list (.obj shOp)) [.slice A N c]) (h2 : Shp.Good w (.list (.int .u32)) [.slice A2 M c2]) :
    Calls Try.prog 5 #[.slice A N c, .slice A2 M c2] w fun e w' => e = .returned (.bool true) ∧ Below w.heap.size w w' := by
  obtain ⟨hN, Q, hQ⟩ := open_ops h
  obtain ⟨hM, U, hU⟩ := open_us h2
  exact walk0 A N c Q A2 M c2 U w hQ hU hN hM
end WheelOnce
end Go.Proofs.Ytgbahkkccpcadaa
