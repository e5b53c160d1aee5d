/- The walk of WheelLives. -/
import Derived.Test.YtgbahkkccpcadaaRwBoth
import Derived.Test.YtgbahkkccpcadaaWheelSteps
namespace Go.Proofs.Ytgbahkkccpcadaa
namespace WheelLives
open Go.ChangeShapes Go.WideShapes Go.ChangeAt Go.RowKit Go.Maps
open Num Mem Words Chacha Aead Poly Quiet RowV RowS Ops EqLits Stamp Wh

theorem builtX (now : Int) : Try.prog.built 31 [(0, .int .i64 now)] = some #[.int .i64 now, .slice none 0 0] := by kernel_rfl
theorem start {w w1 : World} {g x : Nat} {now : Int} (hb : Below w.heap.size w w1) (ha : WW w1 (fun i => w.heap.size ≤ i) g now []) (hx : w1.heap.size = x) : LE w.heap.size w g x (w1.alloc (.cells #[.int .i64 now, .slice none 0 0] 31)) := by
  obtain ⟨F, ⟨hF, hFb⟩, _⟩ := WB.new ha (Nat.le_refl _)
  have hb2 := below_alloc (Below.refl w1.heap.size w1) (.cells #[.int .i64 now, .slice none 0 0] 31)
  have hs : (w1.alloc (.cells #[.int .i64 now, .slice none 0 0] 31)).heap.size = w1.heap.size + 1 := by simp
  refine ⟨now, [], F, fun i => i = x, ⟨hF.below hb2, fun i hi => ⟨(hFb i hi).1, by have := (hFb i hi).2; omega⟩⟩, ⟨none, 0, whole_new _ _ hx, ⟨rfl, .inl ⟨rfl, rfl⟩⟩, rfl, fun j e => (by cases e), fun e => (by cases e)⟩, fun i e => ?_, fun i hf e => ?_, hb.trans (hb2.mono hb.size), Nat.le_refl _⟩
  · subst e
    have := hb.size
    exact ⟨by omega, by omega⟩
  · have := (hFb i hf).2
    omega
set_option maxRecDepth 100000 in
set_option maxHeartbeats 4000000 in
theorem walk0 (now : Int) (A : Option Addr) (N c : Nat) (Q : Nat → OpV) (o k : Int) (w : World) (hq : IsOps w A N Q) (hN : N ≤ 9223372036854775807) (hio : okI o) (hik : okI k) :
    Calls Try.prog 3 #[.int .i64 now, .slice A N c, .int .i64 o, .int .i64 k] w fun e w' => e = .returned (.bool true) ∧ Below w.heap.size w w' := by
  have HAL := Lib.hid alive_ok
  have HQ := Lib.hid hq
  have HIO := Lib.hid hio
  have HIK := Lib.hid hik
  clear hq hio hik
  by_cases hr : right now
  · have HNW := Lib.hid (new_any now hr w)
    go_enter Try.func3, Try.ntmps3
    go_wp2_with fail
    refine HNW.out.mono ?_
    rintro e w1 ⟨g, rfl, hb1, ha⟩
    obtain ⟨x, hx⟩ : ∃ x, w1.heap.size = x := ⟨_, rfl⟩
    have HLE := Lib.hid (start hb1 ha hx)
    clear hb1 ha HNW
    go_wp2_with fail
    go_loopw [12] (fun i X => ∃ j : Nat, j ≤ N ∧ i = .int .i64 j ∧ LE w.heap.size w g x X) (fun i _ => N - (intOf i).toNat)
    case atStart => exact ⟨0, Nat.zero_le _, rfl, HLE.out⟩
    case round =>
      obtain ⟨j, hj, rfl, hL⟩ := hrel
      have HL := Lib.hid hL
      clear hL HLE
      by_cases hlt : j < N
      · by_cases h2 : j < 200
        · have d2 : decide ((j : Int) < 200) = true := decide_eq_true (by omega)
          have HOK := HQ.out.ok j hlt
          have HBW := (show Below w.heap.size w wr from by obtain ⟨n, T, F, G, h⟩ := HL.out; exact h.bel)
          obtain ⟨b, off, rfl, hrg⟩ := HQ.out.range HBW hlt
          generalize Q j = q at HOK hrg
          have HRG := Lib.hid hrg
          have hone := one_any q HOK HL.out
          obtain ⟨V, hV⟩ : ∃ V, (opL q).toArray = V := ⟨_, rfl⟩
          rw [hV] at hone
          have HONE := Lib.hid hone
          have HV := Lib.hid hV
          clear hrg hone hV HOK HBW HL
          go_wp2_with (refine Ops.wpList_load_mid_if (by rfl) 34 (.tmp 60) rfl b (off + j * 4) rfl (opL q) _ HRG.out rfl rfl (by kernel_rfl) ?_; rw [HV.out])
          refine HONE.out.mono ?_
          rintro e X1 ⟨rfl, n, T, F, G, hl⟩
          have hgood := hl.wb.1.good
          have hG1 := get_any hl.wb.1 o k HIO.out HIK.out
          have hG2 := rget_any hl.re (Nat.le_trans hgood.room (by omega)) o k
          generalize getV (findT o k T) = z at hG1 hG2
          generalize (findT o k T).isSome = s at hG1 hG2
          have HG1 := Lib.hid hG1
          have HG2 := Lib.hid hG2
          have hnx := next_any hl.wb.1
          obtain ⟨s2, hs2⟩ : ∃ s2, T.head?.isSome = s2 := ⟨_, rfl⟩
          obtain ⟨V2, hV2⟩ : ∃ V2, (frL T.head?).toArray = V2 := ⟨_, rfl⟩
          obtain ⟨m, hm⟩ : ∃ m, T.length = m := ⟨_, rfl⟩
          have d3 : decide (0 < m) = s2 := by
            rw [← hs2, ← hm]
            cases T with
            | nil => rfl
            | cons y R => exact decide_eq_true (by rw [List.length_cons]; omega)
          have HVS := Lib.hid (show V2.size = 3 from by rw [← hV2, List.size_toArray]; exact frL_length _)
          have HVO := Lib.hid (show V2.all (·.oneCell') = true from by rw [← hV2]; exact frL_one _)
          rw [hV2, hs2] at hnx
          have HNX := Lib.hid hnx
          have HL1 := Lib.hid hl
          have HS2 := Lib.hid hs2
          have HV2 := Lib.hid hV2
          have HM := Lib.hid hm
          clear hG1 hG2 hl hgood HONE HRG HV hnx hs2 hV2 hm
          go_wp2_with fail
          refine HG1.out.mono ?_
          rintro e X2 ⟨rfl, rfl⟩
          go_wp2_with fail
          refine HG2.out.mono ?_
          rintro e X2 ⟨rfl, rfl⟩
          go_wp2_with fail
          refine HNX.out.mono ?_
          rintro e X3 ⟨rfl, hb3⟩
          have HL3 := Lib.hid (HL1.out.below hb3)
          clear hb3 HL1 HG1 HG2 HNX
          go_upto_region 13 with (refine wpList_store_row rfl 38 (.tmp 17) (.tmp 81) rfl X3.heap.size V2 rfl rfl 38 _ (Whole.new _ _ _) (by rw [HVS.out]; kernel_rfl) (by rw [HVS.out]; rfl) HVO.out ?_)
          obtain ⟨t9, ht9⟩ : ∃ t9, X3.heap.size = t9 := ⟨_, rfl⟩
          rw [ht9]
          refine cut_world (fun X => LW w.heap.size w g x n T n T F G X ∧ Whole X t9 38 V2) (by
            have hb := below_var X3 #[.int .i64 0, .int .i64 0, .int .i64 0] V2 38
            rw [ht9] at hb
            exact ⟨HL3.out.below (ht9 ▸ hb), setRow_heap _ _ _ V2 _ _ (whole_new (w := X3) 38 #[.int .i64 0, .int .i64 0, .int .i64 0] ht9)⟩) ?_
          rintro X ⟨hl, ht⟩
          have HL4 := Lib.hid hl
          have HT := Lib.hid ht
          have HCN := Lib.hid (show ∀ V, Below X.heap.size X V → Calls Try.prog 13 #[.pointer (some ⟨g, 0, none⟩)] V fun e w' => e = .returned (.int .i64 m) ∧ Below X.heap.size X w' from fun V hV => by
            refine (count_any (hl.below hV).wb.1).mono ?_
            rintro e w' ⟨rfl, rfl⟩
            exact ⟨by rw [HM.out], hV⟩)
          have HNO := Lib.hid (show ∀ V, Below X.heap.size X V → Calls Try.prog 14 #[.pointer (some ⟨g, 0, none⟩)] V fun e w' => e = .returned (.int .i64 n) ∧ Below X.heap.size X w' from fun V hV => by
            refine (now_any (hl.below hV).wb.1).mono ?_
            rintro e w' ⟨rfl, rfl⟩
            exact ⟨rfl, hV⟩)
          obtain ⟨Ax, cx, hX⟩ := hl.re
          have HX0 := Lib.hid (show ∀ V, Below X.heap.size X V → V.cell? ⟨x, 0, none⟩ = some (.int .i64 n) from fun V hV => (hX.obj.below hV hX.obj.lt).cell 0)
          have HX1 := Lib.hid (show ∀ V, Below X.heap.size X V → V.cell? ⟨x, 1, none⟩ = some (.slice Ax m cx) from fun V hV => by rw [← HM.out]; exact (hX.obj.below hV hX.obj.lt).cell 1)
          have HRD := Lib.hid (RdT.own hX.row)
          clear hl ht hX HL3 HVS HVO ht9
          refine q_start (by kernel_rfl) (by kernel_rfl) ?_
          refine Ops.wq_in ?_
          refine Ops.wq_take _ (by rfl) (fun X hx => by go_simp; try with_reducible rfl) ?_
          try simp only [Act.put, List.setIfInBounds_toArray, List.set_cons_zero, List.set_cons_succ]
          refine Ops.wq_take _ (by rfl) (fun X hx => by go_simp; try with_reducible rfl) ?_
          try simp only [Act.put, List.setIfInBounds_toArray, List.set_cons_zero, List.set_cons_succ]
          refine Ops.wq_take _ (by rfl) (fun X hx => by go_simp; try with_reducible rfl) ?_
          try simp only [Act.put, List.setIfInBounds_toArray, List.set_cons_zero, List.set_cons_succ]
          refine Ops.wq_take _ (by rfl) (fun X hx => by go_simp; try with_reducible rfl) ?_
          try simp only [Act.put, List.setIfInBounds_toArray, List.set_cons_zero, List.set_cons_succ]
          refine Ops.wq_take _ (by rfl) (fun X hx => by go_simp; try with_reducible rfl) ?_
          try simp only [Act.put, List.setIfInBounds_toArray, List.set_cons_zero, List.set_cons_succ]
          refine Ops.wq_take _ (by rfl) (fun X hx => by go_simp; try with_reducible rfl) ?_
          try simp only [Act.put, List.setIfInBounds_toArray, List.set_cons_zero, List.set_cons_succ]
          refine Ops.wq_take _ (by rfl) (fun X hx => by go_simp; try with_reducible rfl) ?_
          try simp only [Act.put, List.setIfInBounds_toArray, List.set_cons_zero, List.set_cons_succ]
          refine Ops.wq_take _ (by rfl) (fun X hx => by go_simp; try with_reducible rfl) ?_
          try simp only [Act.put, List.setIfInBounds_toArray, List.set_cons_zero, List.set_cons_succ]
          refine Ops.wq_take _ (by rfl) (fun X hx => by go_simp; try with_reducible rfl) ?_
          try simp only [Act.put, List.setIfInBounds_toArray, List.set_cons_zero, List.set_cons_succ]
          refine Ops.wq_take _ (by rfl) (fun X hx => by go_simp; try with_reducible rfl) ?_
          try simp only [Act.put, List.setIfInBounds_toArray, List.set_cons_zero, List.set_cons_succ]
          refine Ops.wq_call (.int .i64 m) 13 #[.pointer (some ⟨g, 0, none⟩)] (by rfl) (by intro w; go_simp; try with_reducible rfl) HCN.out ?_
          try simp only [Act.put, List.setIfInBounds_toArray, List.set_cons_zero, List.set_cons_succ]
          refine Ops.wq_take _ (by rfl) (fun X hx => by go_simp; try with_reducible rfl) ?_
          try simp only [Act.put, List.setIfInBounds_toArray, List.set_cons_zero, List.set_cons_succ]
          refine Ops.wq_take _ (by rfl) (fun X hx => by go_simp; try with_reducible rfl) ?_
          try simp only [Act.put, List.setIfInBounds_toArray, List.set_cons_zero, List.set_cons_succ]
          refine Ops.wq_take _ (by rfl) (fun X hx => by go_simp; try with_reducible rfl) ?_
          try simp only [Act.put, List.setIfInBounds_toArray, List.set_cons_zero, List.set_cons_succ]
          refine Ops.wq_take _ (by rfl) (fun X hx => by have cl := HX1.out X hx; go_simp; try with_reducible rfl) ?_
          try simp only [Act.put, List.setIfInBounds_toArray, List.set_cons_zero, List.set_cons_succ]
          refine Ops.wq_take _ (by rfl) (fun X hx => by go_simp; try with_reducible rfl) ?_
          try simp only [Act.put, List.setIfInBounds_toArray, List.set_cons_zero, List.set_cons_succ]
          refine Ops.wq_take _ (by rfl) (fun X hx => by go_simp; try with_reducible rfl) ?_
          try simp only [Act.put, List.setIfInBounds_toArray, List.set_cons_zero, List.set_cons_succ]
          refine Ops.wq_take _ (by rfl) (fun X hx => by go_simp; try with_reducible rfl) ?_
          try simp only [Act.put, List.setIfInBounds_toArray, List.set_cons_zero, List.set_cons_succ]
          refine Ops.wq_take _ (by rfl) (fun X hx => by go_simp; try with_reducible rfl) ?_
          try simp only [Act.put, List.setIfInBounds_toArray, List.set_cons_zero, List.set_cons_succ]
          refine Ops.wq_take _ (by rfl) (fun X hx => by go_simp; try with_reducible rfl) ?_
          try simp only [Act.put, List.setIfInBounds_toArray, List.set_cons_zero, List.set_cons_succ]
          refine Ops.wq_call (.int .i64 n) 14 #[.pointer (some ⟨g, 0, none⟩)] (by rfl) (by intro w; go_simp; try with_reducible rfl) HNO.out ?_
          try simp only [Act.put, List.setIfInBounds_toArray, List.set_cons_zero, List.set_cons_succ]
          refine Ops.wq_take _ (by rfl) (fun X hx => by go_simp; try with_reducible rfl) ?_
          try simp only [Act.put, List.setIfInBounds_toArray, List.set_cons_zero, List.set_cons_succ]
          refine Ops.wq_take _ (by rfl) (fun X hx => by go_simp; try with_reducible rfl) ?_
          try simp only [Act.put, List.setIfInBounds_toArray, List.set_cons_zero, List.set_cons_succ]
          refine Ops.wq_take _ (by rfl) (fun X hx => by go_simp; try with_reducible rfl) ?_
          try simp only [Act.put, List.setIfInBounds_toArray, List.set_cons_zero, List.set_cons_succ]
          refine Ops.wq_take _ (by rfl) (fun X hx => by have cl := HX0.out X hx; go_simp; try with_reducible rfl) ?_
          try simp only [Act.put, List.setIfInBounds_toArray, List.set_cons_zero, List.set_cons_succ]
          refine Ops.wq_take _ (by rfl) (fun X hx => by go_simp; try with_reducible rfl) ?_
          try simp only [Act.put, List.setIfInBounds_toArray, List.set_cons_zero, List.set_cons_succ]
          refine Ops.wq_take _ (by rfl) (fun X hx => by go_simp; try with_reducible rfl) ?_
          try simp only [Act.put, List.setIfInBounds_toArray, List.set_cons_zero, List.set_cons_succ]
          refine Ops.wq_take _ (by rfl) (fun X hx => by go_simp; try with_reducible rfl) ?_
          try simp only [Act.put, List.setIfInBounds_toArray, List.set_cons_zero, List.set_cons_succ]
          refine Ops.wq_take _ (by rfl) (fun X hx => by go_simp; try with_reducible rfl) ?_
          try simp only [Act.put, List.setIfInBounds_toArray, List.set_cons_zero, List.set_cons_succ]
          refine Ops.wq_take _ (by rfl) (fun X hx => by go_simp; try with_reducible rfl) ?_
          try simp only [Act.put, List.setIfInBounds_toArray, List.set_cons_zero, List.set_cons_succ]
          refine Ops.wq_take _ (by rfl) (fun X hx => by go_simp; try with_reducible rfl) ?_
          try simp only [Act.put, List.setIfInBounds_toArray, List.set_cons_zero, List.set_cons_succ]
          refine Ops.wq_take _ (by rfl) (fun X hx => by go_simp; try with_reducible rfl) ?_
          try simp only [Act.put, List.setIfInBounds_toArray, List.set_cons_zero, List.set_cons_succ]
          refine Ops.wq_take _ (by rfl) (fun X hx => by have cl := HX1.out X hx; go_simp; try with_reducible rfl) ?_
          try simp only [Act.put, List.setIfInBounds_toArray, List.set_cons_zero, List.set_cons_succ]
          refine Ops.wq_take _ (by rfl) (fun X hx => by go_simp; try with_reducible rfl) ?_
          try simp only [Act.put, List.setIfInBounds_toArray, List.set_cons_zero, List.set_cons_succ]
          refine Ops.wq_take _ (by rfl) (fun X hx => by go_simp; try with_reducible rfl) ?_
          try simp only [Act.put, List.setIfInBounds_toArray, List.set_cons_zero, List.set_cons_succ]
          refine Ops.wq_take _ (by rfl) (fun X hx => by go_simp; try with_reducible rfl) ?_
          try simp only [Act.put, List.setIfInBounds_toArray, List.set_cons_zero, List.set_cons_succ]
          refine Ops.wq_take _ (by rfl) (fun X hx => by go_simp; try with_reducible rfl) ?_
          try simp only [Act.put, List.setIfInBounds_toArray, List.set_cons_zero, List.set_cons_succ]
          refine Ops.wq_end ?_
          intro X5 hb5
          have HB5 := Lib.hid hb5
          clear hb5 HCN HNO HX0
          cases s2 with
          | false =>
            have HL5 := Lib.hid (HL4.out.below HB5.out)
            clear HL4 HB5 HX1 HRD HT HV2
            go_upto_region 15 with fail
            refine q_start (by kernel_rfl) (by kernel_rfl) ?_
            refine Ops.wq_in ?_
            refine Ops.wq_take _ (by rfl) (fun X hx => by go_simp; try with_reducible rfl) ?_
            try simp only [Act.put, List.setIfInBounds_toArray, List.set_cons_zero, List.set_cons_succ]
            refine Ops.wq_take _ (by rfl) (fun X hx => by go_simp; try with_reducible rfl) ?_
            try simp only [Act.put, List.setIfInBounds_toArray, List.set_cons_zero, List.set_cons_succ]
            refine Ops.wq_pass (by rfl) ?_
            try simp only [Act.put, List.setIfInBounds_toArray, List.set_cons_zero, List.set_cons_succ]
            refine Ops.wq_pass (by rfl) ?_
            try simp only [Act.put, List.setIfInBounds_toArray, List.set_cons_zero, List.set_cons_succ]
            refine Ops.wq_pass (by rfl) ?_
            try simp only [Act.put, List.setIfInBounds_toArray, List.set_cons_zero, List.set_cons_succ]
            refine Ops.wq_pass (by rfl) ?_
            try simp only [Act.put, List.setIfInBounds_toArray, List.set_cons_zero, List.set_cons_succ]
            refine Ops.wq_pass (by rfl) ?_
            try simp only [Act.put, List.setIfInBounds_toArray, List.set_cons_zero, List.set_cons_succ]
            refine Ops.wq_pass (by rfl) ?_
            try simp only [Act.put, List.setIfInBounds_toArray, List.set_cons_zero, List.set_cons_succ]
            refine Ops.wq_pass (by rfl) ?_
            try simp only [Act.put, List.setIfInBounds_toArray, List.set_cons_zero, List.set_cons_succ]
            refine Ops.wq_pass (by rfl) ?_
            try simp only [Act.put, List.setIfInBounds_toArray, List.set_cons_zero, List.set_cons_succ]
            refine Ops.wq_pass (by rfl) ?_
            try simp only [Act.put, List.setIfInBounds_toArray, List.set_cons_zero, List.set_cons_succ]
            refine Ops.wq_pass (by rfl) ?_
            try simp only [Act.put, List.setIfInBounds_toArray, List.set_cons_zero, List.set_cons_succ]
            refine Ops.wq_pass (by rfl) ?_
            try simp only [Act.put, List.setIfInBounds_toArray, List.set_cons_zero, List.set_cons_succ]
            refine Ops.wq_pass (by rfl) ?_
            try simp only [Act.put, List.setIfInBounds_toArray, List.set_cons_zero, List.set_cons_succ]
            refine Ops.wq_take _ (by rfl) (fun X hx => by go_simp; try with_reducible rfl) ?_
            try simp only [Act.put, List.setIfInBounds_toArray, List.set_cons_zero, List.set_cons_succ]
            refine Ops.wq_end ?_
            intro X6 hb6
            have HL6 := Lib.hid (show LE w.heap.size w g x X6 from ⟨_, _, _, _, HL5.out.below hb6⟩)
            clear hb6 HL5
            go_wp2_with fail
            go_round
            case rel => exact ⟨j + 1, by omega, by go_num, HL6.out⟩
            case measure => simp only [intOf]; omega
          | true =>
            obtain ⟨y, R, rfl⟩ : ∃ y R, T = y :: R := by
              cases T with
              | nil => have := HS2.out; cases this
              | cons y R => exact ⟨y, R, rfl⟩
            obtain rfl : V2 = #[.int .i64 y.o, .int .i64 y.k, .int .i64 y.t] := HV2.out.symm
            obtain ⟨gx, rfl, hgl, hrg⟩ := HRD.out 0 y rfl
            have HRG := Lib.hid hrg
            have HGL := Lib.hid hgl
            have HL5 := Lib.hid (HL4.out.below HB5.out)
            have HT5 := Lib.hid (HT.out.below HB5.out HT.out.lt)
            have HRG5 := Lib.hid (range_below hrg HB5.out hgl)
            have HGL5 := Lib.hid (Nat.lt_of_lt_of_le hgl HB5.out.size)
            have HX5 := Lib.hid (show ∀ V, Below X5.heap.size X5 V → V.cell? ⟨x, 1, none⟩ = some (.slice (some ⟨gx, 0, none⟩) m cx) from fun V hV => HX1.out V (below_trans HB5.out hV))
            have hm1 : 0 < m := of_decide_eq_true d3
            have HEQ := Lib.hid (fun w => eqin_rtm 9997 y y w)
            clear hgl hrg HL4 HT HB5 HX1 HRG HGL HRD HS2 HV2
            go_upto_region 15 with fail
            refine region_drew (fun V => Below X5.heap.size X5 V) (by kernel_rfl) (Below.drew (Below.refl _ _)) (fun hS => ?_)
            refine take 0 _ rfl (by kernel_rfl) (by kernel_rfl) (by kernel_rfl) (fun _ _ _ h => h) (by rfl) hS (by intro w _; go_simp; with_reducible rfl) ?_
            try simp only [Act.put, List.setIfInBounds_toArray, List.set_cons_zero, List.set_cons_succ]
            refine take 1 _ rfl (by kernel_rfl) (by kernel_rfl) (by kernel_rfl) (fun _ _ _ h => h) (by rfl) hS (by intro w _; go_simp; with_reducible rfl) ?_
            try simp only [Act.put, List.setIfInBounds_toArray, List.set_cons_zero, List.set_cons_succ]
            refine take 2 _ rfl (by kernel_rfl) (by kernel_rfl) (by kernel_rfl) (fun _ _ _ h => h) (by rfl) hS (fun w hw => run_load_op 38 (.tmp 17) rfl (t9) rfl (HT5.out.below hw HT5.out.lt) rfl rfl (by kernel_rfl)) ?_
            try simp only [Act.put, List.setIfInBounds_toArray, List.set_cons_zero, List.set_cons_succ]
            refine take 7 _ rfl (by kernel_rfl) (by kernel_rfl) (by kernel_rfl) (fun _ _ _ h => h) (by rfl) hS (by intro w _; go_simp; with_reducible rfl) ?_
            try simp only [Act.put, List.setIfInBounds_toArray, List.set_cons_zero, List.set_cons_succ]
            refine take 8 _ rfl (by kernel_rfl) (by kernel_rfl) (by kernel_rfl) (fun _ _ _ h => h) (by rfl) hS (by intro w _; go_simp; with_reducible rfl) ?_
            try simp only [Act.put, List.setIfInBounds_toArray, List.set_cons_zero, List.set_cons_succ]
            refine take 9 _ rfl (by kernel_rfl) (by kernel_rfl) (by kernel_rfl) (fun _ _ _ h => h) (by rfl) hS (by intro w _; go_simp; with_reducible rfl) ?_
            try simp only [Act.put, List.setIfInBounds_toArray, List.set_cons_zero, List.set_cons_succ]
            refine take 10 _ rfl (by kernel_rfl) (by kernel_rfl) (by kernel_rfl) (fun _ _ _ h => h) (by rfl) hS (by intro w hw; have hcl := HX5.out w hw; go_simp; with_reducible rfl) ?_
            try simp only [Act.put, List.setIfInBounds_toArray, List.set_cons_zero, List.set_cons_succ]
            refine take 11 _ rfl (by kernel_rfl) (by kernel_rfl) (by kernel_rfl) (fun _ _ _ h => h) (by rfl) hS (by intro w _; go_simp; with_reducible rfl) ?_
            try simp only [Act.put, List.setIfInBounds_toArray, List.set_cons_zero, List.set_cons_succ]
            refine take 12 (.agg #[.int .i64 y.o, .int .i64 y.k, .int .i64 y.t]) rfl (by kernel_rfl) (by kernel_rfl) (by kernel_rfl) (fun _ _ _ h => h) (by rfl) hS (fun w hw => run_mid_in 43 (.tmp 131) rfl gx 0 (by go_simp) (tmL y) _ (range_below HRG5.out hw HGL5.out) rfl rfl (by kernel_rfl)) ?_
            try simp only [Act.put, List.setIfInBounds_toArray, List.set_cons_zero, List.set_cons_succ]
            refine alone 3 rfl (by kernel_rfl) (by rfl) ?_
            intro K hK
            go_simp
            obtain ⟨Y, hY⟩ : ∃ Y, (X5.alloc (.cells #[.int .i64 y.o, .int .i64 y.k, .int .i64 y.t] 38)).drew = Y := ⟨_, rfl⟩
            have hbY : Below X5.heap.size X5 Y := hY ▸ Below.drew (below_alloc (Below.refl X5.heap.size X5) _)
            have hwY : Whole Y X5.heap.size 38 (tmL y).toArray := hY ▸ Whole.drew (whole_new _ _ rfl)
            have HAS := Lib.hid (as_any (w := Y) (A := some ⟨X5.heap.size, 0, none⟩) (L := [y]) 1 (fun k' x' hx' => by
              cases k' with
              | succ k' => cases hx'
              | zero =>
                obtain rfl : y = x' := Option.some.inj hx'
                exact ⟨_, rfl, hwY.lt, fun j' v hj' => by rw [Nat.zero_mul, Nat.zero_add, hwY.cell, List.getElem?_toArray]; exact hj'⟩) (by simp))
            rw [hY]
            have HBY := Lib.hid hbY
            refine hK.out _ _ HBY.out ?_
            clear hK K hS hY hbY hwY
            have hS := HBY.out
            try simp only [Act.put, List.setIfInBounds_toArray, List.set_cons_zero, List.set_cons_succ]
            refine alone 4 rfl (by kernel_rfl) (by rfl) ?_
            intro K hK
            go_simp
            refine HAS.out.mono ?_
            rintro e Y2 ⟨A', c', rfl, hro, hb⟩
            have HS2 := Lib.hid (HBY.out.trans (hb.mono HBY.out.size))
            obtain ⟨ga, rfl, _, hrga⟩ := RdT.own hro 0 y rfl
            have HGA := Lib.hid hrga
            clear hro hrga hb HAS
            go_simp
            refine hK.out _ _ HS2.out ?_
            clear hK K hS HBY
            have hS := HS2.out
            try simp only [Act.put, List.setIfInBounds_toArray, List.set_cons_zero, List.set_cons_succ]
            refine take 5 _ rfl (by kernel_rfl) (by kernel_rfl) (by kernel_rfl) (fun _ _ _ h => h) (by rfl) hS (by intro w _; go_simp; with_reducible rfl) ?_
            try simp only [Act.put, List.setIfInBounds_toArray, List.set_cons_zero, List.set_cons_succ]
            refine alone_run 6 (.agg #[.int .i64 y.o, .int .i64 y.k, .int .i64 y.t]) rfl (by kernel_rfl) (by rfl) hS (run_mid_in 43 (.tmp 125) rfl ga 0 (by go_simp) (tmL y) _ HGA.out rfl rfl (by kernel_rfl)) ?_
            try simp only [Act.put, List.setIfInBounds_toArray, List.set_cons_zero, List.set_cons_succ]
            refine take 13 (.bool false) rfl (by kernel_rfl) (by kernel_rfl) (by kernel_rfl) (fun _ _ _ h => h) (by rfl) hS (fun w hw => Ops.run_neq_op 43 (.tmp 126) (.tmp 132) 43 rfl _ _ rfl rfl (decide (y = y)) false (by simp) (by kernel_rfl) (fun w => HEQ.out w) w) ?_
            try simp only [Act.put, List.setIfInBounds_toArray, List.set_cons_zero, List.set_cons_succ]
            refine take 14 _ rfl (by kernel_rfl) (by kernel_rfl) (by kernel_rfl) (fun _ _ _ h => h) (by rfl) hS (by intro w _; go_simp; with_reducible rfl) ?_
            try simp only [Act.put, List.setIfInBounds_toArray, List.set_cons_zero, List.set_cons_succ]
            refine region_end (by kernel_rfl) ?_
            have HL6 := Lib.hid (show LE w.heap.size w g x Y2 from ⟨_, _, _, _, HL5.out.below HS2.out⟩)
            clear HL5 HS2 HGA HX5
            go_wp2_with fail
            go_round
            case rel => exact ⟨j + 1, by omega, by go_num, HL6.out⟩
            case measure => simp only [intOf]; omega
        · have d2 : decide ((j : Int) < 200) = false := decide_eq_false (by omega)
          have HA := Lib.hid (HAL.out wr)
          have HB := Lib.hid (show Below w.heap.size w wr from by obtain ⟨n, T, F, G, h⟩ := HL.out; exact h.bel)
          clear HL
          go_wp2_with fail
          refine HA.out.mono ?_
          rintro e w2 ⟨rfl, hb2⟩
          have HB2 := Lib.hid (below_trans HB.out hb2)
          clear hb2
          go_wp2_with fail
          go_ret
          exact ⟨rfl, HB2.out⟩
      · have d2 : decide ((j : Int) < (N : Int)) = false := decide_eq_false (by omega)
        have HA := Lib.hid (HAL.out wr)
        have HB := Lib.hid (show Below w.heap.size w wr from by obtain ⟨n, T, F, G, h⟩ := HL.out; exact h.bel)
        clear HL
        go_wp2_with fail
        refine HA.out.mono ?_
        rintro e w2 ⟨rfl, hb2⟩
        have HB2 := Lib.hid (below_trans HB.out hb2)
        clear hb2
        go_wp2_with fail
        go_ret
        exact ⟨rfl, HB2.out⟩
  · have HNW := Lib.hid (new_bad now hr w)
    have hd : decide (now < 0) = true ∨ decide (now < 0) = false ∧ decide (1099511627776 < now) = true := by
      by_cases h : now < 0
      · exact .inl (decide_eq_true h)
      · exact .inr ⟨decide_eq_false h, decide_eq_true (by
          rcases Int.lt_or_le 1099511627776 now with c | c
          · exact c
          · exact absurd ⟨by omega, c⟩ hr)⟩
    have HD := Lib.hid hd
    clear hr hd
    go_enter Try.func3, Try.ntmps3
    go_wp2_with fail
    refine HNW.out.mono ?_
    rintro e w1 ⟨rfl, rfl⟩
    go_wp2_with fail
    refine (HAL.out w).mono ?_
    rintro e w2 ⟨rfl, hb2⟩
    rcases HD.out with d1 | ⟨d1, d2⟩
    · go_wp2_with fail
      go_ret
      exact ⟨rfl, hb2⟩
    · go_wp2_with fail
      go_ret
      exact ⟨rfl, hb2⟩
theorem walk (now : Int) (A : Option Addr) (N c : Nat) (o k : Int) (w : World) (_ : (Lit.int .i64 now).wf = true) (h : Shp.Good w (.list (.obj shOp)) [.slice A N c]) (ho : (Lit.int .i64 o).wf = true) (hk : (Lit.int .i64 k).wf = true) :
    Calls Try.prog 3 #[.int .i64 now, .slice A N c, .int .i64 o, .int .i64 k] w fun e w' => e = .returned (.bool true) ∧ Below w.heap.size w w' := by
  obtain ⟨hN, Q, hQ⟩ := open_ops h
  exact walk0 now A N c Q o k w hQ hN ho hk
end WheelLives
end Go.Proofs.Ytgbahkkccpcadaa
