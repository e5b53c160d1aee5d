/- Package wheel: Next. -/
import Derived.Test.YtgbahkkccpcadaaWhSet2
import Derived.WalkMore
import Derived.Test.YtgbahkkccpcadaaOps
namespace Go.Proofs.Ytgbahkkccpcadaa
namespace Wh
open Go.ChangeShapes Go.WideShapes Go.ChangeAt Go.RowKit Go.Maps
open Num Mem Words Chacha Aead Poly Quiet RowV RowS Ops EqLits Stamp

/-- a timer, or none, as cells -/
def frL : Option Tm → List Value
  | none => zeroT
  | some x => tmL x
theorem frL_one (f : Option Tm) : (frL f).toArray.all (·.oneCell') = true := by
  cases f with
  | none => simp [frL, zeroT, Value.oneCell']
  | some x => exact tm_one x
theorem frL_length (f : Option Tm) : (frL f).length = 3 := by cases f <;> rfl
/-- the search on its way -/
structure NxW (w : World) (t2 t4 : Nat) (f : Option Tm) (X : World) : Prop where
  res : Whole X t2 38 zeroT.toArray
  fst : Whole X t4 38 (frL f).toArray
  bel : Below w.heap.size w X
theorem NxW.below {w : World} {t2 t4 : Nat} {f : Option Tm} {X Y : World} (h : NxW w t2 t4 f X) (hb : Below X.heap.size X Y) : NxW w t2 t4 f Y := ⟨h.res.below hb h.res.lt, h.fst.below hb h.fst.lt, below_trans h.bel hb⟩
theorem NxW.put {w : World} {t2 t4 : Nat} {f : Option Tm} {X : World} (h : NxW w t2 t4 f X) (hne : t2 < t4) (ht : w.heap.size = t2) {x : Tm} {V : Array Value} (hV : V = (frL (some x)).toArray) : NxW w t2 t4 (some x) (X.setRow t4 V) :=
  ⟨Whole.farRow h.res (by omega) _, hV ▸ setRow_heap _ _ _ _ _ _ h.fst, below_setRow h.bel (by omega) _⟩
set_option maxRecDepth 100000 in
set_option maxHeartbeats 4000000 in
theorem next_any {w : World} {F : Nat → Prop} {g : Nat} {now : Int} {T : List Tm} (h : WW w F g now T) :
    Calls Try.prog 12 #[.pointer (some ⟨g, 0, none⟩)] w fun e w' => e = .returned (.tuple #[.agg (frL T.head?).toArray, .bool T.head?.isSome]) ∧ Below w.heap.size w w' := by
  obtain ⟨b, s, D, cs, h1, h2⟩ := h
  have H1 := Lib.hid h1
  have HG := Lib.hid h1.good
  obtain ⟨st, hst⟩ : ∃ st, now / 256 = st := ⟨_, rfl⟩
  have hn0 := h1.good.nn
  have hn1 := h1.good.nm
  have hst0 : 0 ≤ st ∧ st ≤ 4294967296 := by omega
  have H0 := Lib.hid (show ∀ y ∈ T, st ≤ y.t / 256 from fun y hy => by have := (h1.good.ok y hy).2.2.2.2.1; omega)
  have c0 : w.cell? ⟨g, 0, none⟩ = some (.int .i64 now) := h1.obj.cell 0
  have hgl := h1.obj.lt
  have hsl := h1.slots.lt
  have c2 : w.cell? ⟨g, 2, none⟩ = some (.pointer (some ⟨s, 0, none⟩)) := h1.obj.cell 2
  clear h1 h2
  obtain ⟨hd, hhd⟩ : ∃ hd, T.head? = hd := ⟨_, rfl⟩
  rw [hhd]
  have HHD := Lib.hid hhd
  clear hhd
  obtain ⟨t2, ht2⟩ : ∃ t2, w.heap.size = t2 := ⟨_, rfl⟩
  have HT2 := Lib.hid ht2
  go_enter Try.func12, Try.ntmps12
  go_upto_region 1 with fail
  refine cut_world (fun X => Whole X t2 38 zeroT.toArray ∧ Below w.heap.size w X) ⟨whole_new _ _ ht2, below_alloc (Below.refl _ _) _⟩ ?_
  rintro X ⟨x1, x2⟩
  have X1 := Lib.hid x1
  have X2 := Lib.hid x2
  have HN := Lib.hid (none_some g s _ _ X (H1.out.obj.below x2 hgl))
  have c0X : X.cell? ⟨g, 0, none⟩ = some (.int .i64 now) := (x2.cell (p := ⟨g, 0, none⟩) hgl).trans c0
  clear x1 x2
  go_step3
  go_wp2_with fail
  refine HN.out.mono ?_
  rintro e w1 ⟨rfl, rfl⟩
  go_upto_region 4 with fail
  obtain ⟨t4, ht4⟩ : ∃ t4, X.heap.size = t4 := ⟨_, rfl⟩
  have HNE := Lib.hid (show t2 < t4 from by have := X1.out.lt; omega)
  refine cut_world (fun Y => NxW w t2 t4 none Y) ⟨X1.out.alloc _, whole_new _ _ ht4, below_trans X2.out (below_alloc (Below.refl _ _) _)⟩ ?_
  rw [ht4]
  intro Y hY
  have HY := Lib.hid hY
  have c0Y : Y.cell? ⟨g, 0, none⟩ = some (.int .i64 now) := (hY.bel.cell (p := ⟨g, 0, none⟩) hgl).trans c0
  clear hY HN X1 X2 c0X
  go_upto_region 6 with fail
  rw [hst]
  go_step3
  go_wp2_with fail
  go_loopw [5, 7] (fun sm tu Y => ∃ (n : Nat) (f : Option Tm), n ≤ 64 ∧ sm = .bool f.isSome ∧ tu = .int .i64 (st + n) ∧ Nx T st n f ∧ NxW w t2 t4 f Y) (fun _ tu _ => (st + 64 - intOf tu).toNat)
  case atStart => exact ⟨0, none, by omega, rfl, by simp, nx_start T st, HY.out⟩
  case round =>
    obtain ⟨n, f, hn, rfl, rfl, hnx, hW⟩ := hrel
    have HX := Lib.hid hnx
    have HW := Lib.hid hW
    clear hnx hW HY
    by_cases hlt : n < 64
    · have d1 : decide (st + (n : Int) < st + 64) = true := decide_eq_true (by omega)
      have hq0 : 0 ≤ (st + (n : Int)) % 64 ∧ (st + (n : Int)) % 64 < 64 := by omega
      obtain ⟨q, hq⟩ : ∃ q : Nat, (st + (n : Int)) % 64 = q := ⟨((st + (n : Int)) % 64).toNat, by omega⟩
      have hq64 : q < 64 := by omega
      obtain ⟨A, c, hcq, hrow⟩ := H1.out.row q hq64
      obtain ⟨S, hS⟩ : ∃ S, slotL q T = S := ⟨_, rfl⟩
      rw [hS] at hcq hrow
      have hSl : S.length ≤ 64 := by rw [← hS]; exact Nat.le_trans (List.length_filter_le _ _) HG.out.room
      have cq : wr.cell? ⟨s, q, none⟩ = some (.slice A S.length c) := by
        rw [HW.out.bel.cell (p := ⟨s, q, none⟩) hsl, H1.out.slots.cell, List.getElem?_toArray, hcq]
      have c2r : wr.cell? ⟨g, 2, none⟩ = some (.pointer (some ⟨s, 0, none⟩)) := (HW.out.bel.cell (p := ⟨g, 2, none⟩) hgl).trans c2
      have HS := Lib.hid (show T.filter (slotB ((st + (n : Int)) % 64)) = S from by rw [hq]; exact hS)
      have HQ := Lib.hid hq
      clear hS hcq
      have hqi : (0 : Int) ≤ (q : Int) ∧ (q : Int) < 64 := by omega
      rcases hSc : S with _ | ⟨x, R⟩
      · subst hSc
        go_wp2_with fail
        go_round
        case rel => exact ⟨n + 1, f, by omega, rfl, by simp; omega, HX.out.empty HS.out, HW.out⟩
        case measure => simp only [intOf]; omega
      · subst hSc
        obtain ⟨gq, rfl, hgq, hrg⟩ := hrow.at (k := 0) (x := x) rfl
        have hrg : w.rangeAt gq 0 (tmL x) := by rw [Nat.zero_mul] at hrg; exact hrg
        have HRG := Lib.hid (range_below hrg HW.out.bel hgq)
        have HGQ := Lib.hid (show gq < wr.heap.size from Nat.lt_of_lt_of_le hgq HW.out.bel.size)
        have ct : wr.cell? ⟨gq, 2, none⟩ = some (.int .i64 x.t) := (range_below hrg HW.out.bel hgq) 2 _ rfl
        have hxT : x ∈ T := (List.mem_filter.1 (show x ∈ T.filter (slotB ((st + (n : Int)) % 64)) from by rw [HS.out]; exact List.mem_cons_self)).1
        have hxo := HG.out.ok x hxT
        have hxt : 0 ≤ x.t ∧ x.t ≤ 1099511627776 := by omega
        obtain ⟨m, hm⟩ : ∃ m, (x :: R).length = m := ⟨_, rfl⟩
        have hm0 : 0 < m := by rw [← hm]; exact Nat.succ_pos _
        rw [hm] at cq hSl
        have dm : ((m : Int) == 0) = false := by simp; omega
        obtain ⟨xq, hxq⟩ : ∃ xq, x.t / 256 = xq := ⟨_, rfl⟩
        have HXQ := Lib.hid hxq
        clear hrow hrg hxT hxo
        by_cases he : xq = st + n
        · have d2 : (xq == st + (n : Int)) = true := by simp [he]
          obtain ⟨R', hR'⟩ := HX.out.found HG.out.srt hlt H0.out HS.out (by rw [HXQ.out]; exact he)
          have HR' := Lib.hid hR'
          clear hR'
          go_upto_region 12 with fail
          have hvx : (tmL x).toArray.size = 3 := rfl
          obtain ⟨V, hV⟩ : ∃ V, (tmL x).toArray = V := ⟨_, rfl⟩
          have HVE := Lib.hid hV
          have HVO := Lib.hid (show V.all (·.oneCell') = true from by rw [← hV]; exact tm_one x)
          rw [hV] at hvx
          have HVS := Lib.hid hvx
          clear hV hvx
          go_upto_region 15 with (first | (refine Ops.wpList_load_mid_if (by rfl) 38 (.tmp 46) rfl gq 0 rfl (tmL x) _ HRG.out rfl rfl (by kernel_rfl) ?_; rw [HVE.out]) | (refine wpList_store_row rfl 38 (.tmp 4) (.tmp 47) rfl t4 V rfl rfl 38 _ HW.out.fst (by rw [HVS.out]; kernel_rfl) (by rw [HVS.out, List.size_toArray, frL_length]) HVO.out ?_))
          refine cut_world (fun Y => Whole Y t4 38 V ∧ Whole Y t2 38 zeroT.toArray ∧ Below w.heap.size w Y) ⟨setRow_heap _ _ _ _ _ _ HW.out.fst, Whole.farRow HW.out.res (by have := HNE.out; omega) _, below_setRow HW.out.bel (by have := HNE.out; have := HT2.out; omega) _⟩ ?_
          rintro Y ⟨y1, y2, y3⟩
          have HF4 := Lib.hid y1
          have HF2 := Lib.hid y2
          have HFB := Lib.hid y3
          obtain rfl : hd = some x := by rw [← HHD.out, HR'.out]; rfl
          clear y1 y2 y3
          go_wp2_with (first | (refine wpList_load_row rfl 38 (.tmp 4) rfl t4 rfl 38 V (0, 0) _ HF4.out rfl rfl (by rw [HVS.out]; kernel_rfl) ?_) | (refine wpList_store_row rfl 38 (.tmp 2) (.tmp 62) rfl t2 V rfl rfl 38 _ HF2.out (by rw [HVS.out]; kernel_rfl) (by rw [HVS.out]; rfl) HVO.out ?_))
          have hret : Whole (Y.setRow t2 V) t2 38 V := setRow_heap _ _ _ _ _ _ HF2.out
          rw [Exit.noGoto_ret]
          refine bodyPost_ret (Poly.results_cell_tmp rfl _ _ t2 38 V.toList _ rfl (by simpa using hret) rfl rfl (by rw [Array.length_toList, HVS.out]; kernel_rfl)) rfl ?_
          exact ⟨by rw [← HVE.out]; simp [frL], below_setRow HFB.out (Nat.le_of_eq HT2.out) _⟩
        · have d2 : (xq == st + (n : Int)) = false := by simp [he]
          have HLT := Lib.hid (HX.out.later HG.out.srt hlt H0.out HS.out (by rw [HXQ.out]; exact he))
          rcases f with _ | z
          · go_upto_region 13 with fail
            refine q_start (by kernel_rfl) (by kernel_rfl) ?_
            refine Ops.wq_in ?_
            refine Ops.wq_take _ (by rfl) (fun X hx => by go_simp; try with_reducible rfl) ?_
            try simp only [Act.put, List.setIfInBounds_toArray, List.set_cons_zero, List.set_cons_succ]
            refine Ops.wq_take _ (by rfl) (fun X hx => by go_simp; try with_reducible rfl) ?_
            try simp only [Act.put, List.setIfInBounds_toArray, List.set_cons_zero, List.set_cons_succ]
            refine Ops.wq_take _ (by rfl) (fun X hx => by go_simp; try with_reducible rfl) ?_
            try simp only [Act.put, List.setIfInBounds_toArray, List.set_cons_zero, List.set_cons_succ]
            refine Ops.wq_pass (by rfl) ?_
            try simp only [Act.put, List.setIfInBounds_toArray, List.set_cons_zero, List.set_cons_succ]
            refine Ops.wq_pass (by rfl) ?_
            try simp only [Act.put, List.setIfInBounds_toArray, List.set_cons_zero, List.set_cons_succ]
            refine Ops.wq_pass (by rfl) ?_
            try simp only [Act.put, List.setIfInBounds_toArray, List.set_cons_zero, List.set_cons_succ]
            refine Ops.wq_pass (by rfl) ?_
            try simp only [Act.put, List.setIfInBounds_toArray, List.set_cons_zero, List.set_cons_succ]
            refine Ops.wq_pass (by rfl) ?_
            try simp only [Act.put, List.setIfInBounds_toArray, List.set_cons_zero, List.set_cons_succ]
            refine Ops.wq_pass (by rfl) ?_
            try simp only [Act.put, List.setIfInBounds_toArray, List.set_cons_zero, List.set_cons_succ]
            refine Ops.wq_take _ (by rfl) (fun X hx => by go_simp; try with_reducible rfl) ?_
            try simp only [Act.put, List.setIfInBounds_toArray, List.set_cons_zero, List.set_cons_succ]
            refine Ops.wq_take _ (by rfl) (fun X hx => by go_simp; try with_reducible rfl) ?_
            try simp only [Act.put, List.setIfInBounds_toArray, List.set_cons_zero, List.set_cons_succ]
            refine Ops.wq_end ?_
            intro w2 hb2
            have HW2 := Lib.hid (HW.out.below hb2)
            have HRG2 := Lib.hid (range_below HRG.out hb2 HGQ.out)
            clear HW hb2 ct cq c2r
            have hvx : (tmL x).toArray.size = 3 := rfl
            obtain ⟨V, hV⟩ : ∃ V, (tmL x).toArray = V := ⟨_, rfl⟩
            have HVE := Lib.hid hV
            have HVO := Lib.hid (show V.all (·.oneCell') = true from by rw [← hV]; exact tm_one x)
            rw [hV] at hvx
            have HVS := Lib.hid hvx
            clear hV hvx
            go_wp2_with (first | (refine Ops.wpList_load_mid_if (by rfl) 38 (.tmp 60) rfl gq 0 rfl (tmL x) _ HRG2.out rfl rfl (by kernel_rfl) ?_; rw [HVE.out]) | (refine wpList_store_row rfl 38 (.tmp 4) (.tmp 61) rfl t4 V rfl rfl 38 _ HW2.out.fst (by rw [HVS.out]; kernel_rfl) (by rw [HVS.out, List.size_toArray, frL_length]) HVO.out ?_))
            go_round
            case rel => exact ⟨n + 1, some x, by omega, rfl, by simp; omega, HLT.out, HW2.out.put HNE.out HT2.out (by rw [← HVE.out]; rfl)⟩
            case measure => simp only [intOf]; omega
          · obtain ⟨U, hU⟩ : ∃ U, (tmL z).toArray = U := ⟨_, rfl⟩
            obtain ⟨V0, hV0⟩ : ∃ V0, (tmL x).toArray = V0 := ⟨_, rfl⟩
            have HU := Lib.hid hU
            have HV0 := Lib.hid hV0
            obtain ⟨r, hr⟩ : ∃ r, cmpT x z = r := ⟨_, rfl⟩
            have HCP := Lib.hid (fun W => compare_any x z W)
            unfold tmV at HCP
            rw [hU, hV0, hr] at HCP
            have HR := Lib.hid hr
            clear hU hV0 hr
            go_upto_region 13 with fail
            refine q_start (by kernel_rfl) (by kernel_rfl) ?_
            refine Ops.wq_in ?_
            refine Ops.wq_take _ (by rfl) (fun X hx => by go_simp; try with_reducible rfl) ?_
            try simp only [Act.put, List.setIfInBounds_toArray, List.set_cons_zero, List.set_cons_succ]
            refine Ops.wq_take _ (by rfl) (fun X hx => by go_simp; try with_reducible rfl) ?_
            try simp only [Act.put, List.setIfInBounds_toArray, List.set_cons_zero, List.set_cons_succ]
            refine Ops.wq_take _ (by rfl) (fun X hx => by go_simp; try with_reducible rfl) ?_
            try simp only [Act.put, List.setIfInBounds_toArray, List.set_cons_zero, List.set_cons_succ]
            refine Ops.wq_take _ (by rfl) (fun X hx => by go_simp; try with_reducible rfl) ?_
            try simp only [Act.put, List.setIfInBounds_toArray, List.set_cons_zero, List.set_cons_succ]
            refine Ops.wq_take _ (by rfl) (fun X hx => by go_simp; try with_reducible rfl) ?_
            try simp only [Act.put, List.setIfInBounds_toArray, List.set_cons_zero, List.set_cons_succ]
            refine Ops.wq_take (.agg V0) (by rfl) (fun X hx => by rw [← HV0.out]; exact run_mid_in 38 (.tmp 53) rfl gq 0 (by go_simp) (tmL x) _ (range_below HRG.out hx HGQ.out) rfl rfl (by kernel_rfl)) ?_
            try simp only [Act.put, List.setIfInBounds_toArray, List.set_cons_zero, List.set_cons_succ]
            refine Ops.wq_take (.agg U) (by rfl) (fun X hx => by rw [← HU.out]; exact run_load_in 38 (.tmp 4) rfl t4 rfl (tmL z).toArray 3 rfl (HW.out.fst.below hx HW.out.fst.lt) rfl rfl (by kernel_rfl)) ?_
            try simp only [Act.put, List.setIfInBounds_toArray, List.set_cons_zero, List.set_cons_succ]
            refine Ops.wq_call (.int .i64 r) 28 #[.agg V0, .agg U] (by rfl) (by intro w; go_simp; try with_reducible rfl) (fun X hx => (HCP.out X).mono (fun e w' ⟨h1, h2⟩ => ⟨h1, below_trans hx h2⟩)) ?_
            try simp only [Act.put, List.setIfInBounds_toArray, List.set_cons_zero, List.set_cons_succ]
            refine Ops.wq_take _ (by rfl) (fun X hx => by go_simp; try with_reducible rfl) ?_
            try simp only [Act.put, List.setIfInBounds_toArray, List.set_cons_zero, List.set_cons_succ]
            refine Ops.wq_take _ (by rfl) (fun X hx => by go_simp; try with_reducible rfl) ?_
            try simp only [Act.put, List.setIfInBounds_toArray, List.set_cons_zero, List.set_cons_succ]
            refine Ops.wq_take _ (by rfl) (fun X hx => by go_simp; try with_reducible rfl) ?_
            try simp only [Act.put, List.setIfInBounds_toArray, List.set_cons_zero, List.set_cons_succ]
            refine Ops.wq_end ?_
            intro w2 hb2
            have HW2 := Lib.hid (HW.out.below hb2)
            have HRG2 := Lib.hid (range_below HRG.out hb2 HGQ.out)
            have hlt2 := HLT.out
            dsimp only at hlt2
            rw [HR.out] at hlt2
            have HL2 := Lib.hid hlt2
            clear HW hb2 ct cq c2r HCP HLT hlt2
            by_cases hc : r < 0
            · have d3 : decide (r < 0) = true := decide_eq_true hc
              have hvx : (tmL x).toArray.size = 3 := rfl
              obtain ⟨V, hV⟩ : ∃ V, (tmL x).toArray = V := ⟨_, rfl⟩
              have HVE := Lib.hid hV
              have HVO := Lib.hid (show V.all (·.oneCell') = true from by rw [← hV]; exact tm_one x)
              rw [hV] at hvx
              have HVS := Lib.hid hvx
              clear hV hvx
              go_wp2_with (first | (refine Ops.wpList_load_mid_if (by rfl) 38 (.tmp 60) rfl gq 0 rfl (tmL x) _ HRG2.out rfl rfl (by kernel_rfl) ?_; rw [HVE.out]) | (refine wpList_store_row rfl 38 (.tmp 4) (.tmp 61) rfl t4 V rfl rfl 38 _ HW2.out.fst (by rw [HVS.out]; kernel_rfl) (by rw [HVS.out, List.size_toArray, frL_length]) HVO.out ?_))
              go_round
              case rel => exact ⟨n + 1, some x, by omega, rfl, by simp; omega, (by have h := HL2.out; rw [if_pos hc] at h; exact h), HW2.out.put HNE.out HT2.out (by rw [← HVE.out]; rfl)⟩
              case measure => simp only [intOf]; omega
            · have d3 : decide (r < 0) = false := decide_eq_false hc
              go_wp2_with fail
              go_round
              case rel => exact ⟨n + 1, some z, by omega, rfl, by simp; omega, (by have h := HL2.out; rw [if_neg hc] at h; exact h), HW2.out⟩
              case measure => simp only [intOf]; omega
    · obtain rfl : n = 64 := by omega
      obtain rfl : hd = f := by rw [← HHD.out]; exact HX.out.done HG.out.srt
      obtain ⟨V, hV⟩ : ∃ V, (frL hd).toArray = V := ⟨_, rfl⟩
      have HVE := Lib.hid hV
      have HVO := Lib.hid (show V.all (·.oneCell') = true from by rw [← hV]; exact frL_one hd)
      have HVS := Lib.hid (show V.size = 3 from by rw [← hV, List.size_toArray, frL_length])
      have HF4 := Lib.hid (show Whole wr t4 38 V from hV ▸ HW.out.fst)
      have HF2 := Lib.hid HW.out.res
      have HFB := Lib.hid HW.out.bel
      have d1 : decide (st + (64 : Int) < st + 64) = false := decide_eq_false (by omega)
      clear hV HX HW
      go_wp2_with (first | (refine wpList_load_row rfl 38 (.tmp 4) rfl t4 rfl 38 V (0, 0) _ HF4.out rfl rfl (by rw [HVS.out]; kernel_rfl) ?_) | (refine wpList_store_row rfl 38 (.tmp 2) (.tmp 62) rfl t2 V rfl rfl 38 _ HF2.out (by rw [HVS.out]; kernel_rfl) (by rw [HVS.out]; rfl) HVO.out ?_))
      have hret : Whole (wr.setRow t2 V) t2 38 V := setRow_heap _ _ _ _ _ _ HF2.out
      rw [Exit.noGoto_ret]
      refine bodyPost_ret (Poly.results_cell_tmp rfl _ _ t2 38 V.toList _ rfl (by simpa using hret) rfl rfl (by rw [Array.length_toList, HVS.out]; kernel_rfl)) rfl ?_
      exact ⟨by rw [← HVE.out]; simp [frL], below_setRow HFB.out (Nat.le_of_eq HT2.out) _⟩
end Wh
end Go.Proofs.Ytgbahkkccpcadaa
