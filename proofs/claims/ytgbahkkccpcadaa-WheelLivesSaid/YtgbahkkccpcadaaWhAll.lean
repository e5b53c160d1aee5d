/- Package wheel: ClearAll, which ranges over the map and deletes. -/
import Derived.Test.YtgbahkkccpcadaaWhAdv
namespace Go.Proofs.Ytgbahkkccpcadaa
namespace Wh
open Go.ChangeShapes Go.WideShapes Go.ChangeAt Go.RowKit Go.Maps
open Num Mem Words Chacha Aead Poly Quiet RowV RowS Ops EqLits Stamp

/-- a map that is gone through -/
def Rg (b r n : Nat) (left0 : Lit → Bool) (cnt0 : Nat) (X : World) (D : DataW Unit) : Prop :=
  ∃ left cnt, X.ranges Try.prog 67 i64R b r n D left cnt ∧ cnt ≤ cnt0 ∧ (∀ z, has D z = true → left z = left0 z) ∧ ∀ z, left z = true → has D z = true
theorem rg_k (b r n : Nat) (hn : n ≤ 1000000) (left0 : Lit → Bool) (cnt0 : Nat) : MapK b (Rg b r n left0 cnt0) := by
  refine ⟨fun w D h => ?_, fun w D key kl ty h hk => ?_, fun w w' D row h hg hr => ?_⟩
  · obtain ⟨left, cnt, h1, _⟩ := h
    exact ⟨n, hn, h1.owns⟩
  · obtain ⟨left, cnt, h1, h2, h3, h4⟩ := h
    obtain ⟨w', cnt', hrun, r1, r2, r3⟩ := h1.drop keyedN Try.underlying47 hk ty
    refine ⟨w', hrun, ⟨_, cnt', r1, Nat.le_trans r2 h2, fun z hz => ?_, fun z hz => ?_⟩, r3⟩
    · have hne : z ≠ kl := by
        rintro rfl
        rw [has_del_same] at hz
        cases hz
      rw [has_del_other hne] at hz
      rw [← h3 z hz, sameKey_ne hne]
      simp
    · simp only [Bool.and_eq_true, Bool.not_eq_true'] at hz
      have hne : z ≠ kl := by
        rintro rfl
        rw [WideAt.sameKey_self (keyedN.key hk)] at hz
        cases hz.2
      rw [has_del_other hne]
      exact h4 z hz.1
  · obtain ⟨left, cnt, h1, h2⟩ := h
    refine ⟨left, cnt, h1.kept hg (fun e => ?_) (fun e => ?_), h2⟩
    · obtain ⟨t, cs, hw⟩ := hr b e.symm
      exact owns_row h1.owns hw rfl
    · obtain ⟨t, cs, hw⟩ := hr r e.symm
      obtain ⟨es, clock, since, seen, c0, _, _, _, _, hb, _⟩ := h1
      unfold Whole at hw
      rw [hw] at hb
      cases hb
/-- a key's cells -/
theorem key_cells {key : Value} {kl : Lit} (h : keyOf Try.prog 67 key = some kl) : ∃ x : Array Value, key = .agg x := by
  obtain ⟨xs, L, rfl, h1, _⟩ := keyOf_top (by kernel_rfl) h
  exact ⟨xs, rfl⟩
/-- the round's world -/
structure AlW (w : World) (F : Nat → Prop) (g b s r n : Nat) (now o : Int) (T : List Tm) (X : World) (p : Tm → Bool) (D : DataW Unit) (cs : List Value) (left : Lit → Bool) (cnt : Nat) : Prop where
  wm : WM X F g b s now (T.filter p) D cs
  rg : X.ranges Try.prog 67 i64R b r n D left cnt
  fk : Fk F w X
  pp : ∀ y, y.o ≠ o → p y = true
  todo : ∀ y ∈ T.filter p, y.o = o → left (klN Try.prog 67 y.o y.k) = true
  has_ : ∀ z, left z = true → has D z = true
theorem AlW.below {w : World} {F : Nat → Prop} {g b s r n : Nat} {now o : Int} {T : List Tm} {X Y : World} {p : Tm → Bool} {D : DataW Unit} {cs : List Value} {left : Lit → Bool} {cnt : Nat} (h : AlW w F g b s r n now o T X p D cs left cnt) (hb : Below X.heap.size X Y) : AlW w F g b s r n now o T Y p D cs left cnt :=
  ⟨h.wm.below hb, h.rg.kept (row := none) ⟨hb.os, hb.tape, hb.output, hb.size, fun i hi _ => hb.block i hi⟩ (by simp) (by simp), h.fk.trans (Fk.of_below (F := F) hb) (fun _ _ h => h), h.pp, h.todo, h.has_⟩

set_option maxRecDepth 100000 in
set_option maxHeartbeats 4000000 in
theorem clearAll_any {w : World} {F : Nat → Prop} {g : Nat} {now : Int} {T : List Tm} (h : WW w F g now T) (hFw : ∀ i, F i → i < w.heap.size) (o : Int) :
    Calls Try.prog 19 #[.pointer (some ⟨g, 0, none⟩), .int .i64 o] w fun e w' => e = .returned (.int .i64 ((T.length : Int) - (T.filter (fun y => !decide (y.o = o))).length)) ∧ WW w' F g now (T.filter (fun y => !decide (y.o = o))) ∧ Fk F w w' := by
  have HFW := Lib.hid hFw
  have hT64 := h.good.room
  have HG := Lib.hid h.good
  obtain ⟨b, s, D, cs, h1, n, hn, hown⟩ := h
  have HN := Lib.hid (none_some g s _ _ w h1.obj)
  have c1 : w.cell? ⟨g, 1, none⟩ = some (.map (some b)) := h1.obj.cell 1
  have hl := (still_k b).len (w := w) (D := D) ⟨n, hn, hown⟩
  rw [h1.ag.sz] at hl
  have HOWN := Lib.hid hown
  have H1 := Lib.hid h1
  have HNN := Lib.hid hn
  obtain ⟨m, hm⟩ : ∃ m, T.length = m := ⟨_, rfl⟩
  rw [hm] at hl hT64 ⊢
  obtain ⟨T2, hT2⟩ : ∃ T2, T.filter (fun y => !decide (y.o = o)) = T2 := ⟨_, rfl⟩
  obtain ⟨m2, hm2⟩ : ∃ m2, T2.length = m2 := ⟨_, rfl⟩
  rw [hT2, hm2]
  have HT2 := Lib.hid hT2
  have HM2 := Lib.hid hm2
  clear hT2 hm2
  have HM := Lib.hid hm
  clear h1 hown hn hm hFw
  go_enter Try.func19, Try.ntmps19
  go_wp2_with fail
  refine HN.out.mono ?_
  rintro e w1 ⟨rfl, rfl⟩
  go_upto_region 4 with fail
  clear hl
  go_wp2_with (at_range; refine wpList_range_own _ rfl _ 47 rfl 67 2 keyedN Try.underlying47 _ b n D rfl HOWN.out ?_; intro w0 hrg0 hg0 hs0)
  go_frame
  have H0 := Lib.hid (show AlW w F g b s w.heap.size n now o T w0 (fun _ => true) D cs (Maps.has D) (Maps.size D) from by
    have hb0 : Below w.heap.size w w0 := ⟨hg0.os, hg0.tape, hg0.output, hg0.size, fun i hi => hg0.block i hi (by simp)⟩
    have e : T.filter (fun _ => true) = T := List.filter_eq_self.2 (fun _ _ => rfl)
    refine ⟨by rw [e]; exact H1.out.below hb0, hrg0, Fk.of_below hb0, fun _ _ => rfl, fun y hy _ => ?_, fun _ h => h⟩
    rw [e] at hy
    exact (H1.out.ag.hs _).2 ⟨y, hy, rfl⟩)
  obtain ⟨r, hr⟩ : ∃ r, w.heap.size = r := ⟨_, rfl⟩
  rw [hr] at H0 ⊢
  have HR := Lib.hid hr
  clear hrg0 hg0 hs0 c1 H1 HOWN hr
  go_loopw [6] (fun _ wr => ∃ p D cs left cnt, AlW w F g b s r n now o T wr p D cs left cnt) (fun _ wr => wr.rangeLeft b r)
  case atStart => exact ⟨_, _, _, _, _, H0.out⟩
  case round =>
    obtain ⟨p, D, cs, left, cnt, hW⟩ := hrel
    have HW := Lib.hid hW
    clear hW H0
    have hc1 : wr.cell? ⟨g, 1, none⟩ = some (.map (some b)) := HW.out.wm.obj.cell 1
    go_wp2_with (at_next; refine wpList_next_ranges _ rfl _ rfl 67 keyedN i64R (fun x : Array Value => .agg x) (fun a : Int => .int .i64 a) (fun key kl h => key_cells h) (fun v y h => (let ⟨c, hc, _⟩ := i64R_inv h; ⟨c, hc⟩)) b r n D left cnt rfl HW.out.rg ?_ ?_)
    · intro _ hl0
      have hend : T.filter p = T.filter (fun y => !decide (y.o = o)) := by
        refine List.filter_congr fun y hy => ?_
        by_cases e : y.o = o
        · simp only [e, decide_true, Bool.not_true]
          refine Bool.eq_false_iff.2 fun c => ?_
          have := HW.out.todo y (List.mem_filter.2 ⟨hy, c⟩) e
          rw [hl0] at this
          cases this
        · simp only [e, decide_false, Bool.not_false]
          exact HW.out.pp y e
      have hl := (still_k b).len (w := wr) (D := D) ⟨n, HNN.out, HW.out.rg.owns⟩
      rw [HW.out.wm.ag.sz, hend, HT2.out, HM2.out] at hl
      have hwm := HW.out.wm
      rw [hend, HT2.out] at hwm
      have HE := Lib.hid (show WW wr F g now T2 ∧ Fk F w wr from ⟨⟨b, s, D, cs, hwm, n, HNN.out, HW.out.rg.owns⟩, HW.out.fk⟩)
      have hle : m2 ≤ m := by rw [← HM.out, ← HM2.out, ← HT2.out]; exact List.length_filter_le _ _
      have hw1 : IntKind.i64.wrap ((m : Int) - (m2 : Int)) = (m : Int) - (m2 : Int) := by rw [IntKind.wrap_i64]; omega
      clear hl0 hwm hend
      go_wp2_with fail
      go_ret
      exact ⟨rfl, HE.out⟩
    · intro cs0 tv kl yd yp w1 cnt1 hkey hlk hy hat hrg1 hlt hg1 hs1 hen
      obtain ⟨x, hx, hkl⟩ := (HW.out.wm.ag.hs kl).1 (HW.out.has_ kl hlk)
      have hgx := HW.out.wm.good
      have hkn := key_name (hgx.io hx) (hgx.ik hx)
      rw [← hkl] at hkn
      have hcs : cs0 = #[.int .i64 x.o, .int .i64 x.k] := by
        have e := keyedN.inj hkey hkn
        unfold nmV at e
        injection e
      subst hcs
      have hwm1 : WM w1 F g b s now (T.filter p) D cs := HW.out.wm.keep fun j t c _ hw => (hg1.block j hw.lt (fun e => by
        injection e with e
        subst e
        obtain ⟨es, clock, since, seen, c0, _, _, _, _, hb, _⟩ := HW.out.rg
        unfold Whole at hw
        rw [hw] at hb
        cases hb)).trans hw
      have hfk1 : Fk F w w1 := by
        have h0 := HW.out.fk
        exact ⟨hg1.os.trans h0.os, hg1.tape.trans h0.tape, hg1.output.trans h0.output, Nat.le_trans h0.size hg1.size, fun i hi hf => (hg1.block i (Nat.lt_of_lt_of_le hi h0.size) (fun e => by injection e with e; have := HR.out; omega)).trans (h0.block i hi hf)⟩
      have HWM := Lib.hid hwm1
      have HFK := Lib.hid hfk1
      have HRG := Lib.hid hrg1
      have HX := Lib.hid hx
      have HKL := Lib.hid hkl
      have HLT := Lib.hid hlt
      have hkk := keyedN.key hkey
      have HLK := Lib.hid hkk
      clear hwm1 hfk1 hrg1 hx hkl hlt hkey hlk hy hat hg1 hs1 hkn hgx hkk hc1
      go_upto_region 7 with fail
      obtain ⟨N, hN⟩ : ∃ N, w1.heap.size = N := ⟨_, rfl⟩
      have hbN := below_alloc (Below.refl w1.heap.size w1) (.cells #[Value.int .i64 x.o, .int .i64 x.k] 67)
      refine cut_world (fun X => Whole X N 67 #[.int .i64 x.o, .int .i64 x.k] ∧ WM X F g b s now (T.filter p) D cs ∧ X.ranges Try.prog 67 i64R b r n D (fun z => left z && !z.sameKey kl) cnt1 ∧ Fk F w X) ⟨whole_new _ _ hN, HWM.out.below hbN, HRG.out.alloc _, HFK.out.trans (Fk.of_below (F := F) hbN) (fun _ _ h => h)⟩ ?_
      rw [hN]
      rintro X ⟨hv, hwm, hrg, hfk⟩
      have HV := Lib.hid hv
      have HWX := Lib.hid hwm
      have HRX := Lib.hid hrg
      have HFX := Lib.hid hfk
      have ck0 : X.cell? ⟨N, 0, none⟩ = some (.int .i64 x.o) := hv.cell 0
      have ck1 : X.cell? ⟨N, 1, none⟩ = some (.int .i64 x.k) := hv.cell 1
      have HNE := Lib.hid (show ∀ y ∈ T.filter p, y ≠ x → klN Try.prog 67 y.o y.k ≠ kl from fun y hy hne e => by
        rw [HKL.out] at e
        obtain ⟨e1, e2⟩ := kl_inj (hwm.good.io hy) (hwm.good.ik hy) (hwm.good.io HX.out) (hwm.good.ik HX.out) e
        exact hne (hwm.good.unq y hy x HX.out e1 e2))
      have HHS := Lib.hid (show ∀ z, (left z && !z.sameKey kl) = true → has D z = true from fun z hz => HW.out.has_ z (by simp only [Bool.and_eq_true] at hz; exact hz.1))
      clear hv hwm hrg hfk hbN hN HWM HRG HFK hen
      by_cases he : x.o = o
      · have d1 : (x.o == o) = true := by simp [he]
        have HEQ := Lib.hid he
        clear he
        have HC := Lib.hid (clear_gen (rg_k b r n HNN.out (fun z => left z && !z.sameKey kl) cnt1) HWX.out ⟨_, cnt1, HRX.out, Nat.le_refl _, fun _ _ => rfl, HHS.out⟩ x.o x.k (HWX.out.good.io HX.out) (HWX.out.good.ik HX.out))
        go_wp2_with fail
        refine HC.out.mono ?_
        rintro e w2 (⟨hf, _⟩ | ⟨y, hf, rfl, hk2, cs2, hw2, hr2⟩)
        · exact absurd ⟨rfl, rfl⟩ (find_none hf x HX.out)
        · obtain ⟨left2, cnt2, hr2, hc2, hl2, hh2⟩ := hr2
          have HW2 := Lib.hid hw2
          have HR2 := Lib.hid hr2
          have HC2 := Lib.hid hc2
          have HL2 := Lib.hid hl2
          have HH2 := Lib.hid hh2
          have HK2 := Lib.hid hk2
          clear hf hk2 hw2 hr2 hc2 hl2 hh2 HC
          have hT' : rem x.o x.k (T.filter p) = T.filter (fun y => !decide (y = x) && p y) := by rw [rem_eq HWX.out.good.unq HX.out, List.filter_filter]
          have HT' := Lib.hid hT'
          clear hT'
          go_wp2_with fail
          go_round
          case rel =>
            have hw2 := HW2.out
            rw [HT'.out] at hw2
            refine ⟨_, _, cs2, left2, cnt2, hw2, HR2.out, HFX.out.trans HK2.out (fun _ _ h => h), fun z hz => ?_, fun z hz hzo => ?_, HH2.out⟩
            · have hne : z ≠ x := fun e => hz (by rw [e]; exact HEQ.out)
              simp [hne, HW.out.pp z hz]
            · have hz2 := (List.mem_filter.1 hz).2
              simp only [Bool.and_eq_true, Bool.not_eq_true', decide_eq_false_iff_not] at hz2
              have hzm : z ∈ T.filter p := List.mem_filter.2 ⟨(List.mem_filter.1 hz).1, hz2.2⟩
              rw [HL2.out _ ((hw2.ag.hs _).2 ⟨z, hz, rfl⟩), HW.out.todo z hzm hzo, sameKey_ne (HNE.out z hzm hz2.1)]
              rfl
          case measure => rw [HR2.out.left_eq, HW.out.rg.left_eq]; exact Nat.lt_of_le_of_lt HC2.out HLT.out
      · have d1 : (x.o == o) = false := by simp [he]
        go_wp2_with fail
        go_round
        case rel =>
          refine ⟨p, D, cs, _, cnt1, HWX.out, HRX.out, HFX.out, HW.out.pp, fun z hz hzo => ?_, HHS.out⟩
          have hne : z ≠ x := fun e => he (by rw [← e]; exact hzo)
          rw [HW.out.todo z hz hzo, sameKey_ne (HNE.out z hz hne)]
          rfl
        case measure => rw [HRX.out.left_eq, HW.out.rg.left_eq]; exact HLT.out
end Wh
end Go.Proofs.Ytgbahkkccpcadaa
