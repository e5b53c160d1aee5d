/- Package staged: Take, Drop. -/
import Derived.Test.YtbmabfnjjflbnaaYdPutY
namespace Go.Proofs.Ytbmabfnjjflbnaa
namespace Yd
open Go.ChangeShapes Go.WideShapes Go.ChangeAt Go.RowKit Go.Maps
open Num Mem Words Chacha Aead Poly Quiet RowV

def zeroP : List Value := [.int .u64 0, .slice none 0 0]
theorem pk_built0 : Try.prog.built 46 [] = some zeroP.toArray := by kernel_rfl
theorem YM.setNew {w : World} {B g b last thrown N : Nat} {Y : Int → List Pk} {D : DataW Unit} {m : Int → Option Nat} (h : YM w B g b Y last thrown N D m) {w' : World} (hb : Below w.heap.size w w') : YM w' B g b Y last thrown N D m := h.below hb

set_option maxRecDepth 100000 in
theorem take_nil (o : Int) (w : World) : Calls Try.prog 16 #[.pointer none, .int .i64 o] w fun e w' => e = .returned (.tuple #[.agg zeroP.toArray, .bool false]) ∧ Below w.heap.size w w' := by
  go_enter Try.func16, Try.ntmps16
  go_upto_region 1 with fail
  refine cut_world (fun X => Whole X w.heap.size 46 zeroP.toArray ∧ Below w.heap.size w X) ⟨whole_new _ _ rfl, below_alloc (Below.refl _ _) _⟩ ?_
  rintro X ⟨x1, x2⟩
  have X1 := Lib.hid x1
  have X2 := Lib.hid x2
  have HC := Lib.hid (waits_nil o X)
  clear x1 x2 
  obtain ⟨Z, hZ⟩ : ∃ Z, zeroP.toArray = Z := ⟨_, rfl⟩
  have HZS := Lib.hid (show Z.size = 2 by rw [← hZ]; rfl)
  have HZO := Lib.hid (show Z.all (·.oneCell') = true by rw [← hZ]; simp [zeroP, Value.oneCell'])
  have HZB := Lib.hid (show Try.prog.built 46 [] = some Z by rw [← hZ]; exact pk_built0)
  rw [hZ] at X1
  have HZE := Lib.hid hZ
  clear hZ
  generalize hN : w.heap.size = N at X1 X2 ⊢
  go_wp2_with fail
  refine HC.out.mono ?_
  rintro e w1 ⟨rfl, rfl⟩
  go_wp2_with (first | (refine wpList_built0 rfl 46 rfl Z HZB.out ?_) | (refine wpList_store_row rfl 46 (.tmp 4) (.tmp 12) rfl N Z rfl rfl 46 _ X1.out (by rw [HZS.out]; kernel_rfl) rfl HZO.out ?_))
  have hret : Whole (X.setRow N Z) N 46 Z := setRow_heap _ _ _ _ _ _ X1.out
  refine bodyPost_ret (Poly.results_cell_tmp rfl _ _ N 46 Z.toList _ rfl (by simpa using hret) rfl rfl (by rw [Array.length_toList, HZS.out]; kernel_rfl)) rfl ?_
  exact ⟨by rw [HZE.out]; simp, by rw [hN]; exact below_setRow X2.out (Nat.le_refl _) _⟩
set_option maxRecDepth 100000 in
theorem take_zero (g : Nat) (x y : Value) (o : Int) (w : World) (h : Whole w g 41 #[.map none, x, y]) : Calls Try.prog 16 #[.pointer (some ⟨g, 0, none⟩), .int .i64 o] w fun e w' => e = .returned (.tuple #[.agg zeroP.toArray, .bool false]) ∧ Below w.heap.size w w' := by
  go_enter Try.func16, Try.ntmps16
  go_upto_region 1 with fail
  refine cut_world (fun X => Whole X w.heap.size 46 zeroP.toArray ∧ Below w.heap.size w X) ⟨whole_new _ _ rfl, below_alloc (Below.refl _ _) _⟩ ?_
  rintro X ⟨x1, x2⟩
  have X1 := Lib.hid x1
  have X2 := Lib.hid x2
  have HC := Lib.hid (waits_zero g x y o X (h.below X2.out h.lt))
  clear x1 x2 h
  obtain ⟨Z, hZ⟩ : ∃ Z, zeroP.toArray = Z := ⟨_, rfl⟩
  have HZS := Lib.hid (show Z.size = 2 by rw [← hZ]; rfl)
  have HZO := Lib.hid (show Z.all (·.oneCell') = true by rw [← hZ]; simp [zeroP, Value.oneCell'])
  have HZB := Lib.hid (show Try.prog.built 46 [] = some Z by rw [← hZ]; exact pk_built0)
  rw [hZ] at X1
  have HZE := Lib.hid hZ
  clear hZ
  generalize hN : w.heap.size = N at X1 X2 ⊢
  go_wp2_with fail
  refine HC.out.mono ?_
  rintro e w1 ⟨rfl, rfl⟩
  go_wp2_with (first | (refine wpList_built0 rfl 46 rfl Z HZB.out ?_) | (refine wpList_store_row rfl 46 (.tmp 4) (.tmp 12) rfl N Z rfl rfl 46 _ X1.out (by rw [HZS.out]; kernel_rfl) rfl HZO.out ?_))
  have hret : Whole (X.setRow N Z) N 46 Z := setRow_heap _ _ _ _ _ _ X1.out
  refine bodyPost_ret (Poly.results_cell_tmp rfl _ _ N 46 Z.toList _ rfl (by simpa using hret) rfl rfl (by rw [Array.length_toList, HZS.out]; kernel_rfl)) rfl ?_
  exact ⟨by rw [HZE.out]; simp, by rw [hN]; exact below_setRow X2.out (Nat.le_refl _) _⟩
set_option maxRecDepth 100000 in
theorem take_none {w : World} {B g b last thrown : Nat} {Y : Int → List Pk} (h : YW w B g b Y last thrown) (o : Int) (hok : okI o) (hY : Y o = []) : Calls Try.prog 16 #[.pointer (some ⟨g, 0, none⟩), .int .i64 o] w fun e w' => e = .returned (.tuple #[.agg zeroP.toArray, .bool false]) ∧ Below w.heap.size w w' := by
  go_enter Try.func16, Try.ntmps16
  go_upto_region 1 with fail
  refine cut_world (fun X => Whole X w.heap.size 46 zeroP.toArray ∧ Below w.heap.size w X) ⟨whole_new _ _ rfl, below_alloc (Below.refl _ _) _⟩ ?_
  rintro X ⟨x1, x2⟩
  have X1 := Lib.hid x1
  have X2 := Lib.hid x2
  have HC := Lib.hid (show Calls Try.prog 11 #[.pointer (some ⟨g, 0, none⟩), .int .i64 o] X fun e w' => e = .returned (.int .i64 0) ∧ X = w' from (waits_any o hok (h.below X2.out)).mono (fun e w' k => ⟨by rw [k.1, hY]; rfl, k.2⟩))
  clear x1 x2 h hY hok
  obtain ⟨Z, hZ⟩ : ∃ Z, zeroP.toArray = Z := ⟨_, rfl⟩
  have HZS := Lib.hid (show Z.size = 2 by rw [← hZ]; rfl)
  have HZO := Lib.hid (show Z.all (·.oneCell') = true by rw [← hZ]; simp [zeroP, Value.oneCell'])
  have HZB := Lib.hid (show Try.prog.built 46 [] = some Z by rw [← hZ]; exact pk_built0)
  rw [hZ] at X1
  have HZE := Lib.hid hZ
  clear hZ
  generalize hN : w.heap.size = N at X1 X2 ⊢
  go_wp2_with fail
  refine HC.out.mono ?_
  rintro e w1 ⟨rfl, rfl⟩
  go_wp2_with (first | (refine wpList_built0 rfl 46 rfl Z HZB.out ?_) | (refine wpList_store_row rfl 46 (.tmp 4) (.tmp 12) rfl N Z rfl rfl 46 _ X1.out (by rw [HZS.out]; kernel_rfl) rfl HZO.out ?_))
  have hret : Whole (X.setRow N Z) N 46 Z := setRow_heap _ _ _ _ _ _ X1.out
  refine bodyPost_ret (Poly.results_cell_tmp rfl _ _ N 46 Z.toList _ rfl (by simpa using hret) rfl rfl (by rw [Array.length_toList, HZS.out]; kernel_rfl)) rfl ?_
  exact ⟨by rw [HZE.out]; simp, by rw [hN]; exact below_setRow X2.out (Nat.le_refl _) _⟩

/-- behind the ring's take -/
structure TkW (w : World) (B g b : Nat) (Y : Int → List Pk) (last thrown N : Nat) (D : DataW Unit) (m : Int → Option Nat) (R V a : Nat) (x : Pk) (X : World) : Prop where
  ym : YM X B g b Y last thrown N D m
  res : Whole X R 46 zeroP.toArray
  got : Whole X V 46 (pkL a x).toArray
  byt : Whole X a 5 (byteCells x.f x.len).toArray
  yk : Yk B w X
theorem Fits.ring {Y : Int → List Pk} {m : Int → Option Nat} (hF : Fits m Y) {o : Int} {x : Pk} {L : List Pk} (hY : Y o = x :: L) : ∃ r, m o = some r := by
  have := (hF o).2 (by rw [hY]; simp)
  exact Option.isSome_iff_exists.1 this
theorem Fits.upd {m : Int → Option Nat} {Y : Int → List Pk} (hF : Fits m Y) {o : Int} {r : Nat} (hm : m o = some r) {L : List Pk} (hL : L ≠ []) : Fits m (Yd.upd Y o L) := fun o' => by
  by_cases e : o' = o
  · subst e
    rw [upd_same, hm]
    exact ⟨fun _ => hL, fun _ => rfl⟩
  · rw [upd_other _ _ e]
    exact hF o'
theorem Fits.del {m : Int → Option Nat} {Y : Int → List Pk} (hF : Fits m Y) (o : Int) : Fits (Yd.upd m o none) (Yd.upd Y o []) := fun o' => by
  by_cases e : o' = o
  · subst e
    rw [upd_same, upd_same]
    simp
  · rw [upd_other _ _ e, upd_other _ _ e]
    exact hF o'
/-- an entry taken away -/
theorem YM.drop {w w' : World} {B g b last thrown N : Nat} {Y : Int → List Pk} {D : DataW Unit} {m : Int → Option Nat} (h : YM w B g b Y last thrown N D m) (o : Int) (hown : w'.ownsMap Try.prog 3 ptrR b N (D.del (keyO o))) (hg : w.grownBy w' (some b)) : YM w' B g b (upd Y o []) last thrown N (D.del (keyO o)) (upd m o none) := by
  have hne : ∀ {i : Nat} {t : TypeId} {cs : Array Value}, Whole w i t cs → b ≠ i := fun e => by
    rintro rfl
    obtain ⟨es', clock, hb', _⟩ := h.own
    unfold Whole at e
    rw [e] at hb'
    cases hb'
  have hk : KpB w w' := fun k es e => whole_grown e hg (hne e)
  refine ⟨whole_grown h.obj hg h.ne, hown, h.ag.del o, fun o' r' hm' => ?_, fun o' o2 r' hm' hm2 => ?_, fun o' ho' => ?_, h.bg, h.bb⟩
  · by_cases e : o' = o
    · subst e; rw [upd_same] at hm'; cases hm'
    · rw [upd_other _ _ e] at hm' ⊢
      obtain ⟨⟨ds, q, hr'⟩, hB'⟩ := h.ring o' r' hm'
      exact ⟨⟨ds, q, hr'.keep hk (whole_grown hr'.blk hg (hne hr'.blk))⟩, hB'⟩
  · by_cases e : o' = o
    · subst e; rw [upd_same] at hm'; cases hm'
    · by_cases e2 : o2 = o
      · subst e2; rw [upd_same] at hm2; cases hm2
      · rw [upd_other _ _ e] at hm'
        rw [upd_other _ _ e2] at hm2
        exact h.inj _ _ _ hm' hm2
  · by_cases e : o' = o
    · subst e; rw [upd_same] at ho'; exact absurd rfl ho'
    · rw [upd_other _ _ e] at ho'
      exact h.dom o' ho'

theorem YM.setFresh {w : World} {B g b last thrown N : Nat} {Y : Int → List Pk} {D : DataW Unit} {m : Int → Option Nat} (h : YM w B g b Y last thrown N D m) {R : Nat} {cs ds : Array Value} (hR : Whole w R 46 cs) : YM (w.setRow R ds) B g b Y last thrown N D m := by
  have hg : w.grownBy (w.setRow R ds) (some R) := grown_setRow w R ds
  have hk : KpB w (w.setRow R ds) := KpB.setRow hR (by decide)
  refine ⟨whole_grown h.obj hg (by rintro rfl; exact absurd (whole_type hR h.obj) (by decide)), h.own.kept hg (by
    intro e; injection e with e; subst e
    obtain ⟨es', clock, hb', _⟩ := h.own
    have := hR
    unfold Whole at this
    rw [this] at hb'
    cases hb'), h.ag, fun o r hm => ?_, h.inj, h.dom, h.bg, h.bb⟩
  obtain ⟨⟨cs', p, hr⟩, hB⟩ := h.ring o r hm
  exact ⟨⟨cs', p, hr.keep hk (whole_grown hr.blk hg (by rintro rfl; exact absurd (whole_type hR hr.blk) (by decide)))⟩, hB⟩
theorem Yk.setFresh {B : Nat} {w X : World} (h : Yk B w X) {R : Nat} (hR : w.heap.size ≤ R) (ds : Array Value) : Yk B w (X.setRow R ds) := by
  refine ⟨h.os, h.tape, h.output, by simp [World.setRow]; exact h.size, fun i hi hf => ?_⟩
  rw [setRow_other _ _ _ _ (by omega)]
  exact h.block i hi hf

set_option maxRecDepth 100000 in
set_option maxHeartbeats 1000000 in
theorem take_some {w : World} {B g b last thrown : Nat} {Y : Int → List Pk} (h : YW w B g b Y last thrown) (o : Int) (hok : okI o) (x : Pk) (L : List Pk) (hY : Y o = x :: L) : Calls Try.prog 16 #[.pointer (some ⟨g, 0, none⟩), .int .i64 o] w fun e w' => ∃ a, e = .returned (.tuple #[pkV a x, .bool true]) ∧ Whole w' a 5 (byteCells x.f x.len).toArray ∧ YW w' B g b (upd Y o L) last thrown ∧ Yk B w w' := by
  obtain ⟨D, m, h, hF⟩ := h
  obtain ⟨r, hm⟩ := hF.ring hY
  have hb0 : ∀ X, Below w.heap.size w X → YM X B g b Y last thrown last D m := fun X hX => h.below hX
  have HH := Lib.hid (show YM w B g b Y last thrown last D m ∧ Fits m Y ∧ m o = some r from ⟨h, hF, hm⟩)
  have hlen : (((Y o).length : Int) == 0) = false := by rw [beq_eq_false_iff_ne, hY, List.length_cons]; omega
  have hlen' : (((Y o).length : Int) = 0) = False := eq_false (by rw [hY, List.length_cons]; omega)
  have HWT := Lib.hid (fun X hX => waits_any (Y := Y) o hok ⟨D, m, hb0 X hX, hF⟩)
  obtain ⟨ln, hln⟩ : ∃ ln, (Y o).length = ln := ⟨_, rfl⟩
  rw [hln] at hlen hlen' HWT
  clear hln h hF hm
  go_enter Try.func16, Try.ntmps16
  go_upto_region 1 with fail
  refine cut_world (fun X => Whole X w.heap.size 46 zeroP.toArray ∧ Below w.heap.size w X) ⟨whole_new _ _ rfl, below_alloc (Below.refl _ _) _⟩ ?_
  rintro X ⟨x1, x2⟩
  have X1 := Lib.hid x1
  have X2 := Lib.hid x2
  have HX := Lib.hid (hb0 X x2)
  have HC := Lib.hid (HWT.out X x2)
  have c0 : X.cell? ⟨g, 0, none⟩ = some (.map (some b)) := HX.out.obj.cell 0
  have hlk := HX.out.look hok
  rw [HH.out.2.2] at hlk
  replace hlk : (Instr.lookup 39 (.map (some b)) (.int .i64 o) false).run Try.prog X = .ok (.pointer (some ⟨r, 0, none⟩)) X := hlk
  obtain ⟨⟨cs, p, hr0⟩, hBr⟩ := HX.out.ring o r HH.out.2.2
  rw [hY] at hr0
  have HT := Lib.hid (take_any r x L cs p X hr0)
  have hrg : r ≠ g := by intro k; subst k; exact absurd (whole_type HX.out.obj hr0.blk) (by decide)
  have hrR : r ≠ w.heap.size := by intro k; subst k; exact absurd (whole_type x1 hr0.blk) (by decide)
  obtain ⟨R, hR⟩ : ∃ R, w.heap.size = R := ⟨_, rfl⟩
  rw [hR] at X1 hrR ⊢
  have HR0 := Lib.hid hR
  clear x1 x2 hb0 HWT hr0 hR
  go_wp2_with fail
  refine HC.out.mono ?_
  rintro e w1 ⟨rfl, rfl⟩
  go_wp2_with fail
  refine HT.out.mono ?_
  rintro e w1 ⟨a, rfl, hbyt, hring1, hg1⟩
  have hres1 := whole_grown X1.out hg1 hrR
  have htw1 : Tw g r X w1 := Tw.grown hg1
  have hym1 := HX.out.tw HH.out.2.2 htw1 (whole_grown HX.out.obj hg1 hrg) hring1 (HX.out.dom o (by rw [hY]; simp)) (Nat.le_refl _)
  have hyk1 := Yk.tw HX.out HH.out.2.2 htw1
  have W1 := Lib.hid (show YM w1 B g b (upd Y o L) last thrown last D m ∧ Whole w1 R 46 zeroP.toArray ∧ Whole w1 a 5 (byteCells x.f x.len).toArray ∧ Yk B w w1 from ⟨hym1, hres1, hbyt, (Yk.of_below X2.out).trans hyk1⟩)
  clear hres1 htw1 hym1 hyk1 hg1 hring1 hbyt c0 hlk HX X1 X2 HT HC
  obtain ⟨Q, hQ⟩ : ∃ Q, (pkL a x).toArray = Q := ⟨_, rfl⟩
  have HQS := Lib.hid (show Q.size = 2 by rw [← hQ]; rfl)
  have HQO := Lib.hid (show Q.all (·.oneCell') = true by rw [← hQ]; exact pk_one a x)
  unfold pkV
  rw [hQ]
  go_upto_region 5 with (refine wpList_store_row rfl 46 (.tmp 7) (.tmp 20) rfl w1.heap.size Q rfl rfl 46 _ (Whole.new _ _ _) (by rw [HQS.out]; kernel_rfl) (by rw [HQS.out]; rfl) HQO.out ?_)
  refine cut_world (fun Z => TkW w B g b (upd Y o L) last thrown last D m R w1.heap.size a x Z) (by
    have hb : ∀ cs : Array Value, Below w1.heap.size w1 ((w1.alloc (.cells cs 46)).setRow w1.heap.size Q) := fun cs => below_setRow (below_alloc (Below.refl _ _) _) (Nat.le_refl _) _
    refine ⟨W1.out.1.below (hb _), W1.out.2.1.below (hb _) W1.out.2.1.lt, ?_, W1.out.2.2.1.below (hb _) W1.out.2.2.1.lt, W1.out.2.2.2.trans (Yk.of_below (hb _))⟩
    rw [hQ]
    exact setRow_heap _ _ _ _ _ _ (Whole.new _ _ _)) ?_
  intro Z hZ
  have HZ := Lib.hid hZ
  obtain ⟨V, hV⟩ : ∃ V, w1.heap.size = V := ⟨_, rfl⟩
  rw [hV] at HZ ⊢
  have hVR : R < V := by have := W1.out.2.1.lt; omega
  clear hZ hV W1 HQS HQO hQ
  clear w1
  have c17 := HZ.out.ym.count HH.out.2.2
  rw [upd_same] at c17
  have c0 : Z.cell? ⟨g, 0, none⟩ = some (.map (some b)) := HZ.out.ym.obj.cell 0
  rcases L with _ | ⟨y, L⟩
  · have c17 : Z.cell? ⟨r, 17, none⟩ = some (.int .i64 0) := c17
    go_upto_region 7 with (refine wpList_delete_own _ rfl (.tmp 29) (.tmp 30) 39 3 rfl 63 keyedI Try.underlying39 ptrR b last D rfl HZ.out.ym.own _ (keyO o) rfl (key_int hok) ?_; intro w3 hown3 hturn3)
    have hg3 : Z.grownBy w3 (some b) := by
      have h := hturn3.grown
      exact ⟨h.os, h.tape, h.output, h.size, h.block⟩
    have hym3 := HZ.out.ym.drop o hown3 hg3
    rw [upd_twice] at hym3
    have hyk3 := HZ.out.yk.trans (Yk.map hg3 HZ.out.ym.own HZ.out.ym.bb)
    have hk3 := Yk.map hg3 HZ.out.ym.own HZ.out.ym.bb
    have HZ3 := Lib.hid (show TkW w B g b (upd Y o []) last thrown last (D.del (keyO o)) (upd m o none) R V a x w3 from ⟨hym3, hk3.whole HZ.out.res (by decide) (by decide), hk3.whole HZ.out.got (by decide) (by decide), hk3.whole HZ.out.byt (by decide) (by decide), hyk3⟩)
    clear hg3 hym3 hyk3 hk3 hown3 hturn3 HZ c17 c0
    obtain ⟨Z, hZe⟩ : ∃ Z, w3 = Z := ⟨_, rfl⟩
    rw [hZe] at HZ3 ⊢
    obtain ⟨Q, hQ⟩ : ∃ Q, (pkL a x).toArray = Q := ⟨_, rfl⟩
    have HQS := Lib.hid (show Q.size = 2 by rw [← hQ]; rfl)
    have HQO := Lib.hid (show Q.all (·.oneCell') = true by rw [← hQ]; exact pk_one a x)
    have HG := Lib.hid (show Whole Z V 46 Q by rw [← hQ]; exact HZ3.out.got)
    have HR := Lib.hid (show Whole Z R 46 zeroP.toArray from HZ3.out.res)
    have HQ := Lib.hid hQ
    clear hQ
    go_wp2_with (first | (refine wpList_load_row rfl 46 (.tmp 7) rfl V rfl 46 Q (0, 0) _ HG.out rfl rfl (by rw [HQS.out]; kernel_rfl) ?_) | (refine wpList_store_row rfl 46 (.tmp 4) (.tmp 31) rfl R Q rfl rfl 46 _ HR.out (by rw [HQS.out]; kernel_rfl) (by rw [HQS.out]; rfl) HQO.out ?_))
    have hret : Whole (Z.setRow R Q) R 46 Q := setRow_heap _ _ _ _ _ _ HR.out
    refine bodyPost_ret (Poly.results_cell_tmp rfl _ _ R 46 Q.toList _ rfl (by simpa using hret) rfl rfl (by rw [Array.length_toList, HQS.out]; kernel_rfl)) rfl ?_
    refine ⟨a, by rw [← HQ.out]; simp [pkV], ?_, ⟨_, _, HZ3.out.ym.setFresh HZ3.out.res, HH.out.2.1.del o⟩, HZ3.out.yk.setFresh (by rw [HR0.out]; exact Nat.le_refl _) _⟩
    exact Whole.farRow HZ3.out.byt (by rintro rfl; exact absurd (whole_type HZ3.out.byt HZ3.out.res) (by decide)) _
  · have c17 : Z.cell? ⟨r, 17, none⟩ = some (.int .i64 ((L.length + 1 : Nat) : Int)) := c17
    have hl2 : (((L.length + 1 : Nat) : Int) == 0) = false := by rw [beq_eq_false_iff_ne]; omega
    have hl3 : ((L.length : Int) + 1 = 0) = False := eq_false (by omega)
    have hl4 : ((L.length : Int) + 1 == 0) = false := by rw [beq_eq_false_iff_ne]; omega
    go_upto_region 7 with fail
    clear c17 c0 hl2 hl3 hl4
    obtain ⟨Q, hQ⟩ : ∃ Q, (pkL a x).toArray = Q := ⟨_, rfl⟩
    have HQS := Lib.hid (show Q.size = 2 by rw [← hQ]; rfl)
    have HQO := Lib.hid (show Q.all (·.oneCell') = true by rw [← hQ]; exact pk_one a x)
    have HG := Lib.hid (show Whole Z V 46 Q by rw [← hQ]; exact HZ.out.got)
    have HR := Lib.hid (show Whole Z R 46 zeroP.toArray from HZ.out.res)
    have HQ := Lib.hid hQ
    clear hQ
    go_wp2_with (first | (refine wpList_load_row rfl 46 (.tmp 7) rfl V rfl 46 Q (0, 0) _ HG.out rfl rfl (by rw [HQS.out]; kernel_rfl) ?_) | (refine wpList_store_row rfl 46 (.tmp 4) (.tmp 31) rfl R Q rfl rfl 46 _ HR.out (by rw [HQS.out]; kernel_rfl) (by rw [HQS.out]; rfl) HQO.out ?_))
    have hret : Whole (Z.setRow R Q) R 46 Q := setRow_heap _ _ _ _ _ _ HR.out
    refine bodyPost_ret (Poly.results_cell_tmp rfl _ _ R 46 Q.toList _ rfl (by simpa using hret) rfl rfl (by rw [Array.length_toList, HQS.out]; kernel_rfl)) rfl ?_
    refine ⟨a, by rw [← HQ.out]; simp [pkV], ?_, ⟨_, _, HZ.out.ym.setFresh HZ.out.res, HH.out.2.1.upd HH.out.2.2 (by simp)⟩, HZ.out.yk.setFresh (by rw [HR0.out]; exact Nat.le_refl _) _⟩
    exact Whole.farRow HZ.out.byt (by rintro rfl; exact absurd (whole_type HZ.out.byt HZ.out.res) (by decide)) _
end Yd
end Go.Proofs.Ytbmabfnjjflbnaa
