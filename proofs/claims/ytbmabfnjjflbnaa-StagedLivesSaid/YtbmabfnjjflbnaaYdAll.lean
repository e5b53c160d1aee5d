/- Package staged: Drop, All. -/
import Derived.Test.YtbmabfnjjflbnaaYdTakeY
namespace Go.Proofs.Ytbmabfnjjflbnaa
namespace Yd
open Go.ChangeShapes Go.WideShapes Go.ChangeAt Go.RowKit Go.Maps
open Num Mem Words Chacha Aead Poly Quiet RowV

theorem YM.setThrown {w : World} {B g b last thrown N : Nat} {Y : Int → List Pk} {D : DataW Unit} {m : Int → Option Nat} (h : YM w B g b Y last thrown N D m) (t : Nat) : YM (w.setCell ⟨g, 2, none⟩ (.int .u64 (t : Nat))) B g b Y last t N D m := by
  have hg := grown_set1 w g 2 (.int .u64 (t : Nat))
  have hk : KpB w (w.setCell ⟨g, 2, none⟩ (.int .u64 (t : Nat))) := KpB.grown hg h.obj (by decide)
  refine ⟨h.obj.put 2 _, h.own.kept hg (fun e => h.ne (Option.some.inj e)), h.ag, fun o r hm => ?_, h.inj, h.dom, h.bg, h.bb⟩
  obtain ⟨⟨cs', p, hr⟩, hB⟩ := h.ring o r hm
  exact ⟨⟨cs', p, hr.keep hk (whole_grown hr.blk hg (by rintro rfl; exact absurd (whole_type h.obj hr.blk) (by decide)))⟩, hB⟩

set_option maxRecDepth 100000 in
theorem drop_nil (o : Int) (w : World) : Calls Try.prog 18 #[.pointer none, .int .i64 o] w fun e w' => e = .returned (.int .i64 0) ∧ w = w' := by
  have HC := Lib.hid (waits_nil o w)
  go_enter Try.func18, Try.ntmps18
  go_wp2_with fail
  refine HC.out.mono ?_
  rintro e w1 ⟨rfl, rfl⟩
  go_wp2_with fail
  go_ret
  exact ⟨rfl, rfl⟩
set_option maxRecDepth 100000 in
theorem drop_zero (g : Nat) (x y : Value) (o : Int) (w : World) (h : Whole w g 41 #[.map none, x, y]) : Calls Try.prog 18 #[.pointer (some ⟨g, 0, none⟩), .int .i64 o] w fun e w' => e = .returned (.int .i64 0) ∧ w = w' := by
  have HC := Lib.hid (waits_zero g x y o w h)
  clear h
  go_enter Try.func18, Try.ntmps18
  go_wp2_with fail
  refine HC.out.mono ?_
  rintro e w1 ⟨rfl, rfl⟩
  go_wp2_with fail
  go_ret
  exact ⟨rfl, rfl⟩
set_option maxRecDepth 100000 in
theorem drop_none {w : World} {B g b last thrown : Nat} {Y : Int → List Pk} (h : YW w B g b Y last thrown) (o : Int) (hok : okI o) (hY : Y o = []) : Calls Try.prog 18 #[.pointer (some ⟨g, 0, none⟩), .int .i64 o] w fun e w' => e = .returned (.int .i64 0) ∧ w = w' := by
  have HC := Lib.hid (show Calls Try.prog 11 #[.pointer (some ⟨g, 0, none⟩), .int .i64 o] w fun e w' => e = .returned (.int .i64 0) ∧ w = w' from (waits_any o hok h).mono (fun e w' k => ⟨by rw [k.1, hY]; rfl, k.2⟩))
  clear h hY hok
  go_enter Try.func18, Try.ntmps18
  go_wp2_with fail
  refine HC.out.mono ?_
  rintro e w1 ⟨rfl, rfl⟩
  go_wp2_with fail
  go_ret
  exact ⟨rfl, rfl⟩
set_option maxRecDepth 100000 in
theorem drop_some {w : World} {B g b last thrown : Nat} {Y : Int → List Pk} (h : YW w B g b Y last thrown) (o : Int) (hok : okI o) (x : Pk) (L : List Pk) (hY : Y o = x :: L) (ht : thrown < 1000000) : Calls Try.prog 18 #[.pointer (some ⟨g, 0, none⟩), .int .i64 o] w fun e w' => e = .returned (.int .i64 ((Y o).length : Nat)) ∧ YW w' B g b (upd Y o []) last (thrown + (Y o).length) ∧ Yk B w w' := by
  have HC := Lib.hid (waits_any o hok h)
  have hfew := h.few o
  have hpos : 0 < (Y o).length := by rw [hY, List.length_cons]; omega
  obtain ⟨D, m, h, hF⟩ := h
  have H := Lib.hid h
  have HF := Lib.hid hF
  have c0 : w.cell? ⟨g, 0, none⟩ = some (.map (some b)) := h.obj.cell 0
  obtain ⟨n, hn⟩ : ∃ n, (Y o).length = n := ⟨_, rfl⟩
  rw [hn] at HC hfew hpos ⊢
  have hd : decide ((0 : Int) < (n : Int)) = true := decide_eq_true (by omega)
  have hd2 : (0 : Int) < (n : Int) := by omega
  have hcv : IntKind.u64.wrap (n : Int) = (n : Int) := by rw [IntKind.wrap_u64]; omega
  clear h hF hn
  go_enter Try.func18, Try.ntmps18
  go_wp2_with fail
  refine HC.out.mono ?_
  rintro e w1 ⟨rfl, rfl⟩
  go_upto_region 4 with (refine wpList_delete_own _ rfl (.tmp 14) (.tmp 15) 39 3 rfl 63 keyedI Try.underlying39 ptrR b last D rfl H.out.own _ (keyO o) rfl (key_int hok) ?_; intro w3 hown3 hturn3)
  have hg3 : w.grownBy w3 (some b) := by
    have h := hturn3.grown
    exact ⟨h.os, h.tape, h.output, h.size, h.block⟩
  have hym3 := H.out.drop o hown3 hg3
  have HY3 := Lib.hid hym3
  have HK3 := Lib.hid (Yk.map hg3 H.out.own H.out.bb)
  have c2 : w3.cell? ⟨g, 2, none⟩ = some (.int .u64 (thrown : Nat)) := hym3.obj.cell 2
  have f2 : w3.frozen? ⟨g, 2, none⟩ = false := hym3.obj.free 2
  have hs : IntKind.u64.wrap ((thrown : Int) + (n : Int)) = (thrown : Int) + (n : Int) := by rw [IntKind.wrap_u64]; omega
  clear hown3 hturn3 hg3 hym3 c0 HC
  go_wp2_with fail
  go_ret
  have e : (thrown : Int) + (n : Int) = ((thrown + n : Nat) : Int) := by omega
  rw [e]
  exact ⟨rfl, ⟨_, _, HY3.out.setThrown (thrown + n), HF.out.del o⟩, HK3.out.trans (Yk.cells (grown_set1 w3 g 2 _) HY3.out.obj H.out.bg (.inr rfl))⟩

set_option maxRecDepth 100000 in
theorem all_nil (w : World) : Calls Try.prog 13 #[.pointer none] w fun e w' => e = .returned (.int .i64 0) ∧ w = w' := by
  have HC := Lib.hid (none_nil w)
  go_enter Try.func13, Try.ntmps13
  go_wp2_with fail
  refine HC.out.mono ?_
  rintro e w1 ⟨rfl, rfl⟩
  go_wp2_with fail
  go_ret
  exact ⟨rfl, rfl⟩
set_option maxRecDepth 100000 in
theorem all_zero (g : Nat) (x y : Value) (w : World) (h : Whole w g 41 #[.map none, x, y]) : Calls Try.prog 13 #[.pointer (some ⟨g, 0, none⟩)] w fun e w' => e = .returned (.int .i64 0) ∧ w = w' := by
  have HC := Lib.hid (none_zero g x y w h)
  clear h
  go_enter Try.func13, Try.ntmps13
  go_wp2_with fail
  refine HC.out.mono ?_
  rintro e w1 ⟨rfl, rfl⟩
  go_wp2_with fail
  go_ret
  exact ⟨rfl, rfl⟩

/-- what has been counted when some are left -/
def seen (Y : Int → List Pk) (left : Lit → Bool) (o : Int) : Nat := if left (keyO o) = true then 0 else (Y o).length
def allN (Y : Int → List Pk) : Nat := sum16 fun o => (Y o).length
theorem seen_start {D : DataW Unit} {m : Int → Option Nat} {Y : Int → List Pk} (ha : PAg D m) (hF : Fits m Y) : sum16 (seen Y (Maps.has D)) = 0 := by
  have e : seen Y (Maps.has D) = fun _ => 0 := by
    funext o
    unfold seen
    rw [ha.hs]
    rcases hm : m o with _ | r
    · rw [hF.none_ hm]; rfl
    · rfl
  rw [e]
  rfl
theorem seen_end {Y : Int → List Pk} {left : Lit → Bool} (h : ∀ k, left k = false) : sum16 (seen Y left) = allN Y := by
  have e : seen Y left = fun o => (Y o).length := by
    funext o
    unfold seen
    rw [h, if_neg (by simp)]
  rw [e]
  rfl
theorem seen_step {Y : Int → List Pk} {left : Lit → Bool} {x : Int} (hl : left (keyO x) = true) (h1 : 1 ≤ x) (h2 : x ≤ 16) : sum16 (seen Y (fun z => left z && !z.sameKey (keyO x))) = sum16 (seen Y left) + (Y x).length := by
  have e : seen Y (fun z => left z && !z.sameKey (keyO x)) = upd (seen Y left) x (Y x).length := by
    funext o
    unfold seen
    by_cases ho : o = x
    · subst ho
      rw [upd_same]
      have : (keyO o).sameKey (keyO o) = true := by simp [keyO, Lit.sameKey]
      simp [this]
    · rw [upd_other _ _ ho]
      simp [sameKey_ne (keyO_ne ho)]
  have e2 : seen Y left x = 0 := by unfold seen; rw [hl, if_pos rfl]
  have := sum16_upd (seen Y left) x h1 h2 (Y x).length
  rw [e2] at this
  rw [e]
  omega
theorem seen_le {Y : Int → List Pk} (h : ∀ o, (Y o).length ≤ 8) (left : Lit → Bool) : sum16 (seen Y left) ≤ 128 := by
  have : ∀ o, seen Y left o ≤ 8 := fun o => by
    unfold seen
    split
    · omega
    · exact h o
  exact sumN_le this 16

structure AllW (w : World) (B g b : Nat) (Y : Int → List Pk) (last thrown : Nat) (D : DataW Unit) (m : Int → Option Nat) (r : Nat) (left : Lit → Bool) (cnt : Nat) (wr : World) : Prop where
  bel : Below w.heap.size w wr
  rg : wr.ranges Try.prog 3 ptrR b r last D left cnt
  has : ∀ o, left (keyO o) = true → (m o).isSome = true
set_option maxRecDepth 100000 in
set_option maxHeartbeats 1000000 in
theorem all_any {w : World} {B g b last thrown : Nat} {Y : Int → List Pk} (h : YW w B g b Y last thrown) : Calls Try.prog 13 #[.pointer (some ⟨g, 0, none⟩)] w fun e w' => e = .returned (.int .i64 (allN Y : Nat)) ∧ Below w.heap.size w w' := by
  have hfew := h.few
  obtain ⟨D, m, h, hF⟩ := h
  have HC := Lib.hid (none_some g b _ _ w h.obj)
  have c0 : w.cell? ⟨g, 0, none⟩ = some (.map (some b)) := h.obj.cell 0
  have H := Lib.hid h
  have HF := Lib.hid hF
  have HFW := Lib.hid hfew
  clear h hF hfew
  go_enter Try.func13, Try.ntmps13
  go_wp2_with fail
  refine HC.out.mono ?_
  rintro e w1 ⟨rfl, rfl⟩
  go_wp2_with (at_range; refine wpList_range_own _ rfl _ 39 rfl 3 63 keyedI Try.underlying39 _ b last D rfl H.out.own ?_; intro w0 hrg0 hg0 hs0)
  go_frame
  have H0 := Lib.hid (show AllW w B g b Y last thrown D m w.heap.size (Maps.has D) (Maps.size D) w0 from ⟨⟨hg0.os, hg0.tape, hg0.output, hg0.size, fun i hi => hg0.block i hi (by simp)⟩, hrg0, fun o ho => by rw [← H.out.ag.hs]; exact ho⟩)
  have HS0 := Lib.hid (seen_start H.out.ag HF.out)
  clear hrg0 hg0 hs0 c0 HC
  go_loopw [3, 5] (fun n _ wr => ∃ left cnt, n = .int .i64 (sum16 (seen Y left) : Nat) ∧ AllW w B g b Y last thrown D m w.heap.size left cnt wr) (fun _ _ wr => wr.rangeLeft b w.heap.size)
  case atStart => exact ⟨_, _, by rw [HS0.out]; rfl, H0.out⟩
  case round =>
    obtain ⟨left, cnt, rfl, hR⟩ := hrel
    have HR := Lib.hid hR
    clear hR H0 HS0
    go_wp2_with (at_next; refine wpList_next_ranges _ rfl _ rfl 3 keyedI ptrR (fun x : Int => .int .i64 x) ptrV (fun key kl h => by obtain ⟨x, e, _⟩ := Maps.keyOf_int_inv Try.underlying3 h; exact ⟨x, e⟩) (fun v y h => by obtain ⟨q, e, _⟩ := ptrR_inv h; exact ⟨q, e⟩) b w.heap.size last D left cnt rfl HR.out.rg ?_ ?_)
    · intro _ hl0
      have HE := Lib.hid (seen_end (Y := Y) hl0)
      have HB := Lib.hid HR.out.bel
      clear hl0 HR
      go_wp2_with fail
      go_ret
      exact ⟨by rw [← HE.out]; rfl, HB.out⟩
    · intro x q kl yd yp wr1 cnt1 hkey hlk hy hat hrg1 hlt hg1 hs1 hen
      obtain ⟨x', ex, rfl, hwx⟩ := Maps.keyOf_int_inv Try.underlying3 hkey
      injection ex with _ ex
      subst ex
      have hs := HR.out.has x hlk
      obtain ⟨r, hm⟩ := Option.isSome_iff_exists.1 hs
      have hq : q = some r := by
        have h1 := hat (ptrD none)
        have h2 := H.out.ag.at_ x
        unfold keyO at h2
        rw [h2, hm] at h1
        rw [ptrR_mk] at hy
        injection hy with hy
        injection hy with hy
        rw [← hy] at h1
        exact (ptrD_inj h1).symm
      subst hq
      have hYx : Y x ≠ [] := (HF.out x).1 hs
      have hdom := H.out.dom x hYx
      have hst := seen_step (Y := Y) (left := left) (x := x) hlk hdom.1 hdom.2
      have hle := seen_le HFW.out left
      have h8 := HFW.out x
      have hb1 : Below w.heap.size w wr1 := ⟨hg1.os.trans HR.out.bel.os, hg1.tape.trans HR.out.bel.tape, hg1.output.trans HR.out.bel.output, Nat.le_trans HR.out.bel.size hg1.size, fun i hi => (hg1.block i (Nat.lt_of_lt_of_le hi HR.out.bel.size) (by intro e; injection e with e; omega)).trans (HR.out.bel.block i hi)⟩
      have c17 := (H.out.below hb1).count hm
      have HR1 := Lib.hid (show AllW w B g b Y last thrown D m w.heap.size (fun z => left z && !z.sameKey (keyO x)) cnt1 wr1 from ⟨hb1, hrg1, fun o ho => HR.out.has o (by rw [Bool.and_eq_true] at ho; exact ho.1)⟩)
      have HLT := Lib.hid hlt
      have HST := Lib.hid hst
      generalize sum16 (seen Y left) = s at *
      generalize (Y x).length = k at c17 HST h8 ⊢
      have hw1 : IntKind.i64.wrap ((s : Int) + (k : Int)) = (s : Int) + (k : Int) := by rw [IntKind.wrap_i64]; omega
      clear hkey hlk hy hat hrg1 hlt hg1 hs1 hst hb1
      simp only [ptrV] at hen ⊢
      go_wp2_with fail
      go_round
      case rel => exact ⟨_, _, by rw [HST.out]; congr 1, HR1.out⟩
      case measure => rw [HR1.out.rg.left_eq, HR.out.rg.left_eq]; exact HLT.out
end Yd
end Go.Proofs.Ytbmabfnjjflbnaa
