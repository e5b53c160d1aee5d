/- Package slots: Count, Ready, Tired. -/
import Derived.Test.YtdhjgenijieeaaaSlCount
namespace Go.Proofs.Ytdhjgenijieeaaa
namespace Sl
open Go.ChangeShapes Go.WideShapes Go.ChangeAt Go.RowKit
open Num Mem Words Chacha Aead Poly Ops Quiet WinT Win Pr RowS

set_option maxRecDepth 100000 in
set_option maxHeartbeats 4000000 in
theorem count_any (x : SS) (w : World) : Calls Try.prog 12 #[slV x] w fun e w' => e = .returned (.int .i64 ((nums x).length : Nat)) ∧ Below w.heap.size w w' := by
  have HIN := Lib.hid (indices_any x)
  unfold slV at HIN ⊢
  have HSZ := Lib.hid (And.intro (slL_length x) (sl_one x))
  obtain ⟨L, hL⟩ : ∃ L, slL x = L := ⟨_, rfl⟩
  rw [hL] at HSZ HIN ⊢
  obtain ⟨n, hn⟩ : ∃ n, (nums x).length = n := ⟨_, rfl⟩
  rw [hn] at HIN ⊢
  clear hL hn
  go_enter Try.func12, Try.ntmps12
  go_upto_region 1 with fail
  refine cut_world (fun X => Whole X w.heap.size 36 L.toArray ∧ Below w.heap.size w X) ⟨Whole.new _ _ _, below_alloc (Below.refl _ _) _⟩ ?_
  rintro X hX
  have HX := Lib.hid hX
  clear hX
  go_wp2_with (first
    | (refine wpList_load_row rfl 36 (.tmp 1) rfl w.heap.size rfl 36 L.toArray (0, 0) _ HX.out.1 rfl rfl (by rw [List.size_toArray, HSZ.out.1]; kernel_rfl) ?_)
    | (go_at_call 22; refine (HIN.out _).mono ?_; rintro e X1 ⟨A, rfl, hb1⟩; have HX1 := Lib.hid (HX.out.2.trans (hb1.mono HX.out.2.size)); clear hb1))
  go_ret
  exact ⟨rfl, HX1.out⟩
def readyB (x : SS) (t : Int) : Bool := x.hc && (!oldB x.c t && decide (x.c.sent < spent))
theorem sent_c {w : World} {B : Nat} {T : TypeId} {x : SS} (h : Whole w B T (slL x).toArray) : w.cell? ⟨B, 143, none⟩ = some (.int .u64 (x.c.sent : Nat)) := at_c h 68 _ (by have := pair_tail x.c 4; rw [List.getElem?_toArray] at this; exact this)
set_option maxRecDepth 100000 in
set_option maxHeartbeats 4000000 in
theorem ready_any (x : SS) (t : Int) (h0 : -9223372036854775808 ≤ t) (h1 : t ≤ 9223372036854775807) (w : World) : Calls Try.prog 13 #[slV x, .int .i64 t] w fun e w' => e = .returned (.bool (readyB x t)) ∧ Below w.heap.size w w' := by
  have HOLD := Lib.hid (fun w => old_any x.c t h0 h1 w)
  unfold slV pairV at *
  obtain ⟨ob, hob⟩ : ∃ b, oldB x.c t = b := ⟨_, rfl⟩
  obtain ⟨hb, hhb⟩ : ∃ b, x.hc = b := ⟨_, rfl⟩
  obtain ⟨R, hR⟩ : ∃ R, readyB x t = R := ⟨_, rfl⟩
  rw [hR]
  have HR := Lib.hid (show R = (hb && (!ob && decide (x.c.sent < spent))) from by rw [← hR, ← hob, ← hhb]; rfl)
  have HCC := Lib.hid (show ∀ V B, Whole V B 36 (slL x).toArray → V.cell? ⟨B, 1, none⟩ = some (.bool hb) ∧ V.rangeAt B 75 (pairL x.c) ∧ V.cell? ⟨B, 143, none⟩ = some (.int .u64 (x.c.sent : Nat)) from fun V B h => ⟨by rw [← hhb]; exact at_hc h, at_c h, sent_c h⟩)
  have HPL := Lib.hid (pairL_length x.c)
  have HSP := Lib.hid (show decide (((x.c.sent : Nat) : Int) < 18446744073709543423) = decide (x.c.sent < spent) from by
    rw [decide_eq_decide]; show _ ↔ x.c.sent < 18446744073709543423; omega)
  rw [hob] at HOLD
  obtain ⟨PL, hPL⟩ : ∃ L, pairL x.c = L := ⟨_, rfl⟩
  rw [hPL] at HOLD HCC HPL
  obtain ⟨S, hS⟩ : ∃ S : Int, ((x.c.sent : Nat) : Int) = S := ⟨_, rfl⟩
  rw [hS] at HCC HSP
  obtain ⟨sb, hsb⟩ : ∃ b, decide (x.c.sent < spent) = b := ⟨_, rfl⟩
  rw [hsb] at HR HSP
  obtain ⟨L, hL⟩ : ∃ L, slL x = L := ⟨_, rfl⟩
  rw [hL] at HCC ⊢
  clear hob hhb hR hPL hS hsb hL h0 h1
  go_enter Try.func13, Try.ntmps13
  go_upto_region 1 with fail
  refine cut_world (fun X => Whole X w.heap.size 36 L.toArray ∧ Below w.heap.size w X) ⟨Whole.new _ _ _, below_alloc (Below.refl _ _) _⟩ ?_
  rintro X hX
  have HX := Lib.hid hX
  clear hX
  have cb := (HCC.out _ _ HX.out.1).1
  have hsp := HSP.out
  cases hb with
  | false =>
    go_wp2_with fail
    go_ret
    exact ⟨by rw [HR.out]; rfl, HX.out.2⟩
  | true =>
    go_wp2_with (refine Ops.wpList_value_if (by rfl) (.agg PL.toArray) (run_mid_in 34 (.tmp 8) rfl w.heap.size 75 rfl PL _ (HCC.out _ _ HX.out.1).2.1 rfl rfl (by rw [HPL.out]; kernel_rfl)) ?_)
    refine (HOLD.out _).mono ?_
    rintro e X1 ⟨rfl, hb1⟩
    have HX1 := Lib.hid (show Whole X1 w.heap.size 36 L.toArray ∧ Below w.heap.size w X1 from ⟨HX.out.1.below hb1 HX.out.1.lt, HX.out.2.trans (hb1.mono HX.out.2.size)⟩)
    clear hb1
    have cs := (HCC.out _ _ HX1.out.1).2.2
    cases ob with
    | true =>
      go_wp2_with fail
      go_ret
      exact ⟨by rw [HR.out]; rfl, HX1.out.2⟩
    | false =>
      go_wp2_with fail
      go_ret
      exact ⟨by rw [HR.out]; cases sb <;> rfl, HX1.out.2⟩
set_option maxRecDepth 100000 in
set_option maxHeartbeats 4000000 in
/-- who is too old is tired -/
theorem ptired_old (p : PS) (t : Int) (h0 : -9223372036854775808 ≤ t) (h1 : t ≤ 9223372036854775807) (ho : oldB p t = true) (w : World) :
    Calls Try.prog 23 #[pairV p, .int .i64 t] w fun e w' => e = .returned (.bool true) ∧ Below w.heap.size w w' := by
  have HR := Lib.hid (fun w => old_any p t h0 h1 w)
  rw [ho] at HR
  unfold pairV at HR ⊢
  obtain ⟨S, hS⟩ : ∃ S : Int, (p.sent : Int) = S := ⟨_, rfl⟩
  have HS := Lib.hid (show (pairL p).length = 72 from pairL_length p)
  have HB1 := Lib.hid (show ∀ X B, Whole X B 34 (pairL p).toArray → X.cell? ⟨B, 68, none⟩ = some (.int .u64 S) from fun X B h => by rw [at_sent h, hS])
  obtain ⟨L, hL⟩ : ∃ L, pairL p = L := ⟨_, rfl⟩
  rw [hL] at HB1 HR HS ⊢
  clear hL hS ho h0 h1
  obtain ⟨g, hg⟩ : ∃ g, decide ((1152921504606846976 : Int) ≤ S) = g := ⟨_, rfl⟩
  go_enter Try.func23, Try.ntmps23
  go_upto_region 1 with fail
  refine cut_world (fun X => Whole X w.heap.size 34 L.toArray ∧ Below w.heap.size w X) ⟨Whole.new _ _ _, below_alloc (Below.refl _ _) _⟩ ?_
  rintro W hW
  have HW := Lib.hid hW
  clear hW
  have c1 := HB1.out _ _ HW.out.1
  cases g with
  | true =>
    go_wp2_with fail
    go_ret
    exact ⟨rfl, HW.out.2⟩
  | false =>
    go_wp2_with (first
      | (refine Poly.wpList_load_row_if rfl 34 (.tmp 2) rfl w.heap.size rfl 34 L _ HW.out.1 rfl rfl (by rw [HS.out]; kernel_rfl) ?_)
      | (go_at_call 21; refine (HR.out _).mono ?_; rintro e w1 ⟨rfl, hb1⟩; have HW1 := Lib.hid (HW.out.2.trans (hb1.mono HW.out.2.size)); clear hb1))
    go_ret
    exact ⟨rfl, HW1.out⟩
set_option maxRecDepth 100000 in
set_option maxHeartbeats 4000000 in
/-- slots of which each pair is too old are tired -/
theorem tired_old (x : SS) (t : Int) (h0 : -9223372036854775808 ≤ t) (h1 : t ≤ 9223372036854775807) (ho : x.hc = true → oldB x.c t = true) (w : World) : Calls Try.prog 14 #[slV x, .int .i64 t] w fun e w' => e = .returned (.bool true) ∧ Below w.heap.size w w' := by
  have HTI := Lib.hid (fun (h : x.hc = true) w => ptired_old x.c t h0 h1 (ho h) w)
  unfold slV pairV at *
  obtain ⟨hb, hhb⟩ : ∃ b, x.hc = b := ⟨_, rfl⟩
  have HCC := Lib.hid (show ∀ V B, Whole V B 36 (slL x).toArray → V.cell? ⟨B, 1, none⟩ = some (.bool hb) ∧ V.rangeAt B 75 (pairL x.c) from fun V B h => ⟨by rw [← hhb]; exact at_hc h, at_c h⟩)
  have HPL := Lib.hid (pairL_length x.c)
  rw [hhb] at HTI
  obtain ⟨PL, hPL⟩ : ∃ L, pairL x.c = L := ⟨_, rfl⟩
  rw [hPL] at HTI HCC HPL
  obtain ⟨L, hL⟩ : ∃ L, slL x = L := ⟨_, rfl⟩
  rw [hL] at HCC ⊢
  clear hhb hPL hL h0 h1 ho
  go_enter Try.func14, Try.ntmps14
  go_upto_region 1 with fail
  refine cut_world (fun X => Whole X w.heap.size 36 L.toArray ∧ Below w.heap.size w X) ⟨Whole.new _ _ _, below_alloc (Below.refl _ _) _⟩ ?_
  rintro X hX
  have HX := Lib.hid hX
  clear hX
  have cb := (HCC.out _ _ HX.out.1).1
  cases hb with
  | false =>
    go_wp2_with fail
    go_ret
    exact ⟨rfl, HX.out.2⟩
  | true =>
    go_wp2_with (refine Ops.wpList_value_if (by rfl) (.agg PL.toArray) (run_mid_in 34 (.tmp 9) rfl w.heap.size 75 rfl PL _ (HCC.out _ _ HX.out.1).2 rfl rfl (by rw [HPL.out]; kernel_rfl)) ?_)
    refine (HTI.out (by trivial) _).mono ?_
    rintro e X1 ⟨rfl, hb1⟩
    have HX1 := Lib.hid (HX.out.2.trans (hb1.mono HX.out.2.size))
    clear hb1
    go_wp2_with fail
    go_ret
    exact ⟨rfl, HX1.out⟩
end Sl
end Go.Proofs.Ytdhjgenijieeaaa
