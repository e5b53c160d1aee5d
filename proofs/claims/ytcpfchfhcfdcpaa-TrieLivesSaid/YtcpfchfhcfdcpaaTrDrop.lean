/- Package trie: Drop. -/
import Derived.Test.YtcpfchfhcfdcpaaTrPut
namespace Go.Proofs.Ytcpfchfhcfdcpaa
namespace Tri
open Go.ChangeShapes Go.WideShapes Go.ChangeAt Go.RowKit
open Num Mem Words Chacha Aead Poly Quiet Ops Adr

set_option maxRecDepth 100000 in
set_option maxHeartbeats 8000000 in
theorem drop_any {A : Nat → Prop} {w : World} {ta tb : Tr} {q : Option Nat} (h : IsTrie A w ta tb q) (oka : ta.Ok) (okb : tb.Ok) (s : Bool) (g : Nat → Nat) (hg : ∀ i, g i < 256) (z : Int) (hz0 : -9223372036854775808 ≤ z) (hz1 : z ≤ 9223372036854775807) :
    Calls Try.prog 22 #[ptrV q, .agg (prefL s g z).toArray] w fun e w' => ∃ k, e = .returned (.tuple #[ptrV k, .int .i64 (dropE s g z ta tb : Nat)]) ∧ Below w.heap.size w w' ∧ (dropE s g z ta tb ≠ 0 → k = none) ∧
      (dropE s g z ta tb = 0 → ∃ r, k = some r ∧ IsTrie (fun _ => True) w' (delA s (bs g z.toNat) ta) (delB s (bs g z.toNat) tb) (some r)) := by
  have HPL := Lib.hid (prefL_length s g z)
  have HRP := Lib.hid (fun X => rightP_any s g hg z hz0 hz1 X)
  have HGET := Lib.hid (show ∀ X, Below w.heap.size w X → _ from fun X hX => get_any (h.here.low hX) oka okb s g hg z)
  have HCOP := Lib.hid (show ∀ X, Below w.heap.size w X → _ from fun X hX => copied_any (h.here.low hX))
  have HREM := Lib.hid (show rightPB s g z = true → getB (holdR s g ta tb) s g z = true → ∀ X O k0 k1, Whole X O 81 #[ptrV k0, ptrV k1] → T0 X false ta k0 → T0 X true tb k1 → Calls Try.prog 38 #[.pointer (some ⟨O, 0, none⟩), .agg (prefL s g z).toArray] X fun e Y => e = .returned (.tuple #[]) ∧ ∃ V k, Below X.heap.size X V ∧ Y = V.setCell ⟨O, if s then 1 else 0, none⟩ (ptrV k) ∧ T0 V s ((pickT s ta tb).del (bs g z.toNat)) k from fun hr hb X O k0 k1 hO h0 h1 => by
    have hz := (right_parts hr).2.1
    have hzn : z = (z.toNat : Int) := by omega
    rw [hzn] at hr hb ⊢
    rw [Int.toNat_natCast]
    exact remove_any hO h0 h1 oka okb s g z.toNat hg hr ((getB_iff oka okb hg hr).1 hb))
  obtain ⟨PG, hPG⟩ : ∃ PG, prefL s g z = PG := ⟨_, rfl⟩
  rw [hPG] at HPL HRP HGET HREM ⊢
  clear h hPG
  obtain ⟨pq, hpq⟩ : ∃ pq, ptrV q = pq := ⟨_, rfl⟩
  rw [hpq] at HGET HCOP ⊢
  clear hpq
  obtain ⟨GB, hGB⟩ : ∃ GB, getB (holdR s g ta tb) s g z = GB := ⟨_, rfl⟩
  obtain ⟨GO, hGO⟩ : ∃ GO, getO (holdR s g ta tb) s g z = GO := ⟨_, rfl⟩
  obtain ⟨RB, hRB⟩ : ∃ RB, rightPB s g z = RB := ⟨_, rfl⟩
  have HE := Lib.hid (show dropE s g z ta tb = if RB = false then 41 else if GB = false then 4 else 0 from by unfold dropE; rw [hGB, hRB])
  rw [hGB, hGO] at HGET
  rw [hGB] at HREM
  rw [hRB] at HRP HREM
  clear hGB hGO hRB
  generalize dropE s g z ta tb = PE at HE ⊢
  go_enter Try.func22, Try.ntmps22
  go_upto_region 1 with fail
  refine cut_world (fun X => PuW w PG.toArray X) ⟨Whole.new _ _ _, below_alloc (Below.refl _ _) _⟩ ?_
  rintro W hW
  have HW := Lib.hid hW
  clear hW
  cases RB with
  | false =>
    rw [if_pos rfl] at HE
    have hE := HE.out
    subst hE
    clear HE
    go_wp2_with (first
      | (refine wpList_load_row rfl 29 (.tmp 3) rfl w.heap.size rfl 29 PG.toArray (0, 0) _ HW.out.p rfl rfl (by rw [List.size_toArray, HPL.out]; kernel_rfl) ?_)
      | (go_at_call 33; refine (HRP.out _).mono ?_; rintro e X ⟨rfl, hbx⟩; have HX := Lib.hid (HW.out.below hbx); clear hbx HW HRP))
    go_ret2
    exact ⟨none, rfl, HX.out.bel, fun _ => rfl, fun c => by cases c⟩
  | true =>
    rw [if_neg (by decide)] at HE
    go_upto_region 3 with (first
      | (refine wpList_load_row rfl 29 (.tmp 3) rfl w.heap.size rfl 29 PG.toArray (0, 0) _ HW.out.p rfl rfl (by rw [List.size_toArray, HPL.out]; kernel_rfl) ?_)
      | (go_at_call 33; refine (HRP.out _).mono ?_; rintro e X ⟨rfl, hbx⟩; have HX := Lib.hid (HW.out.below hbx); clear hbx HW HRP))
    go_upto_region 4 with (first
      | (refine wpList_load_row rfl 29 (.tmp 3) rfl w.heap.size rfl 29 PG.toArray (0, 0) _ HX.out.p rfl rfl (by rw [List.size_toArray, HPL.out]; kernel_rfl) ?_)
      | (go_at_call 12; refine (HGET.out _ HX.out.bel).mono ?_; rintro e X2 ⟨rfl, hbx⟩; have HX2 := Lib.hid (HX.out.below hbx); clear hbx HX HGET))
    cases GB with
    | false =>
      rw [if_pos rfl] at HE
      have hE := HE.out
      subst hE
      clear HE
      go_wp2_with fail
      go_ret2
      exact ⟨none, rfl, HX2.out.bel, fun _ => rfl, fun c => by cases c⟩
    | true =>
      rw [if_neg (by decide)] at HE
      have hE := HE.out
      subst hE
      clear HE
      have HRE := Lib.hid (HREM.out (by trivial) (by trivial))
      clear HREM
      cases s with
      | true =>
        rw [show (if true = true then 1 else 0 : Nat) = 1 from rfl] at HRE
        go_wp2_with (first
          | (go_at_call 35; refine (HCOP.out _ HX2.out.bel).mono ?_; rintro e X4 ⟨k0, k1, rfl, rfl, hk0, hk1⟩; have HX4 := Lib.hid (show PuW w PG.toArray (X2.alloc (.cells #[ptrV k0, ptrV k1] 81)) ∧ Whole (X2.alloc (.cells #[ptrV k0, ptrV k1] 81)) X2.heap.size 81 #[ptrV k0, ptrV k1] ∧ T0 (X2.alloc (.cells #[ptrV k0, ptrV k1] 81)) false ta k0 ∧ T0 (X2.alloc (.cells #[ptrV k0, ptrV k1] 81)) true tb k1 from ⟨HX2.out.below (below_alloc (Below.refl _ _) _), Whole.new _ _ _, T0.below hk0 (below_alloc (Below.refl _ _) _), T0.below hk1 (below_alloc (Below.refl _ _) _)⟩); have HM := Lib.hid (HX2.out.p.lt); clear hk0 hk1; generalize X2.alloc (.cells #[ptrV k0, ptrV k1] 81) = X5 at HX4 ⊢; generalize X2.heap.size = O at HX4 HM ⊢)
          | (refine wpList_load_row rfl 29 (.tmp 3) rfl w.heap.size rfl 29 PG.toArray (0, 0) _ HX4.out.1.p rfl rfl (by rw [List.size_toArray, HPL.out]; kernel_rfl) ?_)
          | (go_at_call 38; refine (HRE.out X5 O k0 k1 HX4.out.2.1 HX4.out.2.2.1 HX4.out.2.2.2).mono ?_; rintro e X6 ⟨rfl, V, k, hb, rfl, hk⟩; have HEND := Lib.hid (isTrie_turn (s := true) (HX4.out.2.1.below hb HX4.out.2.1.lt) (T0.below HX4.out.2.2.1 hb) (T0.below HX4.out.2.2.2 hb) hk); have HBE := Lib.hid ((HX4.out.1.below hb).bel.setCell (p := ⟨O, 1, none⟩) (by have := HM.out; show w.heap.size ≤ O; omega) (ptrV k)); clear hb hk HX4))
        go_ret2
        exact ⟨some O, rfl, HBE.out, O, rfl, HEND.out⟩
      | false =>
        rw [show (if false = true then 1 else 0 : Nat) = 0 from rfl] at HRE
        go_wp2_with (first
          | (go_at_call 35; refine (HCOP.out _ HX2.out.bel).mono ?_; rintro e X4 ⟨k0, k1, rfl, rfl, hk0, hk1⟩; have HX4 := Lib.hid (show PuW w PG.toArray (X2.alloc (.cells #[ptrV k0, ptrV k1] 81)) ∧ Whole (X2.alloc (.cells #[ptrV k0, ptrV k1] 81)) X2.heap.size 81 #[ptrV k0, ptrV k1] ∧ T0 (X2.alloc (.cells #[ptrV k0, ptrV k1] 81)) false ta k0 ∧ T0 (X2.alloc (.cells #[ptrV k0, ptrV k1] 81)) true tb k1 from ⟨HX2.out.below (below_alloc (Below.refl _ _) _), Whole.new _ _ _, T0.below hk0 (below_alloc (Below.refl _ _) _), T0.below hk1 (below_alloc (Below.refl _ _) _)⟩); have HM := Lib.hid (HX2.out.p.lt); clear hk0 hk1; generalize X2.alloc (.cells #[ptrV k0, ptrV k1] 81) = X5 at HX4 ⊢; generalize X2.heap.size = O at HX4 HM ⊢)
          | (refine wpList_load_row rfl 29 (.tmp 3) rfl w.heap.size rfl 29 PG.toArray (0, 0) _ HX4.out.1.p rfl rfl (by rw [List.size_toArray, HPL.out]; kernel_rfl) ?_)
          | (go_at_call 38; refine (HRE.out X5 O k0 k1 HX4.out.2.1 HX4.out.2.2.1 HX4.out.2.2.2).mono ?_; rintro e X6 ⟨rfl, V, k, hb, rfl, hk⟩; have HEND := Lib.hid (isTrie_turn (s := false) (HX4.out.2.1.below hb HX4.out.2.1.lt) (T0.below HX4.out.2.2.1 hb) (T0.below HX4.out.2.2.2 hb) hk); have HBE := Lib.hid ((HX4.out.1.below hb).bel.setCell (p := ⟨O, 0, none⟩) (by have := HM.out; show w.heap.size ≤ O; omega) (ptrV k)); clear hb hk HX4))
        go_ret2
        exact ⟨some O, rfl, HBE.out, O, rfl, HEND.out⟩
end Tri
end Go.Proofs.Ytcpfchfhcfdcpaa
