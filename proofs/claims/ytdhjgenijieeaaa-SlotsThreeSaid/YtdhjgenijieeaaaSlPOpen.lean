/- The call Open of package pair where it fails; all cases. -/
import Derived.Test.YtdhjgenijieeaaaPairOpen
namespace Go.Proofs.Ytdhjgenijieeaaa
namespace Pr
open Go.ChangeShapes Go.WideShapes Go.ChangeAt Go.RowKit
open Num Mem Words Chacha Aead Poly Ops Quiet WinT Win

set_option maxRecDepth 100000 in
set_option maxHeartbeats 4000000 in
theorem open_index (p : PS) (hp : p.ok) (t : Int) (l n : Nat) (hl : l ≠ p.l) (A : Option Addr) (m c : Nat) (w : World) :
    Calls Try.prog 19 #[pairV p, .agg (dataL l n (.slice A m c)).toArray, .int .i64 t] w fun e w' => e = .returned (.tuple #[pairV p, .slice none 0 0, .int .i64 72]) ∧ Below w.heap.size w w' := by
  have hne0 : (((l : Nat) : Int) != ((p.l : Nat) : Int)) = true := by simp; omega
  obtain ⟨k, hk⟩ : ∃ k, check p.win n = k := ⟨_, rfl⟩
  have HT := Lib.hid (fun w => take_any p.win hp.hw n w)
  rw [hk] at HT
  unfold winV at HT
  obtain ⟨S, hS⟩ : ∃ S : Int, (n : Int) = S := ⟨_, rfl⟩
  obtain ⟨RI, hRI⟩ : ∃ RI : Int, (p.l : Int) = RI := ⟨_, rfl⟩
  obtain ⟨RL, hRL⟩ : ∃ RL : Int, (l : Int) = RL := ⟨_, rfl⟩
  rw [hRI, hRL] at hne0
  have HDS := Lib.hid (show (dataL l n (.slice A m c)).length = 3 from rfl)
  have HC := Lib.hid (show ∀ X B, Whole X B 34 (pairL p).toArray → X.cell? ⟨B, 64, none⟩ = some (.int .u32 RI) from fun X B h => by rw [at_l h, hRI])
  have HRW := Lib.hid (show ∀ X B, Whole X B 34 (pairL p).toArray → X.rangeAt B 69 (winL p.win) from fun X B h => range_win h)
  have HTW := Lib.hid (fun w => show Calls Try.prog 27 #[.agg (winL p.win).toArray, .int .u64 n] w _ from HT.out w)
  obtain ⟨WL, hWL⟩ : ∃ WL, winL p.win = WL := ⟨_, rfl⟩
  obtain ⟨WT, hWT⟩ : ∃ WT, winL (take p.win n) = WT := ⟨_, rfl⟩
  obtain ⟨W0, hW0⟩ : ∃ W0, winL ⟨0, 0, 0⟩ = W0 := ⟨_, rfl⟩
  have HWS := Lib.hid (show WL.length = 3 by rw [← hWL]; rfl)
  have HTS := Lib.hid (show WT.length = 3 by rw [← hWT]; rfl)
  have H0S := Lib.hid (show W0.length = 3 by rw [← hW0]; rfl)
  have HT1 := Lib.hid (show WT.toArray.all (·.oneCell') = true by rw [← hWT]; exact win_one _)
  have hzw := zero_win
  rw [hW0] at hzw
  rw [show (Value.agg #[.int .u64 ((take p.win n).n : Nat), .int .u64 ((take p.win n).a : Nat), .int .u64 ((take p.win n).b : Nat)]) = .agg (winL (take p.win n)).toArray from rfl, hWT, hWL, hS] at HTW
  rw [hWL] at HRW

  have HS := Lib.hid (show (pairL p).length = 72 from pairL_length p)
  have H1 := Lib.hid (pair_one p)
  unfold pairV
  obtain ⟨D, hD⟩ : ∃ D, dataL l n (.slice A m c) = D := ⟨_, rfl⟩
  have HD' := Lib.hid (show ∀ X g T, Whole X g T D.toArray → X.cell? ⟨g, 0, none⟩ = some (.int .u32 RL) ∧ X.cell? ⟨g, 1, none⟩ = some (.int .u64 S) ∧ X.cell? ⟨g, 2, none⟩ = some (.slice A m c) from fun X g T h => by rw [← hS, ← hRL]; exact data_at l n (.slice A m c) (by rw [hD]; exact h))
  rw [hD] at HDS ⊢
  obtain ⟨L, hL⟩ : ∃ L, pairL p = L := ⟨_, rfl⟩
  rw [hL] at HS H1 HC HRW ⊢
  obtain ⟨M, hM⟩ : ∃ M, pairL noP = M := ⟨_, rfl⟩
  have HMS := Lib.hid (show (pairL noP).length = 72 from pairL_length _)
  have hz := zero_pair
  rw [hM] at HMS hz
  clear hL hM hD hS hRI hRL hWL hWT hW0 hk hp HT hl
  obtain ⟨KI, hKI⟩ : ∃ KI : Int, (k : Int) = KI := ⟨_, rfl⟩
  rw [hKI] at HTW
  clear hKI
  go_enter Try.func19, Try.ntmps19
  go_upto_region 1 with fail
  refine cut_world (fun X => OW w w.heap.size L D M X) ⟨((Whole.new _ _ _).alloc _).alloc _, (whole_new _ _ (by simp)).alloc _, whole_new _ _ (by simp), below_alloc (below_alloc (below_alloc (Below.refl _ _) _) _) _⟩ ?_
  intro W hW
  generalize hB : w.heap.size = B at hW ⊢
  have HB := Lib.hid hB
  have HW := Lib.hid hW
  clear hB hW hz
  obtain ⟨d0, d1, d2⟩ := HD'.out _ _ _ HW.out.dat
  have c1 := HC.out _ _ HW.out.arg
  go_upto_region 2 with (first
    | (refine wpList_load_mid rfl 32 (.tmp 14) rfl B 69 rfl WL _ (HRW.out _ _ HW.out.arg) rfl rfl (by rw [HWS.out]; kernel_rfl) ?_)
    | (go_at_call 27; refine (HTW.out _).mono ?_; rintro e w1 ⟨rfl, hb1⟩; have HW1 := Lib.hid (HW.out.below hb1); clear hb1)
    | (refine wpList_store_row rfl 32 (.tmp 9) (.tmp 19) rfl w1.heap.size WT.toArray rfl rfl 32 _ (Whole.new _ _ _) (by rw [List.size_toArray, HTS.out]; kernel_rfl) (by simp [HTS.out, H0S.out]) HT1.out ?_))
  clear d0 d1 d2 c1 hzw
  have hlt := HW1.out.res.lt
  refine cut_world (fun X => OW w B L D M X ∧ Whole X w1.heap.size 32 WT.toArray) ⟨⟨Whole.farRow (HW1.out.arg.alloc _) (by omega) _, Whole.farRow (HW1.out.dat.alloc _) (by omega) _, Whole.farRow (HW1.out.res.alloc _) (by omega) _, below_setRow (below_alloc' HW1.out.bel (by omega) _) (by omega) _⟩, setRow_heap _ _ _ _ _ _ (Whole.new _ _ _)⟩ ?_
  rintro X ⟨q1, q2⟩
  have HGE := Lib.hid (show B + 1 + 1 < w1.heap.size from hlt)
  generalize w1.heap.size = g at q2 HGE ⊢
  have Q1 := Lib.hid q1
  have Q2 := Lib.hid q2
  clear hlt q1 q2 HW HW1
  obtain ⟨d0, d1, d2⟩ := HD'.out _ _ _ Q1.out.dat
  have c1 := HC.out _ _ Q1.out.arg
  go_wp2_with (first
    | (refine Poly.wpList_load_row_if rfl 34 (.tmp 3) rfl B rfl 34 L _ Q1.out.arg rfl rfl (by rw [HS.out]; kernel_rfl) ?_)
    | (refine wpList_store_row rfl 34 (.tmp 6) (.tmp 28) rfl (B + 1 + 1) L.toArray rfl rfl 34 _ Q1.out.res (by rw [List.size_toArray, HS.out]; kernel_rfl) (by simp [HS.out, HMS.out]) H1.out ?_; replace Q1 := Lib.hid (Q1.out.setRes L)))
  refine bodyPost_ret (results_cell2 rfl _ _ (B + 1 + 1) 34 _ _ rfl Q1.out.res rfl rfl (by rw [HS.out]; kernel_rfl)) rfl ?_
  exact ⟨rfl, by rw [HB.out]; exact Q1.out.bel⟩

set_option maxRecDepth 100000 in
set_option maxHeartbeats 4000000 in
theorem open_old (p : PS) (hp : p.ok) (t : Int) (h0 : -9223372036854775808 ≤ t) (h1 : t ≤ 9223372036854775807) (n : Nat) (A : Option Addr) (m c : Nat) (w : World) (ho : oldB p t = true) :
    Calls Try.prog 19 #[pairV p, .agg (dataL p.l n (.slice A m c)).toArray, .int .i64 t] w fun e w' => e = .returned (.tuple #[pairV p, .slice none 0 0, .int .i64 82]) ∧ Below w.heap.size w w' := by
  obtain ⟨k, hk⟩ : ∃ k, check p.win n = k := ⟨_, rfl⟩
  have HR := Lib.hid (fun w => old_any p t h0 h1 w)
  rw [ho] at HR
  have HT := Lib.hid (fun w => take_any p.win hp.hw n w)
  rw [hk] at HT
  unfold winV at HT
  obtain ⟨S, hS⟩ : ∃ S : Int, (n : Int) = S := ⟨_, rfl⟩
  obtain ⟨RI, hRI⟩ : ∃ RI : Int, (p.l : Int) = RI := ⟨_, rfl⟩
  have HDS := Lib.hid (show (dataL p.l n (.slice A m c)).length = 3 from rfl)
  have HC := Lib.hid (show ∀ X B, Whole X B 34 (pairL p).toArray → X.cell? ⟨B, 64, none⟩ = some (.int .u32 RI) from fun X B h => by rw [at_l h, hRI])
  have HRW := Lib.hid (show ∀ X B, Whole X B 34 (pairL p).toArray → X.rangeAt B 69 (winL p.win) from fun X B h => range_win h)
  have HTW := Lib.hid (fun w => show Calls Try.prog 27 #[.agg (winL p.win).toArray, .int .u64 n] w _ from HT.out w)
  obtain ⟨WL, hWL⟩ : ∃ WL, winL p.win = WL := ⟨_, rfl⟩
  obtain ⟨WT, hWT⟩ : ∃ WT, winL (take p.win n) = WT := ⟨_, rfl⟩
  obtain ⟨W0, hW0⟩ : ∃ W0, winL ⟨0, 0, 0⟩ = W0 := ⟨_, rfl⟩
  have HWS := Lib.hid (show WL.length = 3 by rw [← hWL]; rfl)
  have HTS := Lib.hid (show WT.length = 3 by rw [← hWT]; rfl)
  have H0S := Lib.hid (show W0.length = 3 by rw [← hW0]; rfl)
  have HT1 := Lib.hid (show WT.toArray.all (·.oneCell') = true by rw [← hWT]; exact win_one _)
  have hzw := zero_win
  rw [hW0] at hzw
  rw [show (Value.agg #[.int .u64 ((take p.win n).n : Nat), .int .u64 ((take p.win n).a : Nat), .int .u64 ((take p.win n).b : Nat)]) = .agg (winL (take p.win n)).toArray from rfl, hWT, hWL, hS] at HTW
  rw [hWL] at HRW

  have HS := Lib.hid (show (pairL p).length = 72 from pairL_length p)
  have H1 := Lib.hid (pair_one p)
  unfold pairV at HR ⊢
  obtain ⟨D, hD⟩ : ∃ D, dataL p.l n (.slice A m c) = D := ⟨_, rfl⟩
  have HD' := Lib.hid (show ∀ X g T, Whole X g T D.toArray → X.cell? ⟨g, 0, none⟩ = some (.int .u32 RI) ∧ X.cell? ⟨g, 1, none⟩ = some (.int .u64 S) ∧ X.cell? ⟨g, 2, none⟩ = some (.slice A m c) from fun X g T h => by rw [← hS, ← hRI]; exact data_at p.l n (.slice A m c) (by rw [hD]; exact h))
  rw [hD] at HDS ⊢
  obtain ⟨L, hL⟩ : ∃ L, pairL p = L := ⟨_, rfl⟩
  rw [hL] at HR HS H1 HC HRW ⊢
  obtain ⟨M, hM⟩ : ∃ M, pairL noP = M := ⟨_, rfl⟩
  have HMS := Lib.hid (show (pairL noP).length = 72 from pairL_length _)
  have hz := zero_pair
  rw [hM] at HMS hz
  clear hL hM hD hS hRI hWL hWT hW0 ho h0 h1 hk hp HT
  obtain ⟨KI, hKI⟩ : ∃ KI : Int, (k : Int) = KI := ⟨_, rfl⟩
  rw [hKI] at HTW
  clear hKI
  go_enter Try.func19, Try.ntmps19
  go_upto_region 1 with fail
  refine cut_world (fun X => OW w w.heap.size L D M X) ⟨((Whole.new _ _ _).alloc _).alloc _, (whole_new _ _ (by simp)).alloc _, whole_new _ _ (by simp), below_alloc (below_alloc (below_alloc (Below.refl _ _) _) _) _⟩ ?_
  intro W hW
  generalize hB : w.heap.size = B at hW ⊢
  have HB := Lib.hid hB
  have HW := Lib.hid hW
  clear hB hW hz
  obtain ⟨d0, d1, d2⟩ := HD'.out _ _ _ HW.out.dat
  have c1 := HC.out _ _ HW.out.arg
  go_upto_region 2 with (first
    | (refine wpList_load_mid rfl 32 (.tmp 14) rfl B 69 rfl WL _ (HRW.out _ _ HW.out.arg) rfl rfl (by rw [HWS.out]; kernel_rfl) ?_)
    | (go_at_call 27; refine (HTW.out _).mono ?_; rintro e w1 ⟨rfl, hb1⟩; have HW1 := Lib.hid (HW.out.below hb1); clear hb1)
    | (refine wpList_store_row rfl 32 (.tmp 9) (.tmp 19) rfl w1.heap.size WT.toArray rfl rfl 32 _ (Whole.new _ _ _) (by rw [List.size_toArray, HTS.out]; kernel_rfl) (by simp [HTS.out, H0S.out]) HT1.out ?_))
  clear d0 d1 d2 c1 hzw
  have hlt := HW1.out.res.lt
  refine cut_world (fun X => OW w B L D M X ∧ Whole X w1.heap.size 32 WT.toArray) ⟨⟨Whole.farRow (HW1.out.arg.alloc _) (by omega) _, Whole.farRow (HW1.out.dat.alloc _) (by omega) _, Whole.farRow (HW1.out.res.alloc _) (by omega) _, below_setRow (below_alloc' HW1.out.bel (by omega) _) (by omega) _⟩, setRow_heap _ _ _ _ _ _ (Whole.new _ _ _)⟩ ?_
  rintro X ⟨q1, q2⟩
  have HGE := Lib.hid (show B + 1 + 1 < w1.heap.size from hlt)
  generalize w1.heap.size = g at q2 HGE ⊢
  have Q1 := Lib.hid q1
  have Q2 := Lib.hid q2
  clear hlt q1 q2 HW HW1
  obtain ⟨d0, d1, d2⟩ := HD'.out _ _ _ Q1.out.dat
  have c1 := HC.out _ _ Q1.out.arg
  go_wp2_with (first
    | (refine Poly.wpList_load_row_if rfl 34 (.tmp 3) rfl B rfl 34 L _ Q1.out.arg rfl rfl (by rw [HS.out]; kernel_rfl) ?_)
    | (go_at_call 21; refine (HR.out _).mono ?_; rintro e w2 ⟨rfl, hb2⟩; replace Q1 := Lib.hid (Q1.out.below hb2); replace Q2 := Lib.hid (Q2.out.below hb2 Q2.out.lt); clear hb2)
    | (refine wpList_store_row rfl 34 (.tmp 6) (.tmp 33) rfl (B + 1 + 1) L.toArray rfl rfl 34 _ Q1.out.res (by rw [List.size_toArray, HS.out]; kernel_rfl) (by simp [HS.out, HMS.out]) H1.out ?_; replace Q1 := Lib.hid (Q1.out.setRes L)))
  refine bodyPost_ret (results_cell2 rfl _ _ (B + 1 + 1) 34 _ _ rfl Q1.out.res rfl rfl (by rw [HS.out]; kernel_rfl)) rfl ?_
  exact ⟨rfl, by rw [HB.out]; exact Q1.out.bel⟩

set_option maxRecDepth 100000 in
set_option maxHeartbeats 4000000 in
theorem open_tag (p : PS) (hp : p.ok) (t : Int) (h0 : -9223372036854775808 ≤ t) (h1 : t ≤ 9223372036854775807) (n : Nat) (hn : n < 18446744073709551616) (A : Option Addr) (m c : Nat) (f : Nat → Nat) (hf : ∀ i, f i < 256) (hmc : m ≤ c) (hc : c ≤ 9223372036854775807) (w : World) (hr : Rd w A m f) (ho : oldB p t = false) (hk : check p.win n = 0) (he : openE p.r (bn (byteAt n)) f m (fun _ => 0) 0 ≠ 0) :
    Calls Try.prog 19 #[pairV p, .agg (dataL p.l n (.slice A m c)).toArray, .int .i64 t] w fun e w' => e = .returned (.tuple #[pairV p, .slice none 0 0, .int .i64 20]) ∧ Below w.heap.size w w' := by
  have HR := Lib.hid (fun w => old_any p t h0 h1 w)
  rw [ho] at HR
  have HT := Lib.hid (fun w => take_any p.win hp.hw n w)
  rw [hk] at HT
  unfold winV at HT
  have HCT := Lib.hid (fun w => counter_any n hn w)
  have HOP := Lib.hid (fun w (hr : Rd w A m f) => (show Calls Try.prog 28 #[.agg (byteCells p.r 32).toArray, .agg (byteCells (bn (byteAt n)) 12).toArray, .slice A m c, .slice none 0 0] w fun e w' => (∃ A' k E, e = .returned (.tuple #[.slice A' k k, .int .i64 E]) ∧ (E != 0) = true) ∧ Below w.heap.size w w' from (open_all p.r (bn (byteAt n)) hp.hr (bn_lt (fun i => byteAt_lt _ _)) A m c f hf none 0 0 (fun _ => 0) (fun _ => by decide) hmc hc (Nat.le_refl _) w hr (.inl rfl)).mono fun e w' ⟨A', h1, _, _, h2⟩ => ⟨⟨A', _, _, h1, by simpa using he⟩, h2⟩))
  have HRD := Lib.hid hr
  obtain ⟨CN, hCN⟩ : ∃ CN, (byteCells (bn (byteAt n)) 12).toArray = CN := ⟨_, rfl⟩
  obtain ⟨KY, hKY⟩ : ∃ K, byteCells p.r 32 = K := ⟨_, rfl⟩
  have HKL := Lib.hid (show KY.length = 32 by rw [← hKY, byteCells_length])
  rw [hCN] at HCT HOP
  rw [hKY] at HOP
  obtain ⟨S, hS⟩ : ∃ S : Int, (n : Int) = S := ⟨_, rfl⟩
  obtain ⟨RI, hRI⟩ : ∃ RI : Int, (p.l : Int) = RI := ⟨_, rfl⟩
  have HDS := Lib.hid (show (dataL p.l n (.slice A m c)).length = 3 from rfl)
  have HC := Lib.hid (show ∀ X B, Whole X B 34 (pairL p).toArray → X.cell? ⟨B, 64, none⟩ = some (.int .u32 RI) from fun X B h => by rw [at_l h, hRI])
  have HRW := Lib.hid (show ∀ X B, Whole X B 34 (pairL p).toArray → X.rangeAt B 69 (winL p.win) from fun X B h => range_win h)
  have HTW := Lib.hid (fun w => show Calls Try.prog 27 #[.agg (winL p.win).toArray, .int .u64 n] w _ from HT.out w)
  obtain ⟨WL, hWL⟩ : ∃ WL, winL p.win = WL := ⟨_, rfl⟩
  obtain ⟨WT, hWT⟩ : ∃ WT, winL (take p.win n) = WT := ⟨_, rfl⟩
  obtain ⟨W0, hW0⟩ : ∃ W0, winL ⟨0, 0, 0⟩ = W0 := ⟨_, rfl⟩
  have HWS := Lib.hid (show WL.length = 3 by rw [← hWL]; rfl)
  have HTS := Lib.hid (show WT.length = 3 by rw [← hWT]; rfl)
  have H0S := Lib.hid (show W0.length = 3 by rw [← hW0]; rfl)
  have HT1 := Lib.hid (show WT.toArray.all (·.oneCell') = true by rw [← hWT]; exact win_one _)
  have hzw := zero_win
  rw [hW0] at hzw
  rw [show (Value.agg #[.int .u64 ((take p.win n).n : Nat), .int .u64 ((take p.win n).a : Nat), .int .u64 ((take p.win n).b : Nat)]) = .agg (winL (take p.win n)).toArray from rfl, hWT, hWL, hS] at HTW
  rw [hWL] at HRW

  rw [hS] at HCT
  have HRG := Lib.hid (show ∀ X B, Whole X B 34 (pairL p).toArray → X.rangeAt B 32 KY from fun X B h => by rw [← hKY]; exact range_r h)
  have HS := Lib.hid (show (pairL p).length = 72 from pairL_length p)
  have H1 := Lib.hid (pair_one p)
  unfold pairV at HR ⊢
  obtain ⟨D, hD⟩ : ∃ D, dataL p.l n (.slice A m c) = D := ⟨_, rfl⟩
  have HD' := Lib.hid (show ∀ X g T, Whole X g T D.toArray → X.cell? ⟨g, 0, none⟩ = some (.int .u32 RI) ∧ X.cell? ⟨g, 1, none⟩ = some (.int .u64 S) ∧ X.cell? ⟨g, 2, none⟩ = some (.slice A m c) from fun X g T h => by rw [← hS, ← hRI]; exact data_at p.l n (.slice A m c) (by rw [hD]; exact h))
  rw [hD] at HDS ⊢
  obtain ⟨L, hL⟩ : ∃ L, pairL p = L := ⟨_, rfl⟩
  rw [hL] at HR HS H1 HC HRW HRG ⊢
  obtain ⟨M, hM⟩ : ∃ M, pairL noP = M := ⟨_, rfl⟩
  have HMS := Lib.hid (show (pairL noP).length = 72 from pairL_length _)
  have hz := zero_pair
  rw [hM] at HMS hz
  clear hL hM hD hS hRI hWL hWT hW0 ho h0 h1 hk hp HT hn hr hf hmc hc he hCN hKY
  go_enter Try.func19, Try.ntmps19
  go_upto_region 1 with fail
  refine cut_world (fun X => OW w w.heap.size L D M X) ⟨((Whole.new _ _ _).alloc _).alloc _, (whole_new _ _ (by simp)).alloc _, whole_new _ _ (by simp), below_alloc (below_alloc (below_alloc (Below.refl _ _) _) _) _⟩ ?_
  intro W hW
  generalize hB : w.heap.size = B at hW ⊢
  have HB := Lib.hid hB
  have HW := Lib.hid hW
  clear hB hW hz
  obtain ⟨d0, d1, d2⟩ := HD'.out _ _ _ HW.out.dat
  have c1 := HC.out _ _ HW.out.arg
  go_upto_region 2 with (first
    | (refine wpList_load_mid rfl 32 (.tmp 14) rfl B 69 rfl WL _ (HRW.out _ _ HW.out.arg) rfl rfl (by rw [HWS.out]; kernel_rfl) ?_)
    | (go_at_call 27; refine (HTW.out _).mono ?_; rintro e w1 ⟨rfl, hb1⟩; have HW1 := Lib.hid (HW.out.below hb1); clear hb1)
    | (refine wpList_store_row rfl 32 (.tmp 9) (.tmp 19) rfl w1.heap.size WT.toArray rfl rfl 32 _ (Whole.new _ _ _) (by rw [List.size_toArray, HTS.out]; kernel_rfl) (by simp [HTS.out, H0S.out]) HT1.out ?_))
  clear d0 d1 d2 c1 hzw
  have hlt := HW1.out.res.lt
  refine cut_world (fun X => OW w B L D M X ∧ Whole X w1.heap.size 32 WT.toArray) ⟨⟨Whole.farRow (HW1.out.arg.alloc _) (by omega) _, Whole.farRow (HW1.out.dat.alloc _) (by omega) _, Whole.farRow (HW1.out.res.alloc _) (by omega) _, below_setRow (below_alloc' HW1.out.bel (by omega) _) (by omega) _⟩, setRow_heap _ _ _ _ _ _ (Whole.new _ _ _)⟩ ?_
  rintro X ⟨q1, q2⟩
  have HGE := Lib.hid (show B + 1 + 1 < w1.heap.size from hlt)
  generalize w1.heap.size = g at q2 HGE ⊢
  have Q1 := Lib.hid q1
  have Q2 := Lib.hid q2
  clear hlt q1 q2 HW HW1
  obtain ⟨d0, d1, d2⟩ := HD'.out _ _ _ Q1.out.dat
  have c1 := HC.out _ _ Q1.out.arg
  go_upto_region 8 with (first
    | (refine Poly.wpList_load_row_if rfl 34 (.tmp 3) rfl B rfl 34 L _ Q1.out.arg rfl rfl (by rw [HS.out]; kernel_rfl) ?_)
    | (go_at_call 21; refine (HR.out _).mono ?_; rintro e w2 ⟨rfl, hb2⟩; replace Q1 := Lib.hid (Q1.out.below hb2); replace Q2 := Lib.hid (Q2.out.below hb2 Q2.out.lt); clear hb2))
  clear d0 d1 d2 c1
  have HRX := Lib.hid (HRD.out.below Q1.out.bel (by rw [HB.out]; exact Nat.le_refl _))
  refine region_start (fun Y => Below w2.heap.size w2 Y) (by kernel_rfl) (below_drewN (Below.refl _ _) 1) ?_
  intro w3 hS
  refine take 0 _ rfl (by kernel_rfl) (by kernel_rfl) (by kernel_rfl) (fun _ _ _ h => h) (by rfl) hS (by intro w _; go_simp; with_reducible rfl) ?_
  try simp only [Act.put, List.setIfInBounds_toArray, List.set_cons_zero, List.set_cons_succ]
  refine take 1 _ rfl (by kernel_rfl) (by kernel_rfl) (by kernel_rfl) (fun _ _ _ h => h) (by rfl) hS (by intro w _; go_simp; with_reducible rfl) ?_
  try simp only [Act.put, List.setIfInBounds_toArray, List.set_cons_zero, List.set_cons_succ]
  refine take 2 (.agg KY.toArray) rfl (by kernel_rfl) (by kernel_rfl) (by kernel_rfl) (fun _ _ _ h => h) (by rfl) hS (fun Y hY => run_mid_in 24 (.tmp 41) rfl B 32 rfl KY _ (HRG.out _ _ (Q1.out.below hY).arg) rfl rfl (by rw [HKL.out]; kernel_rfl)) ?_
  try simp only [Act.put, List.setIfInBounds_toArray, List.set_cons_zero, List.set_cons_succ]
  refine take 3 _ rfl (by kernel_rfl) (by kernel_rfl) (by kernel_rfl) (fun _ _ _ h => h) (by rfl) hS (by intro w _; go_simp; with_reducible rfl) ?_
  try simp only [Act.put, List.setIfInBounds_toArray, List.set_cons_zero, List.set_cons_succ]
  refine take 4 _ rfl (by kernel_rfl) (by kernel_rfl) (by kernel_rfl) (fun _ _ _ h => h) (by rfl) hS (by intro w hw; have hcl := (HD'.out _ _ _ (Q1.out.below hw).dat).2.1; go_simp; with_reducible rfl) ?_
  try simp only [Act.put, List.setIfInBounds_toArray, List.set_cons_zero, List.set_cons_succ]
  refine take 6 _ rfl (by kernel_rfl) (by kernel_rfl) (by kernel_rfl) (fun _ _ _ h => h) (by rfl) hS (by intro w _; go_simp; with_reducible rfl) ?_
  try simp only [Act.put, List.setIfInBounds_toArray, List.set_cons_zero, List.set_cons_succ]
  refine take 7 _ rfl (by kernel_rfl) (by kernel_rfl) (by kernel_rfl) (fun _ _ _ h => h) (by rfl) hS (by intro w hw; have hcl := (HD'.out _ _ _ (Q1.out.below hw).dat).2.2; go_simp; with_reducible rfl) ?_
  try simp only [Act.put, List.setIfInBounds_toArray, List.set_cons_zero, List.set_cons_succ]
  refine alone 5 rfl (by kernel_rfl) (by rfl) ?_
  intro K hK
  go_simp
  refine (HCT.out _).mono ?_
  rintro e w4 ⟨rfl, hb⟩
  go_simp
  replace hS := below_trans hS hb
  refine hK.out _ _ hS ?_
  clear hK hb K
  try simp only [Act.put, List.setIfInBounds_toArray, List.set_cons_zero, List.set_cons_succ]
  refine alone 8 rfl (by kernel_rfl) (by rfl) ?_
  intro K hK
  go_simp
  refine (HOP.out _ (HRX.out.below hS (Nat.le_refl _))).mono ?_
  rintro e w5 ⟨⟨A5, k5, E5, rfl, hE5⟩, hb⟩
  have hsz := hS.size
  go_simp
  replace hS := below_trans hS hb
  refine hK.out _ _ hS ?_
  clear hK hb K
  try simp only [Act.put, List.setIfInBounds_toArray, List.set_cons_zero, List.set_cons_succ]
  refine take 9 _ rfl (by kernel_rfl) (by kernel_rfl) (by kernel_rfl) (fun _ _ _ h => h) (by rfl) hS (by intro w _; go_simp; with_reducible rfl) ?_
  try simp only [Act.put, List.setIfInBounds_toArray, List.set_cons_zero, List.set_cons_succ]
  refine take 10 _ rfl (by kernel_rfl) (by kernel_rfl) (by kernel_rfl) (fun _ _ _ h => h) (by rfl) hS (by intro w _; go_simp; with_reducible rfl) ?_
  try simp only [Act.put, List.setIfInBounds_toArray, List.set_cons_zero, List.set_cons_succ]
  refine take 11 _ rfl (by kernel_rfl) (by kernel_rfl) (by kernel_rfl) (fun _ _ _ h => h) (by rfl) hS (by intro w _; go_simp; with_reducible rfl) ?_
  try simp only [Act.put, List.setIfInBounds_toArray, List.set_cons_zero, List.set_cons_succ]
  refine take 12 _ rfl (by kernel_rfl) (by kernel_rfl) (by kernel_rfl) (fun _ _ _ h => h) (by rfl) hS (by intro w _; go_simp; with_reducible rfl) ?_
  try simp only [Act.put, List.setIfInBounds_toArray, List.set_cons_zero, List.set_cons_succ]
  refine take 13 _ rfl (by kernel_rfl) (by kernel_rfl) (by kernel_rfl) (fun _ _ _ h => h) (by rfl) hS (by intro w _; go_simp; with_reducible rfl) ?_
  try simp only [Act.put, List.setIfInBounds_toArray, List.set_cons_zero, List.set_cons_succ]
  refine region_end (by kernel_rfl) ?_
  replace Q1 := Lib.hid (Q1.out.below hS)
  replace Q2 := Lib.hid (Q2.out.below hS Q2.out.lt)
  clear hS hsz HRX HRD HOP HCT HR
  go_wp2_with (first
    | (refine Poly.wpList_load_row_if rfl 34 (.tmp 3) rfl B rfl 34 L _ Q1.out.arg rfl rfl (by rw [HS.out]; kernel_rfl) ?_)
    | (refine wpList_store_row rfl 34 (.tmp 6) (.tmp 53) rfl (B + 1 + 1) L.toArray rfl rfl 34 _ Q1.out.res (by rw [List.size_toArray, HS.out]; kernel_rfl) (by simp [HS.out, HMS.out]) H1.out ?_; replace Q1 := Lib.hid (Q1.out.setRes L)))
  refine bodyPost_ret (results_cell2 rfl _ _ (B + 1 + 1) 34 _ _ rfl Q1.out.res rfl rfl (by rw [HS.out]; kernel_rfl)) rfl ?_
  exact ⟨rfl, by rw [HB.out]; exact Q1.out.bel⟩
/-- what Open tells, whatever it is called with -/
theorem popen_any (p : PS) (hp : p.ok) (t : Int) (h0 : -9223372036854775808 ≤ t) (h1 : t ≤ 9223372036854775807) (l n : Nat) (hn : n < 18446744073709551616) (A : Option Addr) (m c : Nat) (f : Nat → Nat) (hf : ∀ i, f i < 256) (hmc : m ≤ c) (hc : c ≤ 9223372036854775807) (w : World) (hr : Rd w A m f) :
    Calls Try.prog 19 #[pairV p, .agg (dataL l n (.slice A m c)).toArray, .int .i64 t] w fun e w' => (∃ (W : St) (A' : Option Addr) (k E : Nat), e = .returned (.tuple #[pairV { p with win := W }, .slice A' k k, .int .i64 (E : Nat)]) ∧ W.ok ∧ (E = 0 → l = p.l ∧ oldB p t = false) ∧ (E ≠ 0 → W = p.win)) ∧ Below w.heap.size w w' := by
  have no : ∀ (E : Nat), E ≠ 0 → Calls Try.prog 19 #[pairV p, .agg (dataL l n (.slice A m c)).toArray, .int .i64 t] w (fun e w' => e = .returned (.tuple #[pairV p, .slice none 0 0, .int .i64 (E : Nat)]) ∧ Below w.heap.size w w') → Calls Try.prog 19 #[pairV p, .agg (dataL l n (.slice A m c)).toArray, .int .i64 t] w fun e w' => (∃ (W : St) (A' : Option Addr) (k E : Nat), e = .returned (.tuple #[pairV { p with win := W }, .slice A' k k, .int .i64 (E : Nat)]) ∧ W.ok ∧ (E = 0 → l = p.l ∧ oldB p t = false) ∧ (E ≠ 0 → W = p.win)) ∧ Below w.heap.size w w' := fun E hE h =>
    h.mono fun e w' ⟨h1, h2⟩ => ⟨⟨p.win, none, 0, E, h1, hp.hw, fun h => absurd h hE, fun _ => rfl⟩, h2⟩
  by_cases hl : l = p.l
  · subst hl
    by_cases ho : oldB p t = true
    · exact no 82 (by decide) (open_old p hp t h0 h1 n A m c w ho)
    · have ho : oldB p t = false := by simpa using ho
      by_cases hk : check p.win n = 0
      · by_cases he : openE p.r (bn (byteAt n)) f m (fun _ => 0) 0 = 0
        · have h16 : ¬ m < 16 := fun h => by rw [openE, if_pos h] at he; cases he
          have h65 : ¬ (65552 < m ∨ (65536 : Nat) < 0) := fun h => by rw [openE, if_neg h16, if_pos h] at he; cases he
          have hft : Fits16 p.r (bn (byteAt n)) f m (fun _ => 0) 0 := by
            rw [openE, if_neg h16, if_neg h65] at he
            by_cases h : Fits16 p.r (bn (byteAt n)) f m (fun _ => 0) 0
            · exact h
            · rw [if_neg h] at he; cases he
          refine (open_fine p hp t h0 h1 n hn A m c f hf hmc hc w hr ho hk (m - 16) (by omega) (by omega) hft).mono ?_
          rintro e w' ⟨A', rfl, _, hb⟩
          exact ⟨⟨take p.win n, A', m - 16, 0, rfl, take_ok n hp.hw, fun _ => ⟨rfl, ho⟩, fun h => absurd rfl h⟩, hb⟩
        · exact no 20 (by decide) (open_tag p hp t h0 h1 n hn A m c f hf hmc hc w hr ho hk he)
      · exact no (check p.win n) hk (open_again p hp t h0 h1 n A m c w ho _ rfl hk)
  · exact no 72 (by decide) (open_index p hp t l n hl A m c w)
end Pr
end Go.Proofs.Ytdhjgenijieeaaa
