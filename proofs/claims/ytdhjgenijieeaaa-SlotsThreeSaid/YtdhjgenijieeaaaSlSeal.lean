/- Package slots: Install with a wrong time; Seal. -/
import Derived.Test.YtdhjgenijieeaaaSlInst
import Derived.Test.YtdhjgenijieeaaaPairSeal
namespace Go.Proofs.Ytdhjgenijieeaaa
namespace Sl
open Go.ChangeShapes Go.WideShapes Go.ChangeAt Go.RowKit
open Num Mem Words Chacha Aead Poly Ops Quiet WinT Win Pr

set_option maxRecDepth 100000 in
set_option maxHeartbeats 8000000 in
theorem install_no (x : SS) (s r : Nat → Nat) (l m : Nat) (one : Bool) (t : Int) (hr : rightT t = false) (w : World) :
    Calls Try.prog 7 #[slV x, .agg (keysL s r l m one).toArray, .int .i64 t] w fun e w' => e = .returned (.tuple #[slV x, .int .i64 1]) ∧ Below w.heap.size w w' := by
  have HN := Lib.hid (fun w => new_no s r l m one t hr w)
  unfold slV
  unfold pairV at HN
  have hz := zero_slots
  have hzp := zero_pair
  have HKL := Lib.hid (keysL_length s r l m one)
  obtain ⟨K, hK⟩ : ∃ K, keysL s r l m one = K := ⟨_, rfl⟩
  rw [hK] at HN HKL ⊢
  have HPL := Lib.hid (And.intro (pairL_length noP) (pair_one noP))
  have HXL := Lib.hid (And.intro (slL_length x) (sl_one x))
  obtain ⟨PL, hPL⟩ : ∃ L, pairL noP = L := ⟨_, rfl⟩
  rw [hPL] at HN HPL hzp
  obtain ⟨L, hL⟩ : ∃ L, slL x = L := ⟨_, rfl⟩
  rw [hL] at HXL ⊢
  clear hK hPL hL hr
  go_enter Try.func7, Try.ntmps7
  go_upto_region 1 with fail
  refine cut_world (fun X => Whole X w.heap.size 36 L.toArray ∧ Whole X (w.heap.size + 1) 27 K.toArray ∧ Whole X (w.heap.size + 1 + 1) 36 (slL noS).toArray ∧ Below w.heap.size w X) ⟨((Whole.new _ _ _).alloc _).alloc _, (whole_new _ _ (by simp)).alloc _, whole_new _ _ (by simp), below_alloc (below_alloc (below_alloc (Below.refl _ _) _) _) _⟩ ?_
  rintro X hX
  generalize hB : w.heap.size = B at hX ⊢
  have HB := Lib.hid hB
  have HX := Lib.hid hX
  clear hB hX
  go_upto_region 2 with (first
    | (refine wpList_load_row rfl 27 (.tmp 4) rfl (B + 1) rfl 27 K.toArray (0, 0) _ HX.out.2.1 rfl rfl (by rw [List.size_toArray, HKL.out]; kernel_rfl) ?_)
    | (go_at_call 15; refine (HN.out _).mono ?_; rintro e X1 ⟨rfl, hb1⟩; have HX1 := Lib.hid (show Whole X1 B 36 L.toArray ∧ Whole X1 (B + 1 + 1) 36 (slL noS).toArray ∧ Below B w X1 from ⟨HX.out.1.below hb1 HX.out.1.lt, HX.out.2.2.1.below hb1 HX.out.2.2.1.lt, HX.out.2.2.2.trans (hb1.mono (Nat.le_of_lt HX.out.1.lt))⟩); clear hb1)
    | (refine wpList_store_row rfl 34 (.tmp 8) (.tmp 15) rfl X1.heap.size PL.toArray rfl rfl 34 _ (Whole.new _ _ _) (by rw [List.size_toArray, HPL.out.1]; kernel_rfl) (by simp [HPL.out.1]) HPL.out.2 ?_))
  refine cut_world (fun X => Whole X B 36 L.toArray ∧ Whole X (B + 1 + 1) 36 (slL noS).toArray ∧ Below B w X) ⟨HX1.out.1.below (below_var _ _ _ _) HX1.out.1.lt, HX1.out.2.1.below (below_var _ _ _ _) HX1.out.2.1.lt, HX1.out.2.2.trans ((below_var _ _ _ _).mono (Nat.le_of_lt HX1.out.1.lt))⟩ ?_
  rintro X2 h2
  have H2 := Lib.hid h2
  clear h2 HX1 HX hzp HN
  go_wp2_with (first
    | (refine wpList_load_row rfl 36 (.tmp 3) rfl B rfl 36 L.toArray (0, 0) _ H2.out.1 rfl rfl (by rw [List.size_toArray, HXL.out.1]; kernel_rfl) ?_)
    | (refine wpList_store_row rfl 36 (.tmp 6) (.tmp 19) rfl (B + 1 + 1) L.toArray rfl rfl 36 _ H2.out.2.1 (by rw [List.size_toArray, HXL.out.1]; kernel_rfl) (by rw [sl_size, List.size_toArray, HXL.out.1]) HXL.out.2 ?_))
  have HE := Lib.hid (setRow_heap _ _ _ L.toArray _ _ H2.out.2.1)
  refine bodyPost_ret (results_cell1 rfl _ _ (B + 1 + 1) 36 L _ rfl HE.out rfl rfl (by rw [HXL.out.1]; kernel_rfl)) rfl ?_
  exact ⟨rfl, by rw [HB.out]; exact below_setRow H2.out.2.2 (by omega) _⟩
def noD : List Value := dataL 0 0 (.slice none 0 0)
theorem noD_one : noD.toArray.all (·.oneCell') = true := data_one 0 0 none 0 0
/-- the world of Seal -/
structure SeW (w : World) (B : Nat) (x : SS) (X : World) : Prop where
  arg : Whole X B 36 (slL x).toArray
  res : Whole X (B + 1) 36 (slL noS).toArray
  msg : Whole X (B + 1 + 1) 40 noD.toArray
  bel : Below B w X
theorem SeW.below {w : World} {B : Nat} {x : SS} {X Y : World} (H : SeW w B x X) (hb : Below X.heap.size X Y) : SeW w B x Y :=
  ⟨H.arg.below hb H.arg.lt, H.res.below hb H.res.lt, H.msg.below hb H.msg.lt, H.bel.trans (hb.mono (Nat.le_of_lt H.arg.lt))⟩
set_option maxRecDepth 100000 in
set_option maxHeartbeats 8000000 in
theorem seal_none (x : SS) (hc : x.hc = false) (A : Option Addr) (n c : Nat) (t : Int) (w : World) :
    Calls Try.prog 8 #[slV x, .slice A n c, .int .i64 t] w fun e w' => e = .returned (.tuple #[slV x, .agg noD.toArray, .int .i64 4]) ∧ Below w.heap.size w w' := by
  unfold slV
  have hz := zero_slots
  have hzd : ∀ w : World, (zeroValue 40).run Try.prog w = .ok (.agg noD.toArray) w := zero_data
  have HDB := Lib.hid (show Try.prog.built 40 [] = some noD.toArray from data_built0)
  have HDL := Lib.hid (And.intro (show noD.length = 3 from rfl) noD_one)
  have HXL := Lib.hid (And.intro (slL_length x) (sl_one x))
  have HA := Lib.hid (show ∀ w B V, SeW w B x V → Whole V B 36 (slL x).toArray from fun w B V h => h.arg)
  have HM := Lib.hid (show ∀ w B V, SeW w B x V → Whole V (B + 1 + 1) 40 noD.toArray from fun w B V h => h.msg)
  have HCB := Lib.hid (show ∀ w B V, SeW w B x V → V.cell? ⟨B, 1, none⟩ = some (.bool x.hc) from fun w B V h => at_hc h.arg)
  rw [hc] at HCB
  have HSTART := Lib.hid (show ∀ w X, Whole X w.heap.size 36 (slL x).toArray → Whole X (w.heap.size + 1) 36 (slL noS).toArray → Whole X (w.heap.size + 1 + 1) 40 noD.toArray → Below w.heap.size w X → SeW w w.heap.size x X from fun w X a b c d => ⟨a, b, c, d⟩)
  obtain ⟨L, hL⟩ : ∃ L, slL x = L := ⟨_, rfl⟩
  have HLE := Lib.hid hL
  rw [hL] at HXL HA HSTART ⊢
  obtain ⟨D0, hD0⟩ : ∃ D, noD = D := ⟨_, rfl⟩
  rw [hD0] at hzd HDB HDL HM HSTART 
  try rw [hD0]
  clear hL hD0 hc
  go_enter Try.func8, Try.ntmps8
  go_upto_region 1 with fail
  refine cut_world (fun X => SeW w w.heap.size x X) (HSTART.out _ _ (((Whole.new _ _ _).alloc _).alloc _) ((whole_new _ _ (by simp)).alloc _) (whole_new _ _ (by simp)) (below_alloc (below_alloc (below_alloc (Below.refl _ _) _) _) _)) ?_
  rintro X hX
  generalize hB : w.heap.size = B at hX ⊢
  have HB := Lib.hid hB
  have HX := Lib.hid hX
  clear hB hX HSTART
  have cb := HCB.out _ _ _ HX.out
  go_wp2_with (first
    | (refine wpList_load_row rfl 36 (.tmp 3) rfl B rfl 36 L.toArray (0, 0) _ (HA.out _ _ _ HX.out) rfl rfl (by rw [List.size_toArray, HXL.out.1]; kernel_rfl) ?_)
    | (refine wpList_built0 rfl 40 rfl D0.toArray HDB.out ?_)
    | (refine wpList_store_row rfl 36 (.tmp 6) (.tmp 16) rfl (B + 1) L.toArray rfl rfl 36 _ HX.out.res (by rw [List.size_toArray, HXL.out.1]; kernel_rfl) (by rw [sl_size, List.size_toArray, HXL.out.1]) HXL.out.2 ?_)
    | (refine wpList_store_row rfl 40 (.tmp 7) (.tmp 17) rfl (B + 1 + 1) D0.toArray rfl rfl 40 _ (Whole.farRow (HM.out _ _ _ HX.out) (show B + 1 + 1 ≠ B + 1 by omega) L.toArray) (by rw [List.size_toArray, HDL.out.1]; kernel_rfl) rfl HDL.out.2 ?_))
  have HE := Lib.hid (Whole.farRow (setRow_heap _ _ _ L.toArray _ _ HX.out.res) (show B + 1 ≠ B + 1 + 1 by omega) D0.toArray)
  have HE2 := Lib.hid (setRow_heap _ _ _ D0.toArray _ _ (Whole.farRow (HM.out _ _ _ HX.out) (show B + 1 + 1 ≠ B + 1 by omega) L.toArray))
  have HE3 := Lib.hid (below_setRow (below_setRow HX.out.bel (show B ≤ B + 1 by omega) L.toArray) (show B ≤ B + 1 + 1 by omega) D0.toArray)
  refine bodyPost_ret (results3 rfl _ _ (B + 1) 36 L _ rfl HE.out rfl rfl (by rw [HXL.out.1]; kernel_rfl) (B + 1 + 1) 40 D0 _ rfl HE2.out rfl rfl (by rw [HDL.out.1]; kernel_rfl)) rfl ?_
  exact ⟨rfl, by rw [HB.out]; exact HE3.out⟩
theorem below_two (w : World) (a b : Obj) (cs ds : Array Value) : Below w.heap.size w ((((w.alloc a).alloc b).setRow w.heap.size cs).setRow (w.heap.size + 1) ds) := below_setRow (below_setRow (below_alloc (below_alloc (Below.refl _ _) _) _) (Nat.le_refl _) _) (Nat.le_succ _) _
set_option maxRecDepth 100000 in
set_option maxHeartbeats 8000000 in
theorem seal_err (x : SS) (hc : x.hc = true) (A : Option Addr) (n c : Nat) (t : Int) (h0 : -9223372036854775808 ≤ t) (h1 : t ≤ 9223372036854775807) (h : sE x.c t n ≠ 0) (w : World) :
    Calls Try.prog 8 #[slV x, .slice A n c, .int .i64 t] w fun e w' => e = .returned (.tuple #[slV x, .agg noD.toArray, .int .i64 (sE x.c t n : Nat)]) ∧ Below w.heap.size w w' := by
  have HSE := Lib.hid (fun (w : World) => seal_no x.c t h0 h1 A n c w h)
  have hne : (((sE x.c t n : Nat) : Int) != 0) = true := by simp; omega
  unfold slV
  have hz := zero_slots
  have hzd : ∀ w : World, (zeroValue 40).run Try.prog w = .ok (.agg noD.toArray) w := zero_data
  have HDB := Lib.hid (show Try.prog.built 40 [] = some noD.toArray from data_built0)
  have HDL := Lib.hid (And.intro (show noD.length = 3 from rfl) noD_one)
  have HXL := Lib.hid (And.intro (slL_length x) (sl_one x))
  have HA := Lib.hid (show ∀ w B V, SeW w B x V → Whole V B 36 (slL x).toArray from fun w B V h => h.arg)
  have HM := Lib.hid (show ∀ w B V, SeW w B x V → Whole V (B + 1 + 1) 40 noD.toArray from fun w B V h => h.msg)
  have HCB := Lib.hid (show ∀ w B V, SeW w B x V → V.cell? ⟨B, 1, none⟩ = some (.bool x.hc) from fun w B V h => at_hc h.arg)
  rw [hc] at HCB
  have HSTART := Lib.hid (show ∀ w X, Whole X w.heap.size 36 (slL x).toArray → Whole X (w.heap.size + 1) 36 (slL noS).toArray → Whole X (w.heap.size + 1 + 1) 40 noD.toArray → Below w.heap.size w X → SeW w w.heap.size x X from fun w X a b c d => ⟨a, b, c, d⟩)
  rw [show dataL 0 0 (.slice none 0 0) = noD from rfl] at HSE
  have HCL := Lib.hid (And.intro (pairL_length x.c) (pair_one x.c))
  have HRC := Lib.hid (show ∀ w B V, SeW w B x V → V.rangeAt B 75 (pairL x.c) from fun w B V h => at_c h.arg)
  unfold pairV at HSE
  obtain ⟨CL, hCL⟩ : ∃ L, pairL x.c = L := ⟨_, rfl⟩
  rw [hCL] at HCL HRC HSE
  obtain ⟨E, hE⟩ : ∃ E : Int, ((sE x.c t n : Nat) : Int) = E := ⟨_, rfl⟩
  rw [hE] at HSE hne ⊢
  clear hCL hE h h0 h1
  obtain ⟨L, hL⟩ : ∃ L, slL x = L := ⟨_, rfl⟩
  have HLE := Lib.hid hL
  rw [hL] at HXL HA HSTART ⊢
  obtain ⟨D0, hD0⟩ : ∃ D, noD = D := ⟨_, rfl⟩
  rw [hD0] at hzd HDB HDL HM HSTART HSE
  try rw [hD0]
  clear hL hD0 hc
  go_enter Try.func8, Try.ntmps8
  go_upto_region 1 with fail
  refine cut_world (fun X => SeW w w.heap.size x X) (HSTART.out _ _ (((Whole.new _ _ _).alloc _).alloc _) ((whole_new _ _ (by simp)).alloc _) (whole_new _ _ (by simp)) (below_alloc (below_alloc (below_alloc (Below.refl _ _) _) _) _)) ?_
  rintro X hX
  generalize hB : w.heap.size = B at hX ⊢
  have HB := Lib.hid hB
  have HX := Lib.hid hX
  clear hB hX HSTART
  have cb := HCB.out _ _ _ HX.out
  have HPS := Lib.hid (And.intro (pairL_length noP) (pair_one noP))
  have hzp := zero_pair
  obtain ⟨N0, hN0⟩ : ∃ N, pairL noP = N := ⟨_, rfl⟩
  rw [hN0] at HPS hzp
  clear hN0
  go_upto_region 4 with (first
    | (refine wpList_load_mid rfl 34 (.tmp 19) rfl B 75 rfl CL _ (HRC.out _ _ _ HX.out) rfl rfl (by rw [HCL.out.1]; kernel_rfl) ?_)
    | (go_at_call 17; refine (HSE.out _).mono ?_; rintro e X1 ⟨rfl, hb1⟩; have HX1 := Lib.hid (HX.out.below hb1); clear hb1)
    | (refine wpList_store_row rfl 34 (.tmp 9) (.tmp 24) rfl X1.heap.size CL.toArray rfl rfl 34 _ ((Whole.new _ _ _).alloc _) (by rw [List.size_toArray, HCL.out.1]; kernel_rfl) (by rw [List.size_toArray, List.size_toArray, HPS.out.1, HCL.out.1]) HCL.out.2 ?_)
    | (refine wpList_store_row rfl 40 (.tmp 10) (.tmp 25) rfl (X1.heap.size + 1) D0.toArray rfl rfl 40 _ (Whole.farRow (whole_new _ _ (by simp)) (by omega) _) (by rw [List.size_toArray, HDL.out.1]; kernel_rfl) (by first | rfl | (rw [List.size_toArray, List.size_toArray, HDL.out.1, HDL.out.1])) HDL.out.2 ?_))
  refine cut_world (fun X => SeW w B x X) (HX1.out.below (below_two _ _ _ _ _)) ?_
  rintro X2 h2
  have H2 := Lib.hid h2
  clear h2 HX1 HX cb
  go_wp2_with (first
    | (refine wpList_load_row rfl 36 (.tmp 3) rfl B rfl 36 L.toArray (0, 0) _ (HA.out _ _ _ H2.out) rfl rfl (by rw [List.size_toArray, HXL.out.1]; kernel_rfl) ?_)
    | (refine wpList_built0 rfl 40 rfl D0.toArray HDB.out ?_)
    | (refine wpList_store_row rfl 36 (.tmp 6) (.tmp 29) rfl (B + 1) L.toArray rfl rfl 36 _ H2.out.res (by rw [List.size_toArray, HXL.out.1]; kernel_rfl) (by rw [sl_size, List.size_toArray, HXL.out.1]) HXL.out.2 ?_)
    | (refine wpList_store_row rfl 40 (.tmp 7) (.tmp 30) rfl (B + 1 + 1) D0.toArray rfl rfl 40 _ (Whole.farRow (HM.out _ _ _ H2.out) (show B + 1 + 1 ≠ B + 1 by omega) L.toArray) (by rw [List.size_toArray, HDL.out.1]; kernel_rfl) rfl HDL.out.2 ?_))
  have HE := Lib.hid (Whole.farRow (setRow_heap _ _ _ L.toArray _ _ H2.out.res) (show B + 1 ≠ B + 1 + 1 by omega) D0.toArray)
  have HE2 := Lib.hid (setRow_heap _ _ _ D0.toArray _ _ (Whole.farRow (HM.out _ _ _ H2.out) (show B + 1 + 1 ≠ B + 1 by omega) L.toArray))
  have HE3 := Lib.hid (below_setRow (below_setRow H2.out.bel (show B ≤ B + 1 by omega) L.toArray) (show B ≤ B + 1 + 1 by omega) D0.toArray)
  refine bodyPost_ret (results3 rfl _ _ (B + 1) 36 L _ rfl HE.out rfl rfl (by rw [HXL.out.1]; kernel_rfl) (B + 1 + 1) 40 D0 _ rfl HE2.out rfl rfl (by rw [HDL.out.1]; kernel_rfl)) rfl ?_
  exact ⟨rfl, by rw [HB.out]; exact HE3.out⟩
end Sl
end Go.Proofs.Ytdhjgenijieeaaa
