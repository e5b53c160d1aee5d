/- Package slots: Seal that seals. -/
import Derived.Test.YtdhjgenijieeaaaSlSeal
namespace Go.Proofs.Ytdhjgenijieeaaa
namespace Sl
open Go.ChangeShapes Go.WideShapes Go.ChangeAt Go.RowKit
open Num Mem Words Chacha Aead Poly Ops Quiet WinT Win Pr

/-- the world behind the call -/
structure SfW (w : World) (B g h : Nat) (x y : SS) (q : PS) (D : List Value) (X : World) : Prop where
  s : SeW w B x X
  q : Whole X g 34 (pairL q).toArray
  d : Whole X (g + 1) 40 D.toArray
  o : Whole X h 36 (slL y).toArray
  n1 : B + 1 + 1 < g
  n2 : g + 1 < h
theorem SfW.below {w : World} {B g h : Nat} {x y : SS} {q : PS} {D : List Value} {X Y : World} (H : SfW w B g h x y q D X) (hb : Below X.heap.size X Y) : SfW w B g h x y q D Y :=
  ⟨H.s.below hb, H.q.below hb H.q.lt, H.d.below hb H.d.lt, H.o.below hb H.o.lt, H.n1, H.n2⟩
theorem SfW.drew {w : World} {B g h : Nat} {x y : SS} {q : PS} {D : List Value} {X : World} (H : SfW w B g h x y q D X) : SfW w B g h x y q D X.drew :=
  ⟨⟨H.s.arg.drew, H.s.res.drew, H.s.msg.drew, H.s.bel.drew⟩, H.q.drew, H.d.drew, H.o.drew, H.n1, H.n2⟩
theorem SfW.put {w : World} {B g h : Nat} {x y : SS} {q : PS} {D : List Value} {X : World} (H : SfW w B g h x y q D X) : SfW w B g h x { y with c := q } q D (X.setCells h 75 (pairL q)) := by
  have h1 := H.n1
  have h2 := H.n2
  exact ⟨⟨whole_cells _ _ (by omega) H.s.arg, whole_cells _ _ (by omega) H.s.res, whole_cells _ _ (by omega) H.s.msg, below_cells' (by omega) _ _ H.s.bel⟩, whole_cells _ _ (by omega) H.q, whole_cells _ _ (by omega) H.d, put_c H.o q, h1, h2⟩
def sealed (x : SS) : SS := { x with c := { x.c with sent := x.c.sent + 1 } }
set_option maxRecDepth 100000 in
set_option maxHeartbeats 8000000 in
theorem seal_fine' (x : SS) (hc : x.hc = true) (hok : x.c.ok) (A : Option Addr) (n c : Nat) (f : Nat → Nat) (hf : ∀ i, f i < 256) (t : Int) (h0 : -9223372036854775808 ≤ t) (h1 : t ≤ 9223372036854775807) (h : sE x.c t n = 0) (w : World) (hr : Rd w A n f) :
    Calls Try.prog 8 #[slV x, .slice A n c, .int .i64 t] w fun e w' => ∃ A', e = .returned (.tuple #[slV (tidy (sealed x)), .agg (dataL x.c.m x.c.sent (.slice A' (n + 16) (n + 16))).toArray, .int .i64 0]) ∧ Below w.heap.size w w' := by
  have HSE := Lib.hid (fun (w : World) (hr : Rd w A n f) => seal_yes x.c hok t h0 h1 A n c f hf w hr h)
  have HRD := Lib.hid hr
  unfold slV
  have hz := zero_slots
  have hzd : ∀ w : World, (zeroValue 40).run Try.prog w = .ok (.agg noD.toArray) w := zero_data
  have HDB := Lib.hid (show Try.prog.built 40 [] = some noD.toArray from data_built0)
  have HDL := Lib.hid (And.intro (show noD.length = 3 from rfl) noD_one)
  have HXL := Lib.hid (And.intro (slL_length x) (sl_one x))
  have HA := Lib.hid (show ∀ w B V, SeW w B x V → Whole V B 36 (slL x).toArray from fun w B V h => h.arg)
  have HM := Lib.hid (show ∀ w B V, SeW w B x V → Whole V (B + 1 + 1) 40 noD.toArray from fun w B V h => h.msg)
  have HCB := Lib.hid (show ∀ w B V, SeW w B x V → V.cell? ⟨B, 1, none⟩ = some (.bool x.hc) from fun w B V h => at_hc h.arg)
  rw [hc] at HCB
  have HSTART := Lib.hid (show ∀ w X, Whole X w.heap.size 36 (slL x).toArray → Whole X (w.heap.size + 1) 36 (slL noS).toArray → Whole X (w.heap.size + 1 + 1) 40 noD.toArray → Below w.heap.size w X → SeW w w.heap.size x X from fun w X a b c d => ⟨a, b, c, d⟩)
  have HCL := Lib.hid (And.intro (pairL_length x.c) (pair_one x.c))
  have HQL := Lib.hid (And.intro (pairL_length { x.c with sent := x.c.sent + 1 }) (pair_one { x.c with sent := x.c.sent + 1 }))
  have HRC := Lib.hid (show ∀ w B V, SeW w B x V → V.rangeAt B 75 (pairL x.c) from fun w B V h => at_c h.arg)
  have HDT := Lib.hid (fun (A' : Option Addr) => And.intro (show (dataL x.c.m x.c.sent (.slice A' (n + 16) (n + 16))).length = 3 from rfl) (data_one x.c.m x.c.sent A' (n + 16) (n + 16)))
  have HTI := Lib.hid (tidy_any (sealed x))
  have HTL := Lib.hid (And.intro (slL_length (tidy (sealed x))) (sl_one (tidy (sealed x))))
  have HZL := Lib.hid (slL_length (sealed x))
  have HOQ := Lib.hid (show ∀ (w : World) B g h D V, SfW w B g h x (sealed x) { x.c with sent := x.c.sent + 1 } D V → Whole V h 36 (slL (sealed x)).toArray from fun w B g h D V H => H.o)
  have HPQ := Lib.hid (show ∀ (w : World) B g h D V, SfW w B g h x x { x.c with sent := x.c.sent + 1 } D V → Whole V g 34 (pairL { x.c with sent := x.c.sent + 1 }).toArray ∧ SfW w B g h x (sealed x) { x.c with sent := x.c.sent + 1 } D (V.setCells h 75 (pairL { x.c with sent := x.c.sent + 1 })) from fun w B g h D V H => ⟨H.q, H.put⟩)
  have HMK := Lib.hid (show ∀ (w : World) B g h D V, SeW w B x V → Whole V g 34 (pairL { x.c with sent := x.c.sent + 1 }).toArray → Whole V (g + 1) 40 D.toArray → Whole V h 36 (slL x).toArray → B + 1 + 1 < g → g + 1 < h → SfW w B g h x x { x.c with sent := x.c.sent + 1 } D V from fun w B g h D V a b c d e f => ⟨a, b, c, d, e, f⟩)
  unfold pairV at HSE
  unfold slV at HTI
  obtain ⟨CL, hCL⟩ : ∃ L, pairL x.c = L := ⟨_, rfl⟩
  rw [hCL] at HCL HRC HSE
  obtain ⟨q, hq⟩ : ∃ q : PS, { x.c with sent := x.c.sent + 1 } = q := ⟨_, rfl⟩
  rw [hq] at HSE HQL HOQ HPQ HMK
  obtain ⟨QL, hQL⟩ : ∃ L, pairL q = L := ⟨_, rfl⟩
  rw [hQL] at HQL HSE HPQ HMK
  obtain ⟨TL, hTL⟩ : ∃ L, slL (tidy (sealed x)) = L := ⟨_, rfl⟩
  rw [hTL] at HTI HTL ⊢
  obtain ⟨ZL, hZL⟩ : ∃ L, slL (sealed x) = L := ⟨_, rfl⟩
  rw [hZL] at HTI HZL HOQ
  obtain ⟨DF, hDF⟩ : ∃ F : Option Addr → List Value, (fun A' => dataL x.c.m x.c.sent (.slice A' (n + 16) (n + 16))) = F := ⟨_, rfl⟩
  have hDF' : ∀ A', dataL x.c.m x.c.sent (.slice A' (n + 16) (n + 16)) = DF A' := fun A' => congrFun hDF A'
  simp only [hDF'] at HSE HDT ⊢
  clear hCL hq hQL hTL hZL hDF hDF' h h0 h1 hr hok
  obtain ⟨L, hL⟩ : ∃ L, slL x = L := ⟨_, rfl⟩
  have HLE := Lib.hid hL
  rw [hL] at HXL HA HSTART ⊢
  obtain ⟨D0, hD0⟩ : ∃ D, noD = D := ⟨_, rfl⟩
  rw [hD0] at hzd HDB HDL HM HSTART 
  try rw [hD0]
  clear hL hD0 hc
  go_enter Try.func8, Try.ntmps8
  go_upto_region 1 with fail
  refine cut_world (fun X => SeW w w.heap.size x X) (HSTART.out _ _ (((Whole.new _ _ _).alloc _).alloc _) ((whole_new _ _ (by simp)).alloc _) (whole_new _ _ (by simp)) (below_alloc (below_alloc (below_alloc (Below.refl _ _) _) _) _)) ?_
  rintro X hX
  generalize hB : w.heap.size = B at hX ⊢
  have HB := Lib.hid hB
  have HX := Lib.hid hX
  clear hB hX HSTART
  have cb := HCB.out _ _ _ HX.out
  have HPS := Lib.hid (And.intro (pairL_length noP) (pair_one noP))
  have hzp := zero_pair
  obtain ⟨N0, hN0⟩ : ∃ N, pairL noP = N := ⟨_, rfl⟩
  rw [hN0] at HPS hzp
  clear hN0
  go_upto_region 4 with (first
    | (refine wpList_load_mid rfl 34 (.tmp 19) rfl B 75 rfl CL _ (HRC.out _ _ _ HX.out) rfl rfl (by rw [HCL.out.1]; kernel_rfl) ?_)
    | (go_at_call 17; refine (HSE.out _ (HRD.out.below HX.out.bel (by rw [HB.out]; exact Nat.le_refl _))).mono ?_; rintro e X1 ⟨A', c', rfl, _, hb1⟩; have HX1 := Lib.hid (HX.out.below hb1); clear hb1)
    | (refine wpList_store_row rfl 34 (.tmp 9) (.tmp 24) rfl X1.heap.size QL.toArray rfl rfl 34 _ ((Whole.new _ _ _).alloc _) (by rw [List.size_toArray, HQL.out.1]; kernel_rfl) (by rw [List.size_toArray, List.size_toArray, HPS.out.1, HQL.out.1]) HQL.out.2 ?_)
    | (refine wpList_store_row rfl 40 (.tmp 10) (.tmp 25) rfl (X1.heap.size + 1) (DF A').toArray rfl rfl 40 _ (Whole.farRow (whole_new _ _ (by simp)) (by omega) _) (by rw [List.size_toArray, (HDT.out A').1]; kernel_rfl) (by first | rfl | (rw [List.size_toArray, List.size_toArray, HDL.out.1, (HDT.out A').1])) (HDT.out A').2 ?_))
  refine cut_world (fun X => SeW w B x X ∧ Whole X X1.heap.size 34 QL.toArray ∧ Whole X (X1.heap.size + 1) 40 (DF A').toArray ∧ B + 1 + 1 < X1.heap.size) ⟨HX1.out.below (below_two _ _ _ _ _), Whole.farRow (setRow_heap _ _ _ _ _ _ ((Whole.new _ _ _).alloc _)) (by omega) _, setRow_heap _ _ _ _ _ _ (Whole.farRow (whole_new _ _ (by simp)) (by omega) _), (HM.out _ _ _ HX1.out).lt⟩ ?_
  rintro X2 h2
  generalize X1.heap.size = g at h2 ⊢
  have H2 := Lib.hid h2
  clear h2 HX1 HX cb hzp hzd HSE HRD
  have HAr := Lib.hid (HA.out _ _ _ H2.out.1)
  go_upto_region 7 with (first
    | (refine wpList_load_row rfl 36 (.tmp 3) rfl B rfl 36 L.toArray (0, 0) _ HAr.out rfl rfl (by rw [List.size_toArray, HXL.out.1]; kernel_rfl) ?_)
    | (refine wpList_store_row rfl 36 (.tmp 12) (.tmp 32) rfl X2.heap.size L.toArray rfl rfl 36 _ (Whole.new _ _ _) (by rw [List.size_toArray, HXL.out.1]; kernel_rfl) (by rw [sl_size, List.size_toArray, HXL.out.1]) HXL.out.2 ?_))
  refine cut_world (fun X => SfW w B g X2.heap.size x x q (DF A') X) (HMK.out _ _ _ _ _ _ (H2.out.1.below (below_var _ _ _ _)) (H2.out.2.1.below (below_var _ _ _ _) H2.out.2.1.lt) (H2.out.2.2.1.below (below_var _ _ _ _) H2.out.2.2.1.lt) (by rw [HLE.out]; exact setRow_heap _ _ _ _ _ _ (Whole.new _ _ _)) H2.out.2.2.2 H2.out.2.2.1.lt) ?_
  rintro X3 h3
  generalize X2.heap.size = h at h3 ⊢
  have H3 := Lib.hid h3
  clear h3 H2 hz HAr
  have HP3 := Lib.hid (HPQ.out _ _ _ _ _ _ H3.out)
  have hth := there_at H3.out.o 75 72 (by omega)
  go_upto_region 8 with (first
    | (refine wpList_load_row rfl 34 (.tmp 9) rfl g rfl 34 QL.toArray (0, 0) _ HP3.out.1 rfl rfl (by rw [List.size_toArray, HQL.out.1]; kernel_rfl) ?_)
    | (refine wpList_store_mid rfl 34 (.tmp 34) (.tmp 33) rfl h 75 QL.toArray rfl rfl (by rw [List.size_toArray, HQL.out.1]; exact hth) (by rw [List.size_toArray, HQL.out.1]; kernel_rfl) HQL.out.2 ?_))
  have H4 := Lib.hid HP3.out.2.drew
  clear H3 HP3 hth
  have hn1 := H4.out.n1
  have hn2 := H4.out.n2
  refine region_drew (fun V => Whole V h 36 ZL.toArray ∧ Whole V (g + 1) 40 (DF A').toArray) (by kernel_rfl) ⟨HOQ.out _ _ _ _ _ _ H4.out, H4.out.d⟩ (fun hS => ?_)
  refine take 0 (.agg ZL.toArray) rfl (by kernel_rfl) (by kernel_rfl) (by kernel_rfl) (fun _ _ _ h => h) (by rfl) hS (fun V hV => run_load_in 36 (.tmp 12) rfl h rfl ZL.toArray 219 (by rw [List.size_toArray, HZL.out]) hV.1 rfl rfl (by kernel_rfl)) ?_
  try simp only [Act.put, List.setIfInBounds_toArray, List.set_cons_zero, List.set_cons_succ]
  refine take 2 (.agg (DF A').toArray) rfl (by kernel_rfl) (by kernel_rfl) (by kernel_rfl) (fun _ _ _ h => h) (by rfl) hS (fun V hV => run_load_in 40 (.tmp 10) rfl (g + 1) rfl (DF A').toArray 3 (by rw [List.size_toArray, (HDT.out A').1]) hV.2 rfl rfl (by kernel_rfl)) ?_
  try simp only [Act.put, List.setIfInBounds_toArray, List.set_cons_zero, List.set_cons_succ]
  refine alone 1 rfl (by kernel_rfl) (by rfl) ?_
  intro K hK
  go_simp
  refine (HTI.out _).mono ?_
  rintro e W4 ⟨rfl, hb4⟩
  go_simp
  have H5 := Lib.hid (H4.out.below hb4)
  refine hK.out _ _ ⟨HOQ.out _ _ _ _ _ _ H5.out, H5.out.d⟩ ?_
  clear hK K hb4
  try simp only [Act.put, List.setIfInBounds_toArray, List.set_cons_zero, List.set_cons_succ]
  replace hS := (⟨HOQ.out _ _ _ _ _ _ H5.out, H5.out.d⟩ : Whole W4 h 36 ZL.toArray ∧ Whole W4 (g + 1) 40 (DF A').toArray)
  refine alone 3 rfl (by kernel_rfl) (by rfl) ?_
  intro K hK
  refine wp_store_row 36 (.tmp 6) (.tmp 36) rfl (B + 1) TL.toArray (by rfl) (by rfl) 36 _ H5.out.s.res (by rw [List.size_toArray, HTL.out.1]; kernel_rfl) (by rw [sl_size, List.size_toArray, HTL.out.1]) HTL.out.2 ?_
  replace hS := (⟨Whole.farRow hS.1 (by omega) _, Whole.farRow hS.2 (by omega) _⟩ : Whole (W4.setRow (B + 1) TL.toArray) h 36 ZL.toArray ∧ Whole (W4.setRow (B + 1) TL.toArray) (g + 1) 40 (DF A').toArray)
  refine hK.out _ _ hS ?_
  clear hK K
  try simp only [Act.put]
  refine alone 4 rfl (by kernel_rfl) (by rfl) ?_
  intro K hK
  have HMM := Lib.hid (Whole.farRow (HM.out _ _ _ H5.out.s) (show B + 1 + 1 ≠ B + 1 by omega) TL.toArray)
  refine wp_store_row 40 (.tmp 7) (.tmp 37) rfl (B + 1 + 1) (DF A').toArray (by rfl) (by rfl) 40 _ HMM.out (by rw [List.size_toArray, (HDT.out A').1]; kernel_rfl) (by rw [List.size_toArray, List.size_toArray, HDL.out.1, (HDT.out A').1]) (HDT.out A').2 ?_
  replace hS := (⟨Whole.farRow hS.1 (by omega) _, Whole.farRow hS.2 (by omega) _⟩ : Whole ((W4.setRow (B + 1) TL.toArray).setRow (B + 1 + 1) (DF A').toArray) h 36 ZL.toArray ∧ Whole ((W4.setRow (B + 1) TL.toArray).setRow (B + 1 + 1) (DF A').toArray) (g + 1) 40 (DF A').toArray)
  refine hK.out _ _ hS ?_
  clear hK K
  try simp only [Act.put]
  refine take 5 _ rfl (by kernel_rfl) (by kernel_rfl) (by kernel_rfl) (fun _ _ _ h => h) (by rfl) hS (by intro w _; go_simp; with_reducible rfl) ?_
  try simp only [Act.put, List.setIfInBounds_toArray, List.set_cons_zero, List.set_cons_succ]
  refine region_end (by kernel_rfl) ?_
  go_wp2_with fail
  have HE := Lib.hid (Whole.farRow (setRow_heap _ _ _ TL.toArray _ _ H5.out.s.res) (show B + 1 ≠ B + 1 + 1 by omega) (DF A').toArray)
  have HE2 := Lib.hid (setRow_heap _ _ _ (DF A').toArray _ _ HMM.out)
  have HE3 := Lib.hid (below_setRow (below_setRow H5.out.s.bel (show B ≤ B + 1 by omega) TL.toArray) (show B ≤ B + 1 + 1 by omega) (DF A').toArray)
  refine bodyPost_ret (results3 rfl _ _ (B + 1) 36 TL _ rfl HE.out rfl rfl (by rw [HTL.out.1]; kernel_rfl) (B + 1 + 1) 40 (DF A') _ rfl HE2.out rfl rfl (by rw [(HDT.out A').1]; kernel_rfl)) rfl ?_
  exact ⟨A', rfl, by rw [HB.out]; exact HE3.out⟩
end Sl
end Go.Proofs.Ytdhjgenijieeaaa
