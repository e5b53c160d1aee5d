/- The call Open of package pair: where a number was taken already, and where the box opens. -/
import Derived.Test.YtdhjgenijieeaaaPairSeal
namespace Go.Proofs.Ytdhjgenijieeaaa
namespace Pr
open Go.ChangeShapes Go.WideShapes Go.ChangeAt Go.RowKit
open Num Mem Words Chacha Aead Poly Ops Quiet WinT Win

theorem results_cell2 {fn : Func} {p u v : Tmp} {ty : TypeId} {P : Program} (h : fn.results = #[.cell p ty, .tmp u, .tmp v]) (tmps : Array Value) (w : World) (g : Nat) (t : TypeId) (cs : List Value) (d : TypeDesc)
    (hp : tmps.getD p undef = .pointer (some ⟨g, 0, none⟩)) (hg : Whole w g t cs.toArray)
    (hu : P.underlying ty = some d) (hd : d.isRow = true) (hi : (P.info? ty).map (·.size) = some cs.length) :
    (results fn tmps).run P w = .ok (.tuple #[.agg cs.toArray, tmps.getD u undef, tmps.getD v undef]) w := by
  have hp' : tmps[p]?.getD undef = .pointer (some ⟨g, 0, none⟩) := by simpa using hp
  simp [results, h, hp', asAddr, run_loadVar_mid w g 0 ty cs d (whole_range hg) hu hd hi]

def winL (s : St) : List Value := [.int .u64 (s.n : Nat), .int .u64 (s.a : Nat), .int .u64 (s.b : Nat)]
theorem win_one (s : St) : (winL s).toArray.all (·.oneCell') = true := by simp [winL, Value.oneCell']
theorem zero_win (w : World) : (zeroValue 32).run Try.prog w = .ok (.agg (winL ⟨0, 0, 0⟩).toArray) w := by kernel_rfl

theorem whole_cells {g h T : Nat} {cs : Array Value} : ∀ (l : List Value) (i : Nat) {X : World}, h ≠ g → Whole X h T cs → Whole (X.setCells g i l) h T cs
  | [], _, _, _, H => H
  | v :: l, i, _, hne, H => whole_cells l (i + 1) hne (Whole.far H (show h ≠ (⟨g, i, none⟩ : Addr).block from hne) v)
theorem below_cells {B : Nat} {w : World} : ∀ (l : List Value) (i : Nat) {X : World}, Below B w X → Below B w (X.setCells B i l)
  | [], _, _, H => H
  | v :: l, i, _, H => below_cells l (i + 1) (H.setCell (Nat.le_refl B) v)
/-- the walk's state: both arguments, the answer's pair, the window behind the number -/
structure OW (w : World) (B : Nat) (L D M : List Value) (X : World) : Prop where
  arg : Whole X B 34 L.toArray
  dat : Whole X (B + 1) 40 D.toArray
  res : Whole X (B + 1 + 1) 34 M.toArray
  bel : Below B w X
theorem OW.below {w : World} {B : Nat} {L M N : List Value} {X Y : World} (h : OW w B L M N X) (hb : Below X.heap.size X Y) : OW w B L M N Y :=
  ⟨h.arg.below hb h.arg.lt, h.dat.below hb h.dat.lt, h.res.below hb h.res.lt, h.bel.trans (hb.mono (Nat.le_of_lt h.arg.lt))⟩
theorem OW.setRes {w : World} {B : Nat} {L D M : List Value} {X : World} (h : OW w B L D M X) (l : List Value) : OW w B L D l (X.setRow (B + 1 + 1) l.toArray) :=
  ⟨Whole.farRow h.arg (by omega) _, Whole.farRow h.dat (by omega) _, setRow_heap _ _ _ _ _ _ h.res, below_setRow h.bel (by omega) _⟩
theorem OW.setWin {w : World} {B : Nat} {L L' D M l : List Value} {X : World} (h : OW w B L D M X) (hl : Whole (X.setCells B 69 l) B 34 L'.toArray) : OW w B L' D M (X.setCells B 69 l) :=
  ⟨hl, whole_cells l 69 (by omega) h.dat, whole_cells l 69 (by omega) h.res, below_cells l 69 h.bel⟩
/-- blocks of unlike types are unlike -/
theorem other {X : World} {g h : Nat} {cs ds : Array Value} (H : Whole X g 5 cs) (K : Whole X h 34 ds) : g ≠ h := by
  rintro rfl
  have e := H.symm.trans K
  injection e with e
  injection e with _ e
  exact absurd e (by decide)
theorem opened_mono {f : FuncId} {args : Array Value} {w : World} {q : Nat} {T : Nat → Nat} (h : Calls Try.prog f args w (OpenPost w true q T)) :
    Calls Try.prog f args w fun e w' => (∃ g, e = .returned (.tuple #[.slice (some ⟨g, 0, none⟩) q q, .int .i64 0]) ∧ Whole w' g 5 (byteCells T q).toArray) ∧ Below w.heap.size w w' := by
  refine h.mono fun e w' k => ?_
  unfold OpenPost at k
  rwa [if_pos rfl] at k
theorem data_at (r n : Nat) (v : Value) {X : World} {g T : Nat} (h : Whole X g T (dataL r n v).toArray) : X.cell? ⟨g, 0, none⟩ = some (.int .u32 (r : Nat)) ∧ X.cell? ⟨g, 1, none⟩ = some (.int .u64 (n : Nat)) ∧ X.cell? ⟨g, 2, none⟩ = some v := ⟨(h.cell 0), (h.cell 1), (h.cell 2)⟩

set_option maxRecDepth 100000 in
set_option maxHeartbeats 2000000 in
theorem open_again (p : PS) (hp : p.ok) (t : Int) (h0 : -9223372036854775808 ≤ t) (h1 : t ≤ 9223372036854775807) (n : Nat) (A : Option Addr) (m c : Nat) (w : World) (ho : oldB p t = false) (k : Nat) (hk : check p.win n = k) (hk0 : k ≠ 0) :
    Calls Try.prog 19 #[pairV p, .agg (dataL p.l n (.slice A m c)).toArray, .int .i64 t] w fun e w' => e = .returned (.tuple #[pairV p, .slice none 0 0, .int .i64 (k : Nat)]) ∧ Below w.heap.size w w' := by
  have HR := Lib.hid (fun w => old_any p t h0 h1 w)
  rw [ho] at HR
  have HT := Lib.hid (fun w => take_any p.win hp.hw n w)
  rw [hk] at HT
  unfold winV at HT
  obtain ⟨S, hS⟩ : ∃ S : Int, (n : Int) = S := ⟨_, rfl⟩
  obtain ⟨RI, hRI⟩ : ∃ RI : Int, (p.l : Int) = RI := ⟨_, rfl⟩
  have HDS := Lib.hid (show (dataL p.l n (.slice A m c)).length = 3 from rfl)
  have HC := Lib.hid (show ∀ X B, Whole X B 34 (pairL p).toArray → X.cell? ⟨B, 64, none⟩ = some (.int .u32 RI) from fun X B h => by rw [at_l h, hRI])
  have HRW := Lib.hid (show ∀ X B, Whole X B 34 (pairL p).toArray → X.rangeAt B 69 (winL p.win) from fun X B h => range_win h)
  have HTW := Lib.hid (fun w => show Calls Try.prog 27 #[.agg (winL p.win).toArray, .int .u64 n] w _ from HT.out w)
  obtain ⟨WL, hWL⟩ : ∃ WL, winL p.win = WL := ⟨_, rfl⟩
  obtain ⟨WT, hWT⟩ : ∃ WT, winL (take p.win n) = WT := ⟨_, rfl⟩
  obtain ⟨W0, hW0⟩ : ∃ W0, winL ⟨0, 0, 0⟩ = W0 := ⟨_, rfl⟩
  have HWS := Lib.hid (show WL.length = 3 by rw [← hWL]; rfl)
  have HTS := Lib.hid (show WT.length = 3 by rw [← hWT]; rfl)
  have H0S := Lib.hid (show W0.length = 3 by rw [← hW0]; rfl)
  have HT1 := Lib.hid (show WT.toArray.all (·.oneCell') = true by rw [← hWT]; exact win_one _)
  have hzw := zero_win
  rw [hW0] at hzw
  rw [show (Value.agg #[.int .u64 ((take p.win n).n : Nat), .int .u64 ((take p.win n).a : Nat), .int .u64 ((take p.win n).b : Nat)]) = .agg (winL (take p.win n)).toArray from rfl, hWT, hWL, hS] at HTW
  rw [hWL] at HRW

  have HS := Lib.hid (show (pairL p).length = 72 from pairL_length p)
  have H1 := Lib.hid (pair_one p)
  unfold pairV at HR ⊢
  obtain ⟨D, hD⟩ : ∃ D, dataL p.l n (.slice A m c) = D := ⟨_, rfl⟩
  have HD' := Lib.hid (show ∀ X g T, Whole X g T D.toArray → X.cell? ⟨g, 0, none⟩ = some (.int .u32 RI) ∧ X.cell? ⟨g, 1, none⟩ = some (.int .u64 S) ∧ X.cell? ⟨g, 2, none⟩ = some (.slice A m c) from fun X g T h => by rw [← hS, ← hRI]; exact data_at p.l n (.slice A m c) (by rw [hD]; exact h))
  rw [hD] at HDS ⊢
  obtain ⟨L, hL⟩ : ∃ L, pairL p = L := ⟨_, rfl⟩
  rw [hL] at HR HS H1 HC HRW ⊢
  obtain ⟨M, hM⟩ : ∃ M, pairL noP = M := ⟨_, rfl⟩
  have HMS := Lib.hid (show (pairL noP).length = 72 from pairL_length _)
  have hz := zero_pair
  rw [hM] at HMS hz
  clear hL hM hD hS hRI hWL hWT hW0 ho h0 h1 hk hp HT
  have hkk : ((k : Int) != 0) = true := by simp; omega
  obtain ⟨KI, hKI⟩ : ∃ KI : Int, (k : Int) = KI := ⟨_, rfl⟩
  rw [hKI] at hkk HTW ⊢
  clear hKI hk0
  go_enter Try.func19, Try.ntmps19
  go_upto_region 1 with fail
  refine cut_world (fun X => OW w w.heap.size L D M X) ⟨((Whole.new _ _ _).alloc _).alloc _, (whole_new _ _ (by simp)).alloc _, whole_new _ _ (by simp), below_alloc (below_alloc (below_alloc (Below.refl _ _) _) _) _⟩ ?_
  intro W hW
  generalize hB : w.heap.size = B at hW ⊢
  have HB := Lib.hid hB
  have HW := Lib.hid hW
  clear hB hW hz
  obtain ⟨d0, d1, d2⟩ := HD'.out _ _ _ HW.out.dat
  have c1 := HC.out _ _ HW.out.arg
  go_upto_region 2 with (first
    | (refine wpList_load_mid rfl 32 (.tmp 14) rfl B 69 rfl WL _ (HRW.out _ _ HW.out.arg) rfl rfl (by rw [HWS.out]; kernel_rfl) ?_)
    | (go_at_call 27; refine (HTW.out _).mono ?_; rintro e w1 ⟨rfl, hb1⟩; have HW1 := Lib.hid (HW.out.below hb1); clear hb1)
    | (refine wpList_store_row rfl 32 (.tmp 9) (.tmp 19) rfl w1.heap.size WT.toArray rfl rfl 32 _ (Whole.new _ _ _) (by rw [List.size_toArray, HTS.out]; kernel_rfl) (by simp [HTS.out, H0S.out]) HT1.out ?_))
  clear d0 d1 d2 c1 hzw
  have hlt := HW1.out.res.lt
  refine cut_world (fun X => OW w B L D M X ∧ Whole X w1.heap.size 32 WT.toArray) ⟨⟨Whole.farRow (HW1.out.arg.alloc _) (by omega) _, Whole.farRow (HW1.out.dat.alloc _) (by omega) _, Whole.farRow (HW1.out.res.alloc _) (by omega) _, below_setRow (below_alloc' HW1.out.bel (by omega) _) (by omega) _⟩, setRow_heap _ _ _ _ _ _ (Whole.new _ _ _)⟩ ?_
  rintro X ⟨q1, q2⟩
  have HGE := Lib.hid (show B + 1 + 1 < w1.heap.size from hlt)
  generalize w1.heap.size = g at q2 HGE ⊢
  have Q1 := Lib.hid q1
  have Q2 := Lib.hid q2
  clear hlt q1 q2 HW HW1
  obtain ⟨d0, d1, d2⟩ := HD'.out _ _ _ Q1.out.dat
  have c1 := HC.out _ _ Q1.out.arg
  go_wp2_with (first
    | (refine Poly.wpList_load_row_if rfl 34 (.tmp 3) rfl B rfl 34 L _ Q1.out.arg rfl rfl (by rw [HS.out]; kernel_rfl) ?_)
    | (go_at_call 21; refine (HR.out _).mono ?_; rintro e w2 ⟨rfl, hb2⟩; replace Q1 := Lib.hid (Q1.out.below hb2); replace Q2 := Lib.hid (Q2.out.below hb2 Q2.out.lt); clear hb2)
    | (refine wpList_store_row rfl 34 (.tmp 6) (.tmp 37) rfl (B + 1 + 1) L.toArray rfl rfl 34 _ Q1.out.res (by rw [List.size_toArray, HS.out]; kernel_rfl) (by simp [HS.out, HMS.out]) H1.out ?_; replace Q1 := Lib.hid (Q1.out.setRes L)))
  refine bodyPost_ret (results_cell2 rfl _ _ (B + 1 + 1) 34 _ _ rfl Q1.out.res rfl rfl (by rw [HS.out]; kernel_rfl)) rfl ?_
  exact ⟨rfl, by rw [HB.out]; exact Q1.out.bel⟩

set_option maxRecDepth 100000 in
set_option maxHeartbeats 2000000 in
theorem open_fine (p : PS) (hp : p.ok) (t : Int) (h0 : -9223372036854775808 ≤ t) (h1 : t ≤ 9223372036854775807) (n : Nat) (hn : n < 18446744073709551616) (A : Option Addr) (m c : Nat) (f : Nat → Nat) (hf : ∀ i, f i < 256) (hmc : m ≤ c) (hc : c ≤ 9223372036854775807) (w : World) (hr : Rd w A m f) (ho : oldB p t = false) (hk : check p.win n = 0) (q : Nat) (hq : m = q + 16) (hq2 : q ≤ 65536) (he : ∀ i, i < 16 → markF p.r (bn (byteAt n)) f q (fun _ => 0) 0 i = f (q + i)) :
    Calls Try.prog 19 #[pairV p, .agg (dataL p.l n (.slice A m c)).toArray, .int .i64 t] w fun e w' => ∃ A', e = .returned (.tuple #[pairV { p with win := take p.win n }, .slice A' q q, .int .i64 0]) ∧ Rd w' A' q (xo p.r (bn (byteAt n)) 1 f) ∧ Below w.heap.size w w' := by
  have HR := Lib.hid (fun w => old_any p t h0 h1 w)
  rw [ho] at HR
  have HT := Lib.hid (fun w => take_any p.win hp.hw n w)
  rw [hk] at HT
  unfold winV at HT
  have HCT := Lib.hid (fun w => counter_any n hn w)
  have HOP := Lib.hid (fun w (hr : Rd w A m f) => opened_mono (open_any p.r (bn (byteAt n)) hp.hr (bn_lt (fun i => byteAt_lt _ _)) A m q c f hf none 0 0 (fun _ => 0) (fun _ => by decide) hq hmc hc (Nat.le_refl _) hq2 (by omega) true ⟨fun _ => he, fun _ => rfl⟩ w hr (.inl rfl)))
  have HRD := Lib.hid hr
  obtain ⟨CN, hCN⟩ : ∃ CN, (byteCells (bn (byteAt n)) 12).toArray = CN := ⟨_, rfl⟩
  obtain ⟨KY, hKY⟩ : ∃ K, byteCells p.r 32 = K := ⟨_, rfl⟩
  have HKL := Lib.hid (show KY.length = 32 by rw [← hKY, byteCells_length])
  rw [hCN] at HCT HOP
  rw [hKY] at HOP
  obtain ⟨S, hS⟩ : ∃ S : Int, (n : Int) = S := ⟨_, rfl⟩
  obtain ⟨RI, hRI⟩ : ∃ RI : Int, (p.l : Int) = RI := ⟨_, rfl⟩
  have HDS := Lib.hid (show (dataL p.l n (.slice A m c)).length = 3 from rfl)
  have HC := Lib.hid (show ∀ X B, Whole X B 34 (pairL p).toArray → X.cell? ⟨B, 64, none⟩ = some (.int .u32 RI) from fun X B h => by rw [at_l h, hRI])
  have HRW := Lib.hid (show ∀ X B, Whole X B 34 (pairL p).toArray → X.rangeAt B 69 (winL p.win) from fun X B h => range_win h)
  have HTW := Lib.hid (fun w => show Calls Try.prog 27 #[.agg (winL p.win).toArray, .int .u64 n] w _ from HT.out w)
  obtain ⟨WL, hWL⟩ : ∃ WL, winL p.win = WL := ⟨_, rfl⟩
  obtain ⟨WT, hWT⟩ : ∃ WT, winL (take p.win n) = WT := ⟨_, rfl⟩
  obtain ⟨W0, hW0⟩ : ∃ W0, winL ⟨0, 0, 0⟩ = W0 := ⟨_, rfl⟩
  have HWS := Lib.hid (show WL.length = 3 by rw [← hWL]; rfl)
  have HTS := Lib.hid (show WT.length = 3 by rw [← hWT]; rfl)
  have H0S := Lib.hid (show W0.length = 3 by rw [← hW0]; rfl)
  have HT1 := Lib.hid (show WT.toArray.all (·.oneCell') = true by rw [← hWT]; exact win_one _)
  have hzw := zero_win
  rw [hW0] at hzw
  rw [show (Value.agg #[.int .u64 ((take p.win n).n : Nat), .int .u64 ((take p.win n).a : Nat), .int .u64 ((take p.win n).b : Nat)]) = .agg (winL (take p.win n)).toArray from rfl, hWT, hWL, hS] at HTW
  rw [hWL] at HRW

  rw [hS] at HCT
  have HPT := Lib.hid (show ∀ X B, Whole X B 34 (pairL p).toArray → Whole (X.setCells B 69 WT) B 34 (pairL { p with win := take p.win n }).toArray from fun X B h => by rw [← hWT]; exact put_win h _)
  have HRG := Lib.hid (show ∀ X B, Whole X B 34 (pairL p).toArray → X.rangeAt B 32 KY from fun X B h => by rw [← hKY]; exact range_r h)
  have HTH := Lib.hid (show ∀ X B, Whole X B 34 (pairL p).toArray → X.there B 69 3 from fun X B h j hj => ⟨by rw [h.cell, show 69 + j = 64 + (5 + j) by omega, pair_tail]; unfold tailL; rcases (by omega : j = 0 ∨ j = 1 ∨ j = 2) with rfl | rfl | rfl <;> rfl, h.free _⟩)
  have HS' := Lib.hid (show (pairL { p with win := take p.win n }).length = 72 from pairL_length _)
  have H1' := Lib.hid (pair_one { p with win := take p.win n })
  have HS := Lib.hid (show (pairL p).length = 72 from pairL_length p)
  have H1 := Lib.hid (pair_one p)
  unfold pairV at HR ⊢
  obtain ⟨L', hL'⟩ : ∃ L', pairL { p with win := take p.win n } = L' := ⟨_, rfl⟩
  rw [hL'] at HPT HS' H1' ⊢
  obtain ⟨D, hD⟩ : ∃ D, dataL p.l n (.slice A m c) = D := ⟨_, rfl⟩
  have HD' := Lib.hid (show ∀ X g T, Whole X g T D.toArray → X.cell? ⟨g, 0, none⟩ = some (.int .u32 RI) ∧ X.cell? ⟨g, 1, none⟩ = some (.int .u64 S) ∧ X.cell? ⟨g, 2, none⟩ = some (.slice A m c) from fun X g T h => by rw [← hS, ← hRI]; exact data_at p.l n (.slice A m c) (by rw [hD]; exact h))
  rw [hD] at HDS ⊢
  obtain ⟨L, hL⟩ : ∃ L, pairL p = L := ⟨_, rfl⟩
  rw [hL] at HR HS H1 HC HRW HPT HRG HTH ⊢
  obtain ⟨M, hM⟩ : ∃ M, pairL noP = M := ⟨_, rfl⟩
  have HMS := Lib.hid (show (pairL noP).length = 72 from pairL_length _)
  have hz := zero_pair
  rw [hM] at HMS hz
  clear hL hM hD hS hRI hWL hWT hW0 ho h0 h1 hk hp HT hn hL' hr hf hmc hc he hq hq2 hCN hKY
  go_enter Try.func19, Try.ntmps19
  go_upto_region 1 with fail
  refine cut_world (fun X => OW w w.heap.size L D M X) ⟨((Whole.new _ _ _).alloc _).alloc _, (whole_new _ _ (by simp)).alloc _, whole_new _ _ (by simp), below_alloc (below_alloc (below_alloc (Below.refl _ _) _) _) _⟩ ?_
  intro W hW
  generalize hB : w.heap.size = B at hW ⊢
  have HB := Lib.hid hB
  have HW := Lib.hid hW
  clear hB hW hz
  obtain ⟨d0, d1, d2⟩ := HD'.out _ _ _ HW.out.dat
  have c1 := HC.out _ _ HW.out.arg
  go_upto_region 2 with (first
    | (refine wpList_load_mid rfl 32 (.tmp 14) rfl B 69 rfl WL _ (HRW.out _ _ HW.out.arg) rfl rfl (by rw [HWS.out]; kernel_rfl) ?_)
    | (go_at_call 27; refine (HTW.out _).mono ?_; rintro e w1 ⟨rfl, hb1⟩; have HW1 := Lib.hid (HW.out.below hb1); clear hb1)
    | (refine wpList_store_row rfl 32 (.tmp 9) (.tmp 19) rfl w1.heap.size WT.toArray rfl rfl 32 _ (Whole.new _ _ _) (by rw [List.size_toArray, HTS.out]; kernel_rfl) (by simp [HTS.out, H0S.out]) HT1.out ?_))
  clear d0 d1 d2 c1 hzw
  have hlt := HW1.out.res.lt
  refine cut_world (fun X => OW w B L D M X ∧ Whole X w1.heap.size 32 WT.toArray) ⟨⟨Whole.farRow (HW1.out.arg.alloc _) (by omega) _, Whole.farRow (HW1.out.dat.alloc _) (by omega) _, Whole.farRow (HW1.out.res.alloc _) (by omega) _, below_setRow (below_alloc' HW1.out.bel (by omega) _) (by omega) _⟩, setRow_heap _ _ _ _ _ _ (Whole.new _ _ _)⟩ ?_
  rintro X ⟨q1, q2⟩
  have HGE := Lib.hid (show B + 1 + 1 < w1.heap.size from hlt)
  generalize w1.heap.size = g at q2 HGE ⊢
  have Q1 := Lib.hid q1
  have Q2 := Lib.hid q2
  clear hlt q1 q2 HW HW1
  obtain ⟨d0, d1, d2⟩ := HD'.out _ _ _ Q1.out.dat
  have c1 := HC.out _ _ Q1.out.arg
  go_upto_region 8 with (first
    | (refine Poly.wpList_load_row_if rfl 34 (.tmp 3) rfl B rfl 34 L _ Q1.out.arg rfl rfl (by rw [HS.out]; kernel_rfl) ?_)
    | (go_at_call 21; refine (HR.out _).mono ?_; rintro e w2 ⟨rfl, hb2⟩; replace Q1 := Lib.hid (Q1.out.below hb2); replace Q2 := Lib.hid (Q2.out.below hb2 Q2.out.lt); clear hb2))
  clear d0 d1 d2 c1
  have HRX := Lib.hid (HRD.out.below Q1.out.bel (by rw [HB.out]; exact Nat.le_refl _))
  refine region_start (fun Y => Below w2.heap.size w2 Y) (by kernel_rfl) (below_drewN (Below.refl _ _) 1) ?_
  intro w3 hS
  refine take 0 _ rfl (by kernel_rfl) (by kernel_rfl) (by kernel_rfl) (fun _ _ _ h => h) (by rfl) hS (by intro w _; go_simp; with_reducible rfl) ?_
  try simp only [Act.put, List.setIfInBounds_toArray, List.set_cons_zero, List.set_cons_succ]
  refine take 1 _ rfl (by kernel_rfl) (by kernel_rfl) (by kernel_rfl) (fun _ _ _ h => h) (by rfl) hS (by intro w _; go_simp; with_reducible rfl) ?_
  try simp only [Act.put, List.setIfInBounds_toArray, List.set_cons_zero, List.set_cons_succ]
  refine take 2 (.agg KY.toArray) rfl (by kernel_rfl) (by kernel_rfl) (by kernel_rfl) (fun _ _ _ h => h) (by rfl) hS (fun Y hY => run_mid_in 24 (.tmp 41) rfl B 32 rfl KY _ (HRG.out _ _ (Q1.out.below hY).arg) rfl rfl (by rw [HKL.out]; kernel_rfl)) ?_
  try simp only [Act.put, List.setIfInBounds_toArray, List.set_cons_zero, List.set_cons_succ]
  refine take 3 _ rfl (by kernel_rfl) (by kernel_rfl) (by kernel_rfl) (fun _ _ _ h => h) (by rfl) hS (by intro w _; go_simp; with_reducible rfl) ?_
  try simp only [Act.put, List.setIfInBounds_toArray, List.set_cons_zero, List.set_cons_succ]
  refine take 4 _ rfl (by kernel_rfl) (by kernel_rfl) (by kernel_rfl) (fun _ _ _ h => h) (by rfl) hS (by intro w hw; have hcl := (HD'.out _ _ _ (Q1.out.below hw).dat).2.1; go_simp; with_reducible rfl) ?_
  try simp only [Act.put, List.setIfInBounds_toArray, List.set_cons_zero, List.set_cons_succ]
  refine take 6 _ rfl (by kernel_rfl) (by kernel_rfl) (by kernel_rfl) (fun _ _ _ h => h) (by rfl) hS (by intro w _; go_simp; with_reducible rfl) ?_
  try simp only [Act.put, List.setIfInBounds_toArray, List.set_cons_zero, List.set_cons_succ]
  refine take 7 _ rfl (by kernel_rfl) (by kernel_rfl) (by kernel_rfl) (fun _ _ _ h => h) (by rfl) hS (by intro w hw; have hcl := (HD'.out _ _ _ (Q1.out.below hw).dat).2.2; go_simp; with_reducible rfl) ?_
  try simp only [Act.put, List.setIfInBounds_toArray, List.set_cons_zero, List.set_cons_succ]
  refine alone 5 rfl (by kernel_rfl) (by rfl) ?_
  intro K hK
  go_simp
  refine (HCT.out _).mono ?_
  rintro e w4 ⟨rfl, hb⟩
  go_simp
  replace hS := below_trans hS hb
  refine hK.out _ _ hS ?_
  clear hK hb K
  try simp only [Act.put, List.setIfInBounds_toArray, List.set_cons_zero, List.set_cons_succ]
  refine alone 8 rfl (by kernel_rfl) (by rfl) ?_
  intro K hK
  go_simp
  refine (HOP.out _ (HRX.out.below hS (Nat.le_refl _))).mono ?_
  rintro e w5 ⟨⟨ga, rfl, hrd⟩, hb⟩
  have hsz := hS.size
  go_simp
  replace hS := below_trans hS hb
  refine hK.out _ _ hS ?_
  clear hK hb K
  try simp only [Act.put, List.setIfInBounds_toArray, List.set_cons_zero, List.set_cons_succ]
  refine take 9 _ rfl (by kernel_rfl) (by kernel_rfl) (by kernel_rfl) (fun _ _ _ h => h) (by rfl) hS (by intro w _; go_simp; with_reducible rfl) ?_
  try simp only [Act.put, List.setIfInBounds_toArray, List.set_cons_zero, List.set_cons_succ]
  refine take 10 _ rfl (by kernel_rfl) (by kernel_rfl) (by kernel_rfl) (fun _ _ _ h => h) (by rfl) hS (by intro w _; go_simp; with_reducible rfl) ?_
  try simp only [Act.put, List.setIfInBounds_toArray, List.set_cons_zero, List.set_cons_succ]
  refine take 11 _ rfl (by kernel_rfl) (by kernel_rfl) (by kernel_rfl) (fun _ _ _ h => h) (by rfl) hS (by intro w _; go_simp; with_reducible rfl) ?_
  try simp only [Act.put, List.setIfInBounds_toArray, List.set_cons_zero, List.set_cons_succ]
  refine take 12 _ rfl (by kernel_rfl) (by kernel_rfl) (by kernel_rfl) (fun _ _ _ h => h) (by rfl) hS (by intro w _; go_simp; with_reducible rfl) ?_
  try simp only [Act.put, List.setIfInBounds_toArray, List.set_cons_zero, List.set_cons_succ]
  refine take 13 _ rfl (by kernel_rfl) (by kernel_rfl) (by kernel_rfl) (fun _ _ _ h => h) (by rfl) hS (by intro w _; go_simp; with_reducible rfl) ?_
  try simp only [Act.put, List.setIfInBounds_toArray, List.set_cons_zero, List.set_cons_succ]
  refine region_end (by kernel_rfl) ?_
  replace Q1 := Lib.hid (Q1.out.below hS)
  replace Q2 := Lib.hid (Q2.out.below hS Q2.out.lt)
  have HRR := Lib.hid hrd
  clear hS hsz hrd HRX HRD HOP HCT HR
  have hgt := HGE.out
  have QA := Q1
  go_wp2_with (first
    | (refine Poly.wpList_load_row_if rfl 32 (.tmp 9) rfl g rfl 32 WT _ Q2.out rfl rfl (by rw [HTS.out]; kernel_rfl) ?_)
    | (refine wpList_store_mid rfl 32 (.tmp 55) (.tmp 54) rfl B 69 WT.toArray rfl rfl (by rw [List.size_toArray, HTS.out]; exact HTH.out _ _ Q1.out.arg) (by rw [List.size_toArray, HTS.out]; kernel_rfl) HT1.out ?_; replace Q1 := Lib.hid (Q1.out.setWin (HPT.out _ _ Q1.out.arg)))
    | (refine Poly.wpList_load_row_if rfl 34 (.tmp 3) rfl B rfl 34 L' _ Q1.out.arg rfl rfl (by rw [HS'.out]; kernel_rfl) ?_)
    | (refine wpList_store_row rfl 34 (.tmp 6) (.tmp 56) rfl (B + 1 + 1) L'.toArray rfl rfl 34 _ Q1.out.res (by rw [List.size_toArray, HS'.out]; kernel_rfl) (by simp [HS'.out, HMS.out]) H1'.out ?_; have R1 := Lib.hid (Q1.out.setRes L')))
  refine bodyPost_ret (results_cell2 rfl _ _ (B + 1 + 1) 34 _ _ rfl R1.out.res rfl rfl (by rw [HS'.out]; kernel_rfl)) rfl ?_
  exact ⟨_, rfl, Rd.of_whole (Whole.farRow (whole_cells WT 69 (other HRR.out QA.out.arg) HRR.out) (other HRR.out QA.out.res) _), by rw [HB.out]; exact R1.out.bel⟩

end Pr
end Go.Proofs.Ytdhjgenijieeaaa
