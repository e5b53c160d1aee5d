/- The calls Chain1, Chain2, Chain3 of package kdf. -/
import Derived.Test.YtljepgddmfelpaaDoorKdfChain
import Derived.Test.YtljepgddmfelpaaDoorFloat
namespace Go.Proofs.YtljepgddmfelpaaDoor
namespace Kdf
open Go.ChangeShapes Go.WideShapes Go.ChangeAt Go.RowKit
open Num Mem Words State Chacha Quiet Blake

theorem whole_range {w : World} {g : Nat} {t : TypeId} {cs : List Value} (h : Whole w g t cs.toArray) : w.rangeAt g 0 cs := by
  intro j v hj
  rw [Nat.zero_add, h.cell, List.getElem?_toArray, hj]
/-- results that are arrays in memory, read at the end -/
theorem results_two {fn : Func} {p q : Tmp} {ty : TypeId} {P : Program} (h : fn.results = #[.cell p ty, .cell q ty]) (tmps : Array Value) (w : World) (d : TypeDesc) (hu : P.underlying ty = some d) (hd : d.isRow = true) (n : Nat) (hi : (P.info? ty).map (·.size) = some n) (t : TypeId)
    (g g2 : Nat) (cs cs2 : List Value) (hp : tmps.getD p undef = .pointer (some ⟨g, 0, none⟩)) (hg : Whole w g t cs.toArray) (hn : cs.length = n) (hq : tmps.getD q undef = .pointer (some ⟨g2, 0, none⟩)) (hg2 : Whole w g2 t cs2.toArray) (hn2 : cs2.length = n) :
    (results fn tmps).run P w = .ok (.tuple #[.agg cs.toArray, .agg cs2.toArray]) w := by
  have hp' : tmps[p]?.getD undef = .pointer (some ⟨g, 0, none⟩) := by simpa using hp
  have hq' : tmps[q]?.getD undef = .pointer (some ⟨g2, 0, none⟩) := by simpa using hq
  simp [results, h, hp', hq', asAddr, run_loadVar_mid w g 0 ty cs d (whole_range hg) hu hd (by rw [hn]; exact hi), run_loadVar_mid w g2 0 ty cs2 d (whole_range hg2) hu hd (by rw [hn2]; exact hi)]
theorem results_three {fn : Func} {p q r : Tmp} {ty : TypeId} {P : Program} (h : fn.results = #[.cell p ty, .cell q ty, .cell r ty]) (tmps : Array Value) (w : World) (d : TypeDesc) (hu : P.underlying ty = some d) (hd : d.isRow = true) (n : Nat) (hi : (P.info? ty).map (·.size) = some n) (t : TypeId)
    (g g2 g3 : Nat) (cs cs2 cs3 : List Value) (hp : tmps.getD p undef = .pointer (some ⟨g, 0, none⟩)) (hg : Whole w g t cs.toArray) (hn : cs.length = n) (hq : tmps.getD q undef = .pointer (some ⟨g2, 0, none⟩)) (hg2 : Whole w g2 t cs2.toArray) (hn2 : cs2.length = n) (hr : tmps.getD r undef = .pointer (some ⟨g3, 0, none⟩)) (hg3 : Whole w g3 t cs3.toArray) (hn3 : cs3.length = n) :
    (results fn tmps).run P w = .ok (.tuple #[.agg cs.toArray, .agg cs2.toArray, .agg cs3.toArray]) w := by
  have hp' : tmps[p]?.getD undef = .pointer (some ⟨g, 0, none⟩) := by simpa using hp
  have hq' : tmps[q]?.getD undef = .pointer (some ⟨g2, 0, none⟩) := by simpa using hq
  have hr' : tmps[r]?.getD undef = .pointer (some ⟨g3, 0, none⟩) := by simpa using hr
  simp [results, h, hp', hq', hr', asAddr, run_loadVar_mid w g 0 ty cs d (whole_range hg) hu hd (by rw [hn]; exact hi), run_loadVar_mid w g2 0 ty cs2 d (whole_range hg2) hu hd (by rw [hn2]; exact hi), run_loadVar_mid w g3 0 ty cs3 d (whole_range hg3) hu hd (by rw [hn3]; exact hi)]

set_option maxRecDepth 100000 in
set_option maxHeartbeats 2000000 in
theorem chain1_any (key : Nat → Nat) (hkey : ∀ i, key i < 256) (A2 : Option Addr) (n c2 : Nat) (f : Nat → Nat) (hf : ∀ i, f i < 256) (hn : n ≤ 10000000) (hnc : n ≤ c2) (w : World) (hL : Laid w) (hA2 : Rd w A2 n f) :
    Calls Tryd.prog 26 #[.agg (byteCells key 32).toArray, .slice A2 n c2] w fun e w' => e = .returned (.agg (byteCells (linkF (macF key 32 f n) 0) 32).toArray) ∧ Below w.heap.size w w' := by
  have HL := Lib.hid hL
  have HA2 := Lib.hid hA2
  have HZ32 := Lib.hid (show ∀ f, (byteCells f 32).toArray.size = 32 from fun f => by rw [List.size_toArray, byteCells_length])
  have CC := Lib.hid (chain_any key hkey A2 n c2 f hf hn hnc)
  clear hL hA2 hkey hf
  generalize macF key 32 f n = root at CC ⊢
  go_enter Tryd.func26, Tryd.ntmps26
  go_upto_region 2 with fail
  refine cut_world (fun X => Whole X w.heap.size 27 (byteCells key 32).toArray ∧ Whole X (w.heap.size + 1) 27 (byteCells (fun _ => 0) 32).toArray ∧ Whole X (w.heap.size + 1 + 1) 27 (byteCells (fun _ => 0) 32).toArray ∧ Laid X ∧ Below w.heap.size w X) ⟨((whole_new _ _ rfl).alloc _).alloc _, (whole_new _ _ (by simp)).alloc _, whole_new _ _ (by simp), laid_alloc (laid_alloc (laid_alloc (HL.out) _) _) _, below_alloc (below_alloc (below_alloc (Below.refl _ _) _) _) _⟩ ?_
  rintro W ⟨q0, q1, q2, ql, qb⟩
  have Q0 := Lib.hid q0
  have Q1 := Lib.hid q1
  have Q2 := Lib.hid q2
  have QL := Lib.hid ql
  have QB := Lib.hid qb
  have hlW := q2.lt
  have hw2 := HL.out.size
  clear q0 q1 q2 ql qb
  generalize hB : w.heap.size = B at Q0 Q1 Q2 QB hlW hw2 ⊢
  have hbY : Below W.heap.size W (W.alloc (.cells #[.pointer (some ⟨B + 1 + 1, 0, none⟩)] 66)) := below_alloc (Below.refl _ _) _
  have HLY := Lib.hid (laid_below QL.out hbY)
  have HAY := Lib.hid (HA2.out.below (QB.out.trans (hbY.mono (by omega))) (Nat.le_of_eq hB))
  have HBY := Lib.hid (QB.out.trans (hbY.mono (by omega)))
  have R1 := Lib.hid (Q1.out.below hbY Q1.out.lt)
  have R2 := Lib.hid (Q2.out.below hbY Q2.out.lt)
  have HLK := Lib.hid (show LinksAt (W.alloc (.cells #[.pointer (some ⟨B + 1 + 1, 0, none⟩)] 66)) (B + 1 + 1) W.heap.size 1 (fun j => B + 1 + 1 + j) from ⟨by simp, fun j hj => by match j, hj with | 0, _ => rw [(Whole.new W 66 #[.pointer (some ⟨B + 1 + 1, 0, none⟩)]).cell]; rfl, fun j hj => by omega, fun j hj => by omega, fun i j _ _ h => by omega⟩)
  have HZS := Lib.hid (show ∀ i, i < 1 → Whole (W.alloc (.cells #[.pointer (some ⟨B + 1 + 1, 0, none⟩)] 66)) ((fun j => B + 1 + 1 + j) i) 27 (byteCells (fun _ => 0) 32).toArray from fun i hi => by match i, hi with | 0, _ => exact R2.out)
  clear hbY QL QB HA2 HL R2
  go_wp2_with (refine wpList_load_row rfl 27 (.tmp 2) rfl B rfl 27 (byteCells key 32).toArray (0, 0) _ Q0.out rfl rfl (by rw [HZ32.out]; kernel_rfl) ?_)
  refine (CC.out W.heap.size 1 (B + 1 + 1) (fun j => B + 1 + 1 + j) (by omega) (by omega) _ HLY.out HAY.out (by simp; omega) HLK.out HZS.out).mono ?_
  rintro e w3 ⟨rfl, hd, hb3⟩
  have D0 := Lib.hid (show Whole w3 (B + 1 + 1) 27 (byteCells (linkF root 0) 32).toArray from hd 0 (by omega))
  have S0 := Lib.hid (R1.out.below hb3 (by omega))
  have SB := Lib.hid (HBY.out.trans (hb3.mono (by omega)))
  clear hd hb3 R1 HBY HLY HAY HLK HZS CC Q0 Q1 Q2
  generalize hF0 : linkF root 0 = F0 at D0 ⊢
  have HF0 := Lib.hid hF0
  clear hF0
  go_wp2_with (first | (refine wpList_load_row rfl 27 (.tmp 5) rfl (B + 1 + 1) rfl 27 (byteCells F0 32).toArray (0, 0) _ D0.out rfl rfl (by rw [HZ32.out]; kernel_rfl) ?_) | (refine wpList_store_row rfl 27 (.tmp 4) (.tmp 10) rfl (B + 1) (byteCells F0 32).toArray rfl rfl 27 _ S0.out (by rw [HZ32.out]; kernel_rfl) (by rw [HZ32.out, HZ32.out]) (bytes_one _ _) ?_))
  have hret : Whole (w3.setRow (B + 1) (byteCells F0 32).toArray) (B + 1) 27 (byteCells F0 32).toArray := setRow_heap _ _ _ _ _ _ S0.out
  refine bodyPost_ret (results_cell_row rfl _ _ (B + 1) 27 _ (0, 0) _ rfl hret rfl rfl (by rw [HZ32.out]; kernel_rfl)) rfl ?_
  exact ⟨by rw [HF0.out], by rw [hB]; exact below_setRow SB.out (by omega) _⟩

set_option maxRecDepth 100000 in
set_option maxHeartbeats 2000000 in
theorem chain2_any (key : Nat → Nat) (hkey : ∀ i, key i < 256) (A2 : Option Addr) (n c2 : Nat) (f : Nat → Nat) (hf : ∀ i, f i < 256) (hn : n ≤ 10000000) (hnc : n ≤ c2) (w : World) (hL : Laid w) (hA2 : Rd w A2 n f) :
    Calls Tryd.prog 27 #[.agg (byteCells key 32).toArray, .slice A2 n c2] w fun e w' => e = .returned (.tuple #[.agg (byteCells (linkF (macF key 32 f n) 0) 32).toArray, .agg (byteCells (linkF (macF key 32 f n) 1) 32).toArray]) ∧ Below w.heap.size w w' := by
  have HL := Lib.hid hL
  have HA2 := Lib.hid hA2
  have HZ32 := Lib.hid (show ∀ f, (byteCells f 32).toArray.size = 32 from fun f => by rw [List.size_toArray, byteCells_length])
  have CC := Lib.hid (chain_any key hkey A2 n c2 f hf hn hnc)
  clear hL hA2 hkey hf
  generalize macF key 32 f n = root at CC ⊢
  go_enter Tryd.func27, Tryd.ntmps27
  go_upto_region 2 with fail
  refine cut_world (fun X => Whole X w.heap.size 27 (byteCells key 32).toArray ∧ Whole X (w.heap.size + 1) 27 (byteCells (fun _ => 0) 32).toArray ∧ Whole X (w.heap.size + 1 + 1) 27 (byteCells (fun _ => 0) 32).toArray ∧ Whole X (w.heap.size + 1 + 1 + 1) 27 (byteCells (fun _ => 0) 32).toArray ∧ Whole X (w.heap.size + 1 + 1 + 1 + 1) 27 (byteCells (fun _ => 0) 32).toArray ∧ Laid X ∧ Below w.heap.size w X) ⟨((((whole_new _ _ rfl).alloc _).alloc _).alloc _).alloc _, (((whole_new _ _ (by simp)).alloc _).alloc _).alloc _, ((whole_new _ _ (by simp)).alloc _).alloc _, (whole_new _ _ (by simp)).alloc _, whole_new _ _ (by simp), laid_alloc (laid_alloc (laid_alloc (laid_alloc (laid_alloc (HL.out) _) _) _) _) _, below_alloc (below_alloc (below_alloc (below_alloc (below_alloc (Below.refl _ _) _) _) _) _) _⟩ ?_
  rintro W ⟨q0, q1, q2, q3, q4, ql, qb⟩
  have Q0 := Lib.hid q0
  have Q1 := Lib.hid q1
  have Q2 := Lib.hid q2
  have Q3 := Lib.hid q3
  have Q4 := Lib.hid q4
  have QL := Lib.hid ql
  have QB := Lib.hid qb
  have hlW := q4.lt
  have hw2 := HL.out.size
  clear q0 q1 q2 q3 q4 ql qb
  generalize hB : w.heap.size = B at Q0 Q1 Q2 Q3 Q4 QB hlW hw2 ⊢
  have hbY : Below W.heap.size W (W.alloc (.cells #[.pointer (some ⟨B + 1 + 1 + 1, 0, none⟩), .pointer (some ⟨B + 1 + 1 + 1 + 1, 0, none⟩)] 66)) := below_alloc (Below.refl _ _) _
  have HLY := Lib.hid (laid_below QL.out hbY)
  have HAY := Lib.hid (HA2.out.below (QB.out.trans (hbY.mono (by omega))) (Nat.le_of_eq hB))
  have HBY := Lib.hid (QB.out.trans (hbY.mono (by omega)))
  have R1 := Lib.hid (Q1.out.below hbY Q1.out.lt)
  have R2 := Lib.hid (Q2.out.below hbY Q2.out.lt)
  have R3 := Lib.hid (Q3.out.below hbY Q3.out.lt)
  have R4 := Lib.hid (Q4.out.below hbY Q4.out.lt)
  have HLK := Lib.hid (show LinksAt (W.alloc (.cells #[.pointer (some ⟨B + 1 + 1 + 1, 0, none⟩), .pointer (some ⟨B + 1 + 1 + 1 + 1, 0, none⟩)] 66)) (B + 1 + 1 + 1) W.heap.size 2 (fun j => B + 1 + 1 + 1 + j) from ⟨by simp, fun j hj => by match j, hj with | 0, _ => rw [(Whole.new W 66 #[.pointer (some ⟨B + 1 + 1 + 1, 0, none⟩), .pointer (some ⟨B + 1 + 1 + 1 + 1, 0, none⟩)]).cell]; rfl | 1, _ => rw [(Whole.new W 66 #[.pointer (some ⟨B + 1 + 1 + 1, 0, none⟩), .pointer (some ⟨B + 1 + 1 + 1 + 1, 0, none⟩)]).cell]; rfl, fun j hj => by omega, fun j hj => by omega, fun i j _ _ h => by omega⟩)
  have HZS := Lib.hid (show ∀ i, i < 2 → Whole (W.alloc (.cells #[.pointer (some ⟨B + 1 + 1 + 1, 0, none⟩), .pointer (some ⟨B + 1 + 1 + 1 + 1, 0, none⟩)] 66)) ((fun j => B + 1 + 1 + 1 + j) i) 27 (byteCells (fun _ => 0) 32).toArray from fun i hi => by match i, hi with | 0, _ => exact R3.out | 1, _ => exact R4.out)
  clear hbY QL QB HA2 HL R3 R4
  go_wp2_with (refine wpList_load_row rfl 27 (.tmp 2) rfl B rfl 27 (byteCells key 32).toArray (0, 0) _ Q0.out rfl rfl (by rw [HZ32.out]; kernel_rfl) ?_)
  refine (CC.out W.heap.size 2 (B + 1 + 1 + 1) (fun j => B + 1 + 1 + 1 + j) (by omega) (by omega) _ HLY.out HAY.out (by simp; omega) HLK.out HZS.out).mono ?_
  rintro e w3 ⟨rfl, hd, hb3⟩
  have D0 := Lib.hid (show Whole w3 (B + 1 + 1 + 1) 27 (byteCells (linkF root 0) 32).toArray from hd 0 (by omega))
  have D1 := Lib.hid (show Whole w3 (B + 1 + 1 + 1 + 1) 27 (byteCells (linkF root 1) 32).toArray from hd 1 (by omega))
  have S0 := Lib.hid (R1.out.below hb3 (by omega))
  have S1 := Lib.hid (R2.out.below hb3 (by omega))
  have SB := Lib.hid (HBY.out.trans (hb3.mono (by omega)))
  clear hd hb3 R1 R2 HBY HLY HAY HLK HZS CC Q0 Q1 Q2 Q3 Q4
  generalize hF0 : linkF root 0 = F0 at D0 ⊢
  have HF0 := Lib.hid hF0
  clear hF0
  generalize hF1 : linkF root 1 = F1 at D1 ⊢
  have HF1 := Lib.hid hF1
  clear hF1
  go_wp2_with fail
  refine region_drew (fun X => Whole X (B + 1 + 1 + 1) 27 (byteCells F0 32).toArray ∧ Whole X (B + 1 + 1 + 1 + 1) 27 (byteCells F1 32).toArray) (by kernel_rfl) ⟨D0.out.drew, D1.out.drew⟩ ?_
  intro hS
  refine take 0 _ rfl (by kernel_rfl) (by kernel_rfl) (by kernel_rfl) (fun _ _ _ h => h) (by rfl) hS (fun w hw => run_load_op 27 (.tmp 6) rfl (B + 1 + 1 + 1) rfl (hw.1) rfl rfl (by rw [HZ32.out]; kernel_rfl)) ?_
  try simp only [Act.put, List.setIfInBounds_toArray, List.set_cons_zero, List.set_cons_succ]
  refine take 1 _ rfl (by kernel_rfl) (by kernel_rfl) (by kernel_rfl) (fun _ _ _ h => h) (by rfl) hS (fun w hw => run_load_op 27 (.tmp 7) rfl (B + 1 + 1 + 1 + 1) rfl (hw.2) rfl rfl (by rw [HZ32.out]; kernel_rfl)) ?_
  try simp only [Act.put, List.setIfInBounds_toArray, List.set_cons_zero, List.set_cons_succ]
  have T0 := Lib.hid (S0.out.drew)
  have T1 := Lib.hid (S1.out.drew)
  have TB := Lib.hid (below_drewN SB.out 1)
  have U0 : Whole (w3.drew) (B + 1) 27 (byteCells (fun _ => 0) 32).toArray := T0.out
  refine alone 2 rfl (by kernel_rfl) (by rfl) ?_
  intro K hK
  refine wp_store_row 27 (.tmp 4) (.tmp 12) rfl (B + 1) (byteCells F0 32).toArray (by rfl) (by rfl) 27 _ U0 (by rw [HZ32.out]; kernel_rfl) (by rw [HZ32.out, HZ32.out]) (bytes_one _ _) ?_
  replace hS := And.intro (Whole.farRow hS.1 (show B + 1 + 1 + 1 ≠ B + 1 by omega) (byteCells F0 32).toArray) (Whole.farRow hS.2 (show B + 1 + 1 + 1 + 1 ≠ B + 1 by omega) (byteCells F0 32).toArray)
  refine hK.out _ _ hS ?_
  clear hK K
  try simp only [Act.put]
  have U1 : Whole ((w3.drew).setRow (B + 1) (byteCells F0 32).toArray) (B + 1 + 1) 27 (byteCells (fun _ => 0) 32).toArray := (setRow_other _ _ _ _ (by omega)).trans (T1.out)
  refine alone 3 rfl (by kernel_rfl) (by rfl) ?_
  intro K hK
  refine wp_store_row 27 (.tmp 5) (.tmp 13) rfl (B + 1 + 1) (byteCells F1 32).toArray (by rfl) (by rfl) 27 _ U1 (by rw [HZ32.out]; kernel_rfl) (by rw [HZ32.out, HZ32.out]) (bytes_one _ _) ?_
  replace hS := And.intro (Whole.farRow hS.1 (show B + 1 + 1 + 1 ≠ B + 1 + 1 by omega) (byteCells F1 32).toArray) (Whole.farRow hS.2 (show B + 1 + 1 + 1 + 1 ≠ B + 1 + 1 by omega) (byteCells F1 32).toArray)
  refine hK.out _ _ hS ?_
  clear hK K
  try simp only [Act.put]
  refine region_end (by kernel_rfl) ?_
  have V0 : Whole (((w3.drew).setRow (B + 1) (byteCells F0 32).toArray).setRow (B + 1 + 1) (byteCells F1 32).toArray) (B + 1) 27 (byteCells F0 32).toArray := (setRow_other _ _ _ _ (by omega)).trans (setRow_heap _ _ _ _ _ _ U0)
  have V1 : Whole (((w3.drew).setRow (B + 1) (byteCells F0 32).toArray).setRow (B + 1 + 1) (byteCells F1 32).toArray) (B + 1 + 1) 27 (byteCells F1 32).toArray := setRow_heap _ _ _ _ _ _ U1
  have VB : Below B w (((w3.drew).setRow (B + 1) (byteCells F0 32).toArray).setRow (B + 1 + 1) (byteCells F1 32).toArray) := below_setRow (below_setRow (TB.out) (by omega) _) (by omega) _
  go_wp2_with fail
  have LE := fun G => byteCells_length G 32
  refine bodyPost_ret (results_two rfl _ _ _ rfl rfl 32 (by kernel_rfl) 27 (B + 1) (B + 1 + 1) _ _ rfl V0 (LE _) rfl V1 (LE _)) rfl ?_
  exact ⟨by rw [HF0.out, HF1.out], by rw [hB]; exact VB⟩

set_option maxRecDepth 100000 in
set_option maxHeartbeats 2000000 in
theorem chain3_any (key : Nat → Nat) (hkey : ∀ i, key i < 256) (A2 : Option Addr) (n c2 : Nat) (f : Nat → Nat) (hf : ∀ i, f i < 256) (hn : n ≤ 10000000) (hnc : n ≤ c2) (w : World) (hL : Laid w) (hA2 : Rd w A2 n f) :
    Calls Tryd.prog 28 #[.agg (byteCells key 32).toArray, .slice A2 n c2] w fun e w' => e = .returned (.tuple #[.agg (byteCells (linkF (macF key 32 f n) 0) 32).toArray, .agg (byteCells (linkF (macF key 32 f n) 1) 32).toArray, .agg (byteCells (linkF (macF key 32 f n) 2) 32).toArray]) ∧ Below w.heap.size w w' := by
  have HL := Lib.hid hL
  have HA2 := Lib.hid hA2
  have HZ32 := Lib.hid (show ∀ f, (byteCells f 32).toArray.size = 32 from fun f => by rw [List.size_toArray, byteCells_length])
  have CC := Lib.hid (chain_any key hkey A2 n c2 f hf hn hnc)
  clear hL hA2 hkey hf
  generalize macF key 32 f n = root at CC ⊢
  go_enter Tryd.func28, Tryd.ntmps28
  go_upto_region 2 with fail
  refine cut_world (fun X => Whole X w.heap.size 27 (byteCells key 32).toArray ∧ Whole X (w.heap.size + 1) 27 (byteCells (fun _ => 0) 32).toArray ∧ Whole X (w.heap.size + 1 + 1) 27 (byteCells (fun _ => 0) 32).toArray ∧ Whole X (w.heap.size + 1 + 1 + 1) 27 (byteCells (fun _ => 0) 32).toArray ∧ Whole X (w.heap.size + 1 + 1 + 1 + 1) 27 (byteCells (fun _ => 0) 32).toArray ∧ Whole X (w.heap.size + 1 + 1 + 1 + 1 + 1) 27 (byteCells (fun _ => 0) 32).toArray ∧ Whole X (w.heap.size + 1 + 1 + 1 + 1 + 1 + 1) 27 (byteCells (fun _ => 0) 32).toArray ∧ Laid X ∧ Below w.heap.size w X) ⟨((((((whole_new _ _ rfl).alloc _).alloc _).alloc _).alloc _).alloc _).alloc _, (((((whole_new _ _ (by simp)).alloc _).alloc _).alloc _).alloc _).alloc _, ((((whole_new _ _ (by simp)).alloc _).alloc _).alloc _).alloc _, (((whole_new _ _ (by simp)).alloc _).alloc _).alloc _, ((whole_new _ _ (by simp)).alloc _).alloc _, (whole_new _ _ (by simp)).alloc _, whole_new _ _ (by simp), laid_alloc (laid_alloc (laid_alloc (laid_alloc (laid_alloc (laid_alloc (laid_alloc (HL.out) _) _) _) _) _) _) _, below_alloc (below_alloc (below_alloc (below_alloc (below_alloc (below_alloc (below_alloc (Below.refl _ _) _) _) _) _) _) _) _⟩ ?_
  rintro W ⟨q0, q1, q2, q3, q4, q5, q6, ql, qb⟩
  have Q0 := Lib.hid q0
  have Q1 := Lib.hid q1
  have Q2 := Lib.hid q2
  have Q3 := Lib.hid q3
  have Q4 := Lib.hid q4
  have Q5 := Lib.hid q5
  have Q6 := Lib.hid q6
  have QL := Lib.hid ql
  have QB := Lib.hid qb
  have hlW := q6.lt
  have hw2 := HL.out.size
  clear q0 q1 q2 q3 q4 q5 q6 ql qb
  generalize hB : w.heap.size = B at Q0 Q1 Q2 Q3 Q4 Q5 Q6 QB hlW hw2 ⊢
  have hbY : Below W.heap.size W (W.alloc (.cells #[.pointer (some ⟨B + 1 + 1 + 1 + 1, 0, none⟩), .pointer (some ⟨B + 1 + 1 + 1 + 1 + 1, 0, none⟩), .pointer (some ⟨B + 1 + 1 + 1 + 1 + 1 + 1, 0, none⟩)] 66)) := below_alloc (Below.refl _ _) _
  have HLY := Lib.hid (laid_below QL.out hbY)
  have HAY := Lib.hid (HA2.out.below (QB.out.trans (hbY.mono (by omega))) (Nat.le_of_eq hB))
  have HBY := Lib.hid (QB.out.trans (hbY.mono (by omega)))
  have R1 := Lib.hid (Q1.out.below hbY Q1.out.lt)
  have R2 := Lib.hid (Q2.out.below hbY Q2.out.lt)
  have R3 := Lib.hid (Q3.out.below hbY Q3.out.lt)
  have R4 := Lib.hid (Q4.out.below hbY Q4.out.lt)
  have R5 := Lib.hid (Q5.out.below hbY Q5.out.lt)
  have R6 := Lib.hid (Q6.out.below hbY Q6.out.lt)
  have HLK := Lib.hid (show LinksAt (W.alloc (.cells #[.pointer (some ⟨B + 1 + 1 + 1 + 1, 0, none⟩), .pointer (some ⟨B + 1 + 1 + 1 + 1 + 1, 0, none⟩), .pointer (some ⟨B + 1 + 1 + 1 + 1 + 1 + 1, 0, none⟩)] 66)) (B + 1 + 1 + 1 + 1) W.heap.size 3 (fun j => B + 1 + 1 + 1 + 1 + j) from ⟨by simp, fun j hj => by match j, hj with | 0, _ => rw [(Whole.new W 66 #[.pointer (some ⟨B + 1 + 1 + 1 + 1, 0, none⟩), .pointer (some ⟨B + 1 + 1 + 1 + 1 + 1, 0, none⟩), .pointer (some ⟨B + 1 + 1 + 1 + 1 + 1 + 1, 0, none⟩)]).cell]; rfl | 1, _ => rw [(Whole.new W 66 #[.pointer (some ⟨B + 1 + 1 + 1 + 1, 0, none⟩), .pointer (some ⟨B + 1 + 1 + 1 + 1 + 1, 0, none⟩), .pointer (some ⟨B + 1 + 1 + 1 + 1 + 1 + 1, 0, none⟩)]).cell]; rfl | 2, _ => rw [(Whole.new W 66 #[.pointer (some ⟨B + 1 + 1 + 1 + 1, 0, none⟩), .pointer (some ⟨B + 1 + 1 + 1 + 1 + 1, 0, none⟩), .pointer (some ⟨B + 1 + 1 + 1 + 1 + 1 + 1, 0, none⟩)]).cell]; rfl, fun j hj => by omega, fun j hj => by omega, fun i j _ _ h => by omega⟩)
  have HZS := Lib.hid (show ∀ i, i < 3 → Whole (W.alloc (.cells #[.pointer (some ⟨B + 1 + 1 + 1 + 1, 0, none⟩), .pointer (some ⟨B + 1 + 1 + 1 + 1 + 1, 0, none⟩), .pointer (some ⟨B + 1 + 1 + 1 + 1 + 1 + 1, 0, none⟩)] 66)) ((fun j => B + 1 + 1 + 1 + 1 + j) i) 27 (byteCells (fun _ => 0) 32).toArray from fun i hi => by match i, hi with | 0, _ => exact R4.out | 1, _ => exact R5.out | 2, _ => exact R6.out)
  clear hbY QL QB HA2 HL R4 R5 R6
  go_wp2_with (refine wpList_load_row rfl 27 (.tmp 2) rfl B rfl 27 (byteCells key 32).toArray (0, 0) _ Q0.out rfl rfl (by rw [HZ32.out]; kernel_rfl) ?_)
  refine (CC.out W.heap.size 3 (B + 1 + 1 + 1 + 1) (fun j => B + 1 + 1 + 1 + 1 + j) (by omega) (by omega) _ HLY.out HAY.out (by simp; omega) HLK.out HZS.out).mono ?_
  rintro e w3 ⟨rfl, hd, hb3⟩
  have D0 := Lib.hid (show Whole w3 (B + 1 + 1 + 1 + 1) 27 (byteCells (linkF root 0) 32).toArray from hd 0 (by omega))
  have D1 := Lib.hid (show Whole w3 (B + 1 + 1 + 1 + 1 + 1) 27 (byteCells (linkF root 1) 32).toArray from hd 1 (by omega))
  have D2 := Lib.hid (show Whole w3 (B + 1 + 1 + 1 + 1 + 1 + 1) 27 (byteCells (linkF root 2) 32).toArray from hd 2 (by omega))
  have S0 := Lib.hid (R1.out.below hb3 (by omega))
  have S1 := Lib.hid (R2.out.below hb3 (by omega))
  have S2 := Lib.hid (R3.out.below hb3 (by omega))
  have SB := Lib.hid (HBY.out.trans (hb3.mono (by omega)))
  clear hd hb3 R1 R2 R3 HBY HLY HAY HLK HZS CC Q0 Q1 Q2 Q3 Q4 Q5 Q6
  generalize hF0 : linkF root 0 = F0 at D0 ⊢
  have HF0 := Lib.hid hF0
  clear hF0
  generalize hF1 : linkF root 1 = F1 at D1 ⊢
  have HF1 := Lib.hid hF1
  clear hF1
  generalize hF2 : linkF root 2 = F2 at D2 ⊢
  have HF2 := Lib.hid hF2
  clear hF2
  go_wp2_with fail
  refine region_drew (fun X => Whole X (B + 1 + 1 + 1 + 1) 27 (byteCells F0 32).toArray ∧ Whole X (B + 1 + 1 + 1 + 1 + 1) 27 (byteCells F1 32).toArray ∧ Whole X (B + 1 + 1 + 1 + 1 + 1 + 1) 27 (byteCells F2 32).toArray) (by kernel_rfl) ⟨D0.out.drew, D1.out.drew, D2.out.drew⟩ ?_
  intro hS
  refine take 0 _ rfl (by kernel_rfl) (by kernel_rfl) (by kernel_rfl) (fun _ _ _ h => h) (by rfl) hS (fun w hw => run_load_op 27 (.tmp 7) rfl (B + 1 + 1 + 1 + 1) rfl (hw.1) rfl rfl (by rw [HZ32.out]; kernel_rfl)) ?_
  try simp only [Act.put, List.setIfInBounds_toArray, List.set_cons_zero, List.set_cons_succ]
  refine take 1 _ rfl (by kernel_rfl) (by kernel_rfl) (by kernel_rfl) (fun _ _ _ h => h) (by rfl) hS (fun w hw => run_load_op 27 (.tmp 8) rfl (B + 1 + 1 + 1 + 1 + 1) rfl (hw.2.1) rfl rfl (by rw [HZ32.out]; kernel_rfl)) ?_
  try simp only [Act.put, List.setIfInBounds_toArray, List.set_cons_zero, List.set_cons_succ]
  refine take 2 _ rfl (by kernel_rfl) (by kernel_rfl) (by kernel_rfl) (fun _ _ _ h => h) (by rfl) hS (fun w hw => run_load_op 27 (.tmp 9) rfl (B + 1 + 1 + 1 + 1 + 1 + 1) rfl (hw.2.2) rfl rfl (by rw [HZ32.out]; kernel_rfl)) ?_
  try simp only [Act.put, List.setIfInBounds_toArray, List.set_cons_zero, List.set_cons_succ]
  have T0 := Lib.hid (S0.out.drew)
  have T1 := Lib.hid (S1.out.drew)
  have T2 := Lib.hid (S2.out.drew)
  have TB := Lib.hid (below_drewN SB.out 1)
  have U0 : Whole (w3.drew) (B + 1) 27 (byteCells (fun _ => 0) 32).toArray := T0.out
  refine alone 3 rfl (by kernel_rfl) (by rfl) ?_
  intro K hK
  refine wp_store_row 27 (.tmp 4) (.tmp 14) rfl (B + 1) (byteCells F0 32).toArray (by rfl) (by rfl) 27 _ U0 (by rw [HZ32.out]; kernel_rfl) (by rw [HZ32.out, HZ32.out]) (bytes_one _ _) ?_
  replace hS := And.intro (Whole.farRow hS.1 (show B + 1 + 1 + 1 + 1 ≠ B + 1 by omega) (byteCells F0 32).toArray) (And.intro (Whole.farRow hS.2.1 (show B + 1 + 1 + 1 + 1 + 1 ≠ B + 1 by omega) (byteCells F0 32).toArray) (Whole.farRow hS.2.2 (show B + 1 + 1 + 1 + 1 + 1 + 1 ≠ B + 1 by omega) (byteCells F0 32).toArray))
  refine hK.out _ _ hS ?_
  clear hK K
  try simp only [Act.put]
  have U1 : Whole ((w3.drew).setRow (B + 1) (byteCells F0 32).toArray) (B + 1 + 1) 27 (byteCells (fun _ => 0) 32).toArray := (setRow_other _ _ _ _ (by omega)).trans (T1.out)
  refine alone 4 rfl (by kernel_rfl) (by rfl) ?_
  intro K hK
  refine wp_store_row 27 (.tmp 5) (.tmp 15) rfl (B + 1 + 1) (byteCells F1 32).toArray (by rfl) (by rfl) 27 _ U1 (by rw [HZ32.out]; kernel_rfl) (by rw [HZ32.out, HZ32.out]) (bytes_one _ _) ?_
  replace hS := And.intro (Whole.farRow hS.1 (show B + 1 + 1 + 1 + 1 ≠ B + 1 + 1 by omega) (byteCells F1 32).toArray) (And.intro (Whole.farRow hS.2.1 (show B + 1 + 1 + 1 + 1 + 1 ≠ B + 1 + 1 by omega) (byteCells F1 32).toArray) (Whole.farRow hS.2.2 (show B + 1 + 1 + 1 + 1 + 1 + 1 ≠ B + 1 + 1 by omega) (byteCells F1 32).toArray))
  refine hK.out _ _ hS ?_
  clear hK K
  try simp only [Act.put]
  have U2 : Whole (((w3.drew).setRow (B + 1) (byteCells F0 32).toArray).setRow (B + 1 + 1) (byteCells F1 32).toArray) (B + 1 + 1 + 1) 27 (byteCells (fun _ => 0) 32).toArray := (setRow_other _ _ _ _ (by omega)).trans ((setRow_other _ _ _ _ (by omega)).trans (T2.out))
  refine alone 5 rfl (by kernel_rfl) (by rfl) ?_
  intro K hK
  refine wp_store_row 27 (.tmp 6) (.tmp 16) rfl (B + 1 + 1 + 1) (byteCells F2 32).toArray (by rfl) (by rfl) 27 _ U2 (by rw [HZ32.out]; kernel_rfl) (by rw [HZ32.out, HZ32.out]) (bytes_one _ _) ?_
  replace hS := And.intro (Whole.farRow hS.1 (show B + 1 + 1 + 1 + 1 ≠ B + 1 + 1 + 1 by omega) (byteCells F2 32).toArray) (And.intro (Whole.farRow hS.2.1 (show B + 1 + 1 + 1 + 1 + 1 ≠ B + 1 + 1 + 1 by omega) (byteCells F2 32).toArray) (Whole.farRow hS.2.2 (show B + 1 + 1 + 1 + 1 + 1 + 1 ≠ B + 1 + 1 + 1 by omega) (byteCells F2 32).toArray))
  refine hK.out _ _ hS ?_
  clear hK K
  try simp only [Act.put]
  refine region_end (by kernel_rfl) ?_
  have V0 : Whole ((((w3.drew).setRow (B + 1) (byteCells F0 32).toArray).setRow (B + 1 + 1) (byteCells F1 32).toArray).setRow (B + 1 + 1 + 1) (byteCells F2 32).toArray) (B + 1) 27 (byteCells F0 32).toArray := (setRow_other _ _ _ _ (by omega)).trans ((setRow_other _ _ _ _ (by omega)).trans (setRow_heap _ _ _ _ _ _ U0))
  have V1 : Whole ((((w3.drew).setRow (B + 1) (byteCells F0 32).toArray).setRow (B + 1 + 1) (byteCells F1 32).toArray).setRow (B + 1 + 1 + 1) (byteCells F2 32).toArray) (B + 1 + 1) 27 (byteCells F1 32).toArray := (setRow_other _ _ _ _ (by omega)).trans (setRow_heap _ _ _ _ _ _ U1)
  have V2 : Whole ((((w3.drew).setRow (B + 1) (byteCells F0 32).toArray).setRow (B + 1 + 1) (byteCells F1 32).toArray).setRow (B + 1 + 1 + 1) (byteCells F2 32).toArray) (B + 1 + 1 + 1) 27 (byteCells F2 32).toArray := setRow_heap _ _ _ _ _ _ U2
  have VB : Below B w ((((w3.drew).setRow (B + 1) (byteCells F0 32).toArray).setRow (B + 1 + 1) (byteCells F1 32).toArray).setRow (B + 1 + 1 + 1) (byteCells F2 32).toArray) := below_setRow (below_setRow (below_setRow (TB.out) (by omega) _) (by omega) _) (by omega) _
  go_wp2_with fail
  have LE := fun G => byteCells_length G 32
  refine bodyPost_ret (results_three rfl _ _ _ rfl rfl 32 (by kernel_rfl) 27 (B + 1) (B + 1 + 1) (B + 1 + 1 + 1) _ _ _ rfl V0 (LE _) rfl V1 (LE _) rfl V2 (LE _)) rfl ?_
  exact ⟨by rw [HF0.out, HF1.out, HF2.out], by rw [hB]; exact VB⟩

end Kdf
end Go.Proofs.YtljepgddmfelpaaDoor
