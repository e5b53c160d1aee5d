/- 'aditlaw08.KdfChains' returns true at every input and writes nothing that was there: the walk. The condition: the tables read as the program's text lays them. -/
import Derived.Test.YtljepgddmfelpaaDoorKdfAlive
import Derived.Test.YtljepgddmfelpaaDoorRefChain
import Derived.Test.YtljepgddmfelpaaDoorKdfChains
namespace Go.Proofs.YtljepgddmfelpaaDoor
namespace KdfChains
open Go.ChangeShapes Go.WideShapes Go.ChangeAt Go.RowKit
open Num Mem Words State Chacha Quiet Blake Kdf RefB RefK

/-- the document's three links -/
def Want (X : World) (WB : Nat) (R : Nat → Nat) (g dd : Nat) (vs : List (Option Addr × Nat)) : Prop :=
  X.ownsRow WB 22 1 (.slice (some ⟨g, 0, none⟩) 3 dd) 3 (vs.map lval) ∧ Links X R 3 vs ∧ True
theorem Want.below {X Y : World} {WB : Nat} {R : Nat → Nat} {g dd : Nat} {vs : List (Option Addr × Nat)} (h : Want X WB R g dd vs) (hb : Below X.heap.size X Y) : Want Y WB R g dd vs :=
  ⟨owns_below h.1 hb (Nat.le_refl _), h.2.1.below hb, trivial⟩

set_option maxRecDepth 100000 in
set_option maxHeartbeats 8000000 in
theorem run (key : Nat → Nat) (hkey : ∀ i, key i < 256) (A2 : Option Addr) (n c2 : Nat) (f : Nat → Nat) (hf : ∀ i, f i < 256) (hnc : n ≤ c2) (hn : n ≤ 300) (w : World) (hL : Laid w) (hA2 : Rd w A2 n f) (hSB : Src w A2 n c2 f) :
    Calls Tryd.prog 9 #[.agg (byteCells key 32).toArray, .slice A2 n c2] w fun e w' => e = .returned (.bool true) ∧ Below w.heap.size w w' := by
  have d : decide ((300 : Int) < (n : Int)) = false := decide_eq_false (by omega)
  have C1 := chain1_any key hkey A2 n c2 f hf (by omega) hnc
  have C2 := chain2_any key hkey A2 n c2 f hf (by omega) hnc
  have C3 := chain3_any key hkey A2 n c2 f hf (by omega) hnc
  have CR := chain_ref (some ⟨w.heap.size, 0, none⟩) A2 32 n c2 key f hkey hf (by omega)
  obtain ⟨R, hR⟩ : ∃ R, macF key 32 f n = R := ⟨_, rfl⟩
  rw [hR] at C1 C2 C3 CR
  obtain ⟨L0, h0⟩ : ∃ L, linkF R 0 = L := ⟨_, rfl⟩
  obtain ⟨L1, h1⟩ : ∃ L, linkF R 1 = L := ⟨_, rfl⟩
  obtain ⟨L2, h2⟩ : ∃ L, linkF R 2 = L := ⟨_, rfl⟩
  rw [h0] at C1 C2 C3
  rw [h1] at C2 C3
  rw [h2] at C3
  replace C1 := Lib.hid C1
  replace C2 := Lib.hid C2
  replace C3 := Lib.hid C3
  replace CR := Lib.hid CR
  have H0 := Lib.hid h0
  have H1 := Lib.hid h1
  have H2 := Lib.hid h2
  have HL := Lib.hid hL
  have HA2 := Lib.hid hA2
  have HSB := Lib.hid hSB
  have HZ32 := Lib.hid (show ∀ f, (byteCells f 32).toArray.size = 32 from fun f => by rw [List.size_toArray, byteCells_length])
  clear hkey hf hL hA2 hSB hR h0 h1 h2
  go_enter Tryd.func9, Tryd.ntmps9
  go_upto_region 1 with fail
  refine cut_world (fun X => Whole X w.heap.size 27 (byteCells key 32).toArray ∧ Laid X ∧ Below w.heap.size w X) ⟨whole_new _ _ rfl, laid_alloc HL.out _, below_alloc (Below.refl _ _) _⟩ ?_
  rintro W ⟨q1, ql, qb⟩
  have KB := Lib.hid q1
  have QL := Lib.hid ql
  have QB := Lib.hid qb
  have QS := Lib.hid (src_below HSB.out qb)
  clear q1 ql qb HSB
  generalize hB : w.heap.size = B at KB QB CR ⊢
  go_wp2_with fail
  refine (CR.out W (Rd.of_whole KB.out) QS.out).mono ?_
  rintro e w0 ⟨g, dd, vs, rfl, ho, hlk, hb0⟩
  obtain ⟨WB, hWB⟩ : ∃ b, W.heap.size = b := ⟨_, rfl⟩
  have hBW0 : B ≤ W.heap.size := Nat.le_of_lt KB.out.lt
  replace QB := Lib.hid (QB.out.trans (hb0.mono hBW0))
  replace KB := Lib.hid (KB.out.below hb0 KB.out.lt)
  replace QL := Lib.hid (laid_below QL.out hb0)
  rw [hWB] at ho
  have QV := Lib.hid (show Want w0 WB R g dd vs from ⟨ho, hlk, trivial⟩)
  clear ho hlk hb0 QS CR hWB hBW0
  go_wp2_with (refine wpList_load_row rfl 27 (.tmp 2) rfl B rfl 27 (byteCells key 32).toArray (0, 0) _ KB.out rfl rfl (by rw [HZ32.out]; kernel_rfl) ?_)
  refine (C1.out _ QL.out (HA2.out.below QB.out (Nat.le_of_eq hB))).mono ?_
  rintro e w1 ⟨rfl, hb1⟩
  have hb2 := below_trans hb1 (below_setRow (below_alloc (Below.refl w1.heap.size w1) (.cells #[.int .u8 0, .int .u8 0, .int .u8 0, .int .u8 0, .int .u8 0, .int .u8 0, .int .u8 0, .int .u8 0, .int .u8 0, .int .u8 0, .int .u8 0, .int .u8 0, .int .u8 0, .int .u8 0, .int .u8 0, .int .u8 0, .int .u8 0, .int .u8 0, .int .u8 0, .int .u8 0, .int .u8 0, .int .u8 0, .int .u8 0, .int .u8 0, .int .u8 0, .int .u8 0, .int .u8 0, .int .u8 0, .int .u8 0, .int .u8 0, .int .u8 0, .int .u8 0] 27)) (show w1.heap.size ≤ w1.heap.size by omega) (byteCells L0 32).toArray)
  go_upto_region 5 with (first | (refine wpList_store_row rfl 27 (.tmp 6) (.tmp 21) rfl (w1.heap.size) (byteCells L0 32).toArray rfl rfl 27 _ (Whole.new _ _ _) (by rw [HZ32.out]; kernel_rfl) (by rw [HZ32.out]; rfl) (bytes_one _ _) ?_))
  try simp only [Act.put]
  refine cut_world (fun X => Whole X (B) 27 (byteCells key 32).toArray ∧ Whole X (w1.heap.size) 27 (byteCells L0 32).toArray ∧ Want X WB R g dd vs ∧ Laid X ∧ Below B w X) ⟨KB.out.below hb2 KB.out.lt, setRow_heap _ _ _ _ _ _ (Whole.new _ _ _), QV.out.below hb2, laid_below QL.out hb2, QB.out.trans (hb2.mono (by have := KB.out.lt; omega))⟩ ?_
  clear hb1 hb2 KB QL QB QV
  generalize w1.heap.size = b6
  rintro W ⟨qKB, qK6, qv, ql, qb⟩
  have KB := Lib.hid qKB
  have K6 := Lib.hid qK6
  have QV := Lib.hid qv
  have QL := Lib.hid ql
  have QB := Lib.hid qb
  clear qKB qK6 qv ql qb
  go_wp2_with (refine wpList_load_row rfl 27 (.tmp 2) rfl B rfl 27 (byteCells key 32).toArray (0, 0) _ KB.out rfl rfl (by rw [HZ32.out]; kernel_rfl) ?_)
  refine (C2.out _ QL.out (HA2.out.below QB.out (Nat.le_of_eq hB))).mono ?_
  rintro e w1 ⟨rfl, hb1⟩
  have hb2 := below_trans hb1 (below_setRow (below_setRow (below_alloc (below_alloc (Below.refl w1.heap.size w1) (.cells #[.int .u8 0, .int .u8 0, .int .u8 0, .int .u8 0, .int .u8 0, .int .u8 0, .int .u8 0, .int .u8 0, .int .u8 0, .int .u8 0, .int .u8 0, .int .u8 0, .int .u8 0, .int .u8 0, .int .u8 0, .int .u8 0, .int .u8 0, .int .u8 0, .int .u8 0, .int .u8 0, .int .u8 0, .int .u8 0, .int .u8 0, .int .u8 0, .int .u8 0, .int .u8 0, .int .u8 0, .int .u8 0, .int .u8 0, .int .u8 0, .int .u8 0, .int .u8 0] 27)) (.cells #[.int .u8 0, .int .u8 0, .int .u8 0, .int .u8 0, .int .u8 0, .int .u8 0, .int .u8 0, .int .u8 0, .int .u8 0, .int .u8 0, .int .u8 0, .int .u8 0, .int .u8 0, .int .u8 0, .int .u8 0, .int .u8 0, .int .u8 0, .int .u8 0, .int .u8 0, .int .u8 0, .int .u8 0, .int .u8 0, .int .u8 0, .int .u8 0, .int .u8 0, .int .u8 0, .int .u8 0, .int .u8 0, .int .u8 0, .int .u8 0, .int .u8 0, .int .u8 0] 27)) (show w1.heap.size ≤ w1.heap.size by omega) (byteCells L0 32).toArray) (show w1.heap.size ≤ w1.heap.size + 1 by omega) (byteCells L1 32).toArray)
  go_upto_region 6 with (first | (refine wpList_store_row rfl 27 (.tmp 7) (.tmp 26) rfl (w1.heap.size) (byteCells L0 32).toArray rfl rfl 27 _ ((Whole.new _ _ _).alloc _) (by rw [HZ32.out]; kernel_rfl) (by rw [HZ32.out]; rfl) (bytes_one _ _) ?_) | (refine wpList_store_row rfl 27 (.tmp 8) (.tmp 27) rfl (w1.heap.size + 1) (byteCells L1 32).toArray rfl rfl 27 _ ((setRow_other _ _ _ _ (by omega)).trans (whole_new _ _ (by simp))) (by rw [HZ32.out]; kernel_rfl) (by rw [HZ32.out]; rfl) (bytes_one _ _) ?_))
  try simp only [Act.put]
  refine cut_world (fun X => Whole X (B) 27 (byteCells key 32).toArray ∧ Whole X (b6) 27 (byteCells L0 32).toArray ∧ Whole X (w1.heap.size) 27 (byteCells L0 32).toArray ∧ Whole X (w1.heap.size + 1) 27 (byteCells L1 32).toArray ∧ Want X WB R g dd vs ∧ Laid X ∧ Below B w X) ⟨KB.out.below hb2 KB.out.lt, K6.out.below hb2 K6.out.lt, Whole.farRow (setRow_heap _ _ _ _ _ _ ((Whole.new _ _ _).alloc _)) (by omega) _, setRow_heap _ _ _ _ _ _ ((setRow_other _ _ _ _ (by omega)).trans (whole_new _ _ (by simp))), QV.out.below hb2, laid_below QL.out hb2, QB.out.trans (hb2.mono (by have := KB.out.lt; omega))⟩ ?_
  clear hb1 hb2 KB K6 QL QB QV
  obtain ⟨b8, hb8⟩ : ∃ b, w1.heap.size + 1 = b := ⟨_, rfl⟩
  rw [hb8]
  clear hb8
  generalize w1.heap.size = b7
  rintro W ⟨qKB, qK6, qK7, qK8, qv, ql, qb⟩
  have KB := Lib.hid qKB
  have K6 := Lib.hid qK6
  have K7 := Lib.hid qK7
  have K8 := Lib.hid qK8
  have QV := Lib.hid qv
  have QL := Lib.hid ql
  have QB := Lib.hid qb
  clear qKB qK6 qK7 qK8 qv ql qb
  go_wp2_with (refine wpList_load_row rfl 27 (.tmp 2) rfl B rfl 27 (byteCells key 32).toArray (0, 0) _ KB.out rfl rfl (by rw [HZ32.out]; kernel_rfl) ?_)
  refine (C3.out _ QL.out (HA2.out.below QB.out (Nat.le_of_eq hB))).mono ?_
  rintro e w1 ⟨rfl, hb1⟩
  have hb2 := below_trans hb1 (below_setRow (below_setRow (below_setRow (below_alloc (below_alloc (below_alloc (Below.refl w1.heap.size w1) (.cells #[.int .u8 0, .int .u8 0, .int .u8 0, .int .u8 0, .int .u8 0, .int .u8 0, .int .u8 0, .int .u8 0, .int .u8 0, .int .u8 0, .int .u8 0, .int .u8 0, .int .u8 0, .int .u8 0, .int .u8 0, .int .u8 0, .int .u8 0, .int .u8 0, .int .u8 0, .int .u8 0, .int .u8 0, .int .u8 0, .int .u8 0, .int .u8 0, .int .u8 0, .int .u8 0, .int .u8 0, .int .u8 0, .int .u8 0, .int .u8 0, .int .u8 0, .int .u8 0] 27)) (.cells #[.int .u8 0, .int .u8 0, .int .u8 0, .int .u8 0, .int .u8 0, .int .u8 0, .int .u8 0, .int .u8 0, .int .u8 0, .int .u8 0, .int .u8 0, .int .u8 0, .int .u8 0, .int .u8 0, .int .u8 0, .int .u8 0, .int .u8 0, .int .u8 0, .int .u8 0, .int .u8 0, .int .u8 0, .int .u8 0, .int .u8 0, .int .u8 0, .int .u8 0, .int .u8 0, .int .u8 0, .int .u8 0, .int .u8 0, .int .u8 0, .int .u8 0, .int .u8 0] 27)) (.cells #[.int .u8 0, .int .u8 0, .int .u8 0, .int .u8 0, .int .u8 0, .int .u8 0, .int .u8 0, .int .u8 0, .int .u8 0, .int .u8 0, .int .u8 0, .int .u8 0, .int .u8 0, .int .u8 0, .int .u8 0, .int .u8 0, .int .u8 0, .int .u8 0, .int .u8 0, .int .u8 0, .int .u8 0, .int .u8 0, .int .u8 0, .int .u8 0, .int .u8 0, .int .u8 0, .int .u8 0, .int .u8 0, .int .u8 0, .int .u8 0, .int .u8 0, .int .u8 0] 27)) (show w1.heap.size ≤ w1.heap.size by omega) (byteCells L0 32).toArray) (show w1.heap.size ≤ w1.heap.size + 1 by omega) (byteCells L1 32).toArray) (show w1.heap.size ≤ w1.heap.size + 1 + 1 by omega) (byteCells L2 32).toArray)
  go_upto_region 7 with (first | (refine wpList_store_row rfl 27 (.tmp 9) (.tmp 32) rfl (w1.heap.size) (byteCells L0 32).toArray rfl rfl 27 _ (((Whole.new _ _ _).alloc _).alloc _) (by rw [HZ32.out]; kernel_rfl) (by rw [HZ32.out]; rfl) (bytes_one _ _) ?_) | (refine wpList_store_row rfl 27 (.tmp 10) (.tmp 33) rfl (w1.heap.size + 1) (byteCells L1 32).toArray rfl rfl 27 _ ((setRow_other _ _ _ _ (by omega)).trans ((whole_new _ _ (by simp)).alloc _)) (by rw [HZ32.out]; kernel_rfl) (by rw [HZ32.out]; rfl) (bytes_one _ _) ?_) | (refine wpList_store_row rfl 27 (.tmp 11) (.tmp 34) rfl (w1.heap.size + 1 + 1) (byteCells L2 32).toArray rfl rfl 27 _ ((setRow_other _ _ _ _ (by omega)).trans ((setRow_other _ _ _ _ (by omega)).trans (whole_new _ _ (by simp)))) (by rw [HZ32.out]; kernel_rfl) (by rw [HZ32.out]; rfl) (bytes_one _ _) ?_))
  try simp only [Act.put]
  refine cut_world (fun X => Whole X (B) 27 (byteCells key 32).toArray ∧ Whole X (b6) 27 (byteCells L0 32).toArray ∧ Whole X (b7) 27 (byteCells L0 32).toArray ∧ Whole X (b8) 27 (byteCells L1 32).toArray ∧ Whole X (w1.heap.size) 27 (byteCells L0 32).toArray ∧ Whole X (w1.heap.size + 1) 27 (byteCells L1 32).toArray ∧ Whole X (w1.heap.size + 1 + 1) 27 (byteCells L2 32).toArray ∧ Want X WB R g dd vs ∧ Laid X ∧ Below B w X) ⟨KB.out.below hb2 KB.out.lt, K6.out.below hb2 K6.out.lt, K7.out.below hb2 K7.out.lt, K8.out.below hb2 K8.out.lt, Whole.farRow (Whole.farRow (setRow_heap _ _ _ _ _ _ (((Whole.new _ _ _).alloc _).alloc _)) (by omega) _) (by omega) _, Whole.farRow (setRow_heap _ _ _ _ _ _ ((setRow_other _ _ _ _ (by omega)).trans ((whole_new _ _ (by simp)).alloc _))) (by omega) _, setRow_heap _ _ _ _ _ _ ((setRow_other _ _ _ _ (by omega)).trans ((setRow_other _ _ _ _ (by omega)).trans (whole_new _ _ (by simp)))), QV.out.below hb2, laid_below QL.out hb2, QB.out.trans (hb2.mono (by have := KB.out.lt; omega))⟩ ?_
  clear hb1 hb2 KB K6 K7 K8 QL QB QV
  obtain ⟨b11, hb11⟩ : ∃ b, w1.heap.size + 1 + 1 = b := ⟨_, rfl⟩
  rw [hb11]
  clear hb11
  obtain ⟨b10, hb10⟩ : ∃ b, w1.heap.size + 1 = b := ⟨_, rfl⟩
  rw [hb10]
  clear hb10
  generalize w1.heap.size = b9
  rintro W ⟨qKB, qK6, qK7, qK8, qK9, qK10, qK11, qv, ql, qb⟩
  have KB := Lib.hid qKB
  have K6 := Lib.hid qK6
  have K7 := Lib.hid qK7
  have K8 := Lib.hid qK8
  have K9 := Lib.hid qK9
  have K10 := Lib.hid qK10
  have K11 := Lib.hid qK11
  have QV := Lib.hid qv
  have QL := Lib.hid ql
  have QB := Lib.hid qb
  clear qKB qK6 qK7 qK8 qK9 qK10 qK11 qv ql qb
  obtain ⟨p0, p1, p2, rfl⟩ : ∃ p0 p1 p2, vs = [p0, p1, p2] := by
    have hl := QV.out.2.1.len
    match vs, hl with
    | [p0, p1, p2], _ => exact ⟨p0, p1, p2, rfl⟩
  obtain ⟨A0, e0⟩ := p0
  obtain ⟨A1, e1⟩ := p1
  obtain ⟨A2', e2⟩ := p2
  have X0 := Lib.hid (show W.cell? ⟨g, 0, none⟩ = some (.slice A0 32 e0) from (World.ownsRow.cellAt QV.out.1 0 (by omega)))
  have X1 := Lib.hid (show W.cell? ⟨g, 1, none⟩ = some (.slice A1 32 e1) from (World.ownsRow.cellAt QV.out.1 1 (by omega)))
  have X2 := Lib.hid (show W.cell? ⟨g, 2, none⟩ = some (.slice A2' 32 e2) from (World.ownsRow.cellAt QV.out.1 2 (by omega)))
  have hgl := (World.ownsRow.lt QV.out.1 g rfl).2
  have Y0 := Lib.hid (show Rd W A0 32 L0 from by rw [← H0.out]; exact QV.out.2.1.rd 0 (A0, e0) rfl)
  have Y1 := Lib.hid (show Rd W A1 32 L1 from by rw [← H1.out]; exact QV.out.2.1.rd 1 (A1, e1) rfl)
  have Y2 := Lib.hid (show Rd W A2' 32 L2 from by rw [← H2.out]; exact QV.out.2.1.rd 2 (A2', e2) rfl)
  have R6 := Lib.hid (Rd.of_whole K6.out)
  have R7 := Lib.hid (Rd.of_whole K7.out)
  have R8 := Lib.hid (Rd.of_whole K8.out)
  have R9 := Lib.hid (Rd.of_whole K9.out)
  have R10 := Lib.hid (Rd.of_whole K10.out)
  have R11 := Lib.hid (Rd.of_whole K11.out)
  have hBW : B ≤ W.heap.size := Nat.le_of_lt KB.out.lt
  clear K6 K7 K8 K9 K10 K11 KB QV
  go_wp2_with fail
  refine region_drew (fun X => Below W.heap.size W X) (by kernel_rfl) (below_drewN (Below.refl _ _) 1) ?_
  intro hS
  refine take 0 _ rfl (by kernel_rfl) (by kernel_rfl) (by kernel_rfl) (fun _ _ _ h => h) (by rfl) hS (by intro w _; go_simp; with_reducible rfl) ?_
  try simp only [Act.put, List.setIfInBounds_toArray, List.set_cons_zero, List.set_cons_succ]
  refine take 1 _ rfl (by kernel_rfl) (by kernel_rfl) (by kernel_rfl) (fun _ _ _ h => h) (by rfl) hS (fun w hw => run_string_op 22 9 5 _ rfl rfl Tryd.underlying22 Tryd.underlying5 Tryd.underlying9 (R6.out.below hw (Nat.le_refl _))) ?_
  try simp only [Act.put, List.setIfInBounds_toArray, List.set_cons_zero, List.set_cons_succ]
  refine take 2 _ rfl (by kernel_rfl) (by kernel_rfl) (by kernel_rfl) (fun _ _ _ h => h) (by rfl) hS (by intro w _; go_simp; with_reducible rfl) ?_
  try simp only [Act.put, List.setIfInBounds_toArray, List.set_cons_zero, List.set_cons_succ]
  refine take 3 _ rfl (by kernel_rfl) (by kernel_rfl) (by kernel_rfl) (fun _ _ _ h => h) (by rfl) hS (by intro w _; go_simp; with_reducible rfl) ?_
  try simp only [Act.put, List.setIfInBounds_toArray, List.set_cons_zero, List.set_cons_succ]
  refine take 4 _ rfl (by kernel_rfl) (by kernel_rfl) (by kernel_rfl) (fun _ _ _ h => h) (by rfl) hS (by intro w hw; have hcl := (hw.cell (p := ⟨g, 0, none⟩) hgl).trans X0.out; go_simp; with_reducible rfl) ?_
  try simp only [Act.put, List.setIfInBounds_toArray, List.set_cons_zero, List.set_cons_succ]
  refine take 5 _ rfl (by kernel_rfl) (by kernel_rfl) (by kernel_rfl) (fun _ _ _ h => h) (by rfl) hS (fun w hw => run_string_op 22 9 5 _ rfl rfl Tryd.underlying22 Tryd.underlying5 Tryd.underlying9 (Y0.out.below hw (Nat.le_refl _))) ?_
  try simp only [Act.put, List.setIfInBounds_toArray, List.set_cons_zero, List.set_cons_succ]
  refine take 6 _ rfl (by kernel_rfl) (by kernel_rfl) (by kernel_rfl) (fun _ _ _ h => h) (by rfl) hS (by intro w _; go_simp; with_reducible rfl) ?_
  try simp only [Act.put, List.setIfInBounds_toArray, List.set_cons_zero, List.set_cons_succ]
  refine take 7 _ rfl (by kernel_rfl) (by kernel_rfl) (by kernel_rfl) (fun _ _ _ h => h) (by rfl) hS (by intro w _; go_simp; with_reducible rfl) ?_
  try simp only [Act.put, List.setIfInBounds_toArray, List.set_cons_zero, List.set_cons_succ]
  refine take 8 _ rfl (by kernel_rfl) (by kernel_rfl) (by kernel_rfl) (fun _ _ _ h => h) (by rfl) hS (by intro w _; go_simp; with_reducible rfl) ?_
  try simp only [Act.put, List.setIfInBounds_toArray, List.set_cons_zero, List.set_cons_succ]
  refine take 9 _ rfl (by kernel_rfl) (by kernel_rfl) (by kernel_rfl) (fun _ _ _ h => h) (by rfl) hS (fun w hw => run_string_op 22 9 5 _ rfl rfl Tryd.underlying22 Tryd.underlying5 Tryd.underlying9 (R7.out.below hw (Nat.le_refl _))) ?_
  try simp only [Act.put, List.setIfInBounds_toArray, List.set_cons_zero, List.set_cons_succ]
  refine take 10 _ rfl (by kernel_rfl) (by kernel_rfl) (by kernel_rfl) (fun _ _ _ h => h) (by rfl) hS (by intro w _; go_simp; with_reducible rfl) ?_
  try simp only [Act.put, List.setIfInBounds_toArray, List.set_cons_zero, List.set_cons_succ]
  refine take 11 _ rfl (by kernel_rfl) (by kernel_rfl) (by kernel_rfl) (fun _ _ _ h => h) (by rfl) hS (by intro w _; go_simp; with_reducible rfl) ?_
  try simp only [Act.put, List.setIfInBounds_toArray, List.set_cons_zero, List.set_cons_succ]
  refine take 12 _ rfl (by kernel_rfl) (by kernel_rfl) (by kernel_rfl) (fun _ _ _ h => h) (by rfl) hS (by intro w hw; have hcl := (hw.cell (p := ⟨g, 0, none⟩) hgl).trans X0.out; go_simp; with_reducible rfl) ?_
  try simp only [Act.put, List.setIfInBounds_toArray, List.set_cons_zero, List.set_cons_succ]
  refine take 13 _ rfl (by kernel_rfl) (by kernel_rfl) (by kernel_rfl) (fun _ _ _ h => h) (by rfl) hS (fun w hw => run_string_op 22 9 5 _ rfl rfl Tryd.underlying22 Tryd.underlying5 Tryd.underlying9 (Y0.out.below hw (Nat.le_refl _))) ?_
  try simp only [Act.put, List.setIfInBounds_toArray, List.set_cons_zero, List.set_cons_succ]
  refine take 14 _ rfl (by kernel_rfl) (by kernel_rfl) (by kernel_rfl) (fun _ _ _ h => h) (by rfl) hS (by intro w _; go_simp; with_reducible rfl) ?_
  try simp only [Act.put, List.setIfInBounds_toArray, List.set_cons_zero, List.set_cons_succ]
  refine take 15 _ rfl (by kernel_rfl) (by kernel_rfl) (by kernel_rfl) (fun _ _ _ h => h) (by rfl) hS (by intro w _; go_simp; with_reducible rfl) ?_
  try simp only [Act.put, List.setIfInBounds_toArray, List.set_cons_zero, List.set_cons_succ]
  refine take 16 _ rfl (by kernel_rfl) (by kernel_rfl) (by kernel_rfl) (fun _ _ _ h => h) (by rfl) hS (by intro w _; go_simp; with_reducible rfl) ?_
  try simp only [Act.put, List.setIfInBounds_toArray, List.set_cons_zero, List.set_cons_succ]
  refine take 17 _ rfl (by kernel_rfl) (by kernel_rfl) (by kernel_rfl) (fun _ _ _ h => h) (by rfl) hS (by intro w _; go_simp; with_reducible rfl) ?_
  try simp only [Act.put, List.setIfInBounds_toArray, List.set_cons_zero, List.set_cons_succ]
  refine take 18 _ rfl (by kernel_rfl) (by kernel_rfl) (by kernel_rfl) (fun _ _ _ h => h) (by rfl) hS (fun w hw => run_string_op 22 9 5 _ rfl rfl Tryd.underlying22 Tryd.underlying5 Tryd.underlying9 (R8.out.below hw (Nat.le_refl _))) ?_
  try simp only [Act.put, List.setIfInBounds_toArray, List.set_cons_zero, List.set_cons_succ]
  refine take 19 _ rfl (by kernel_rfl) (by kernel_rfl) (by kernel_rfl) (fun _ _ _ h => h) (by rfl) hS (by intro w _; go_simp; with_reducible rfl) ?_
  try simp only [Act.put, List.setIfInBounds_toArray, List.set_cons_zero, List.set_cons_succ]
  refine take 20 _ rfl (by kernel_rfl) (by kernel_rfl) (by kernel_rfl) (fun _ _ _ h => h) (by rfl) hS (by intro w _; go_simp; with_reducible rfl) ?_
  try simp only [Act.put, List.setIfInBounds_toArray, List.set_cons_zero, List.set_cons_succ]
  refine take 21 _ rfl (by kernel_rfl) (by kernel_rfl) (by kernel_rfl) (fun _ _ _ h => h) (by rfl) hS (by intro w hw; have hcl := (hw.cell (p := ⟨g, 1, none⟩) hgl).trans X1.out; go_simp; with_reducible rfl) ?_
  try simp only [Act.put, List.setIfInBounds_toArray, List.set_cons_zero, List.set_cons_succ]
  refine take 22 _ rfl (by kernel_rfl) (by kernel_rfl) (by kernel_rfl) (fun _ _ _ h => h) (by rfl) hS (fun w hw => run_string_op 22 9 5 _ rfl rfl Tryd.underlying22 Tryd.underlying5 Tryd.underlying9 (Y1.out.below hw (Nat.le_refl _))) ?_
  try simp only [Act.put, List.setIfInBounds_toArray, List.set_cons_zero, List.set_cons_succ]
  refine take 23 _ rfl (by kernel_rfl) (by kernel_rfl) (by kernel_rfl) (fun _ _ _ h => h) (by rfl) hS (by intro w _; go_simp; with_reducible rfl) ?_
  try simp only [Act.put, List.setIfInBounds_toArray, List.set_cons_zero, List.set_cons_succ]
  refine take 24 _ rfl (by kernel_rfl) (by kernel_rfl) (by kernel_rfl) (fun _ _ _ h => h) (by rfl) hS (by intro w _; go_simp; with_reducible rfl) ?_
  try simp only [Act.put, List.setIfInBounds_toArray, List.set_cons_zero, List.set_cons_succ]
  refine region_end (by kernel_rfl) ?_
  have hb9 := hS
  clear hS
  go_wp2_with fail
  refine region_drew (fun X => Below W.heap.size W X) (by kernel_rfl) (below_drewN hb9 1) ?_
  clear hb9
  intro hS
  refine alone 0 rfl (by kernel_rfl) (by rfl) ?_
  intro K hK
  go_simp
  refine (Kdf.alive_any _ (laid_below QL.out hS)).mono ?_
  rintro e q0 ⟨rfl, hb⟩
  go_simp
  replace hS := below_trans hS hb
  refine hK.out _ _ hS ?_
  clear hK hb K
  try simp only [Act.put, List.setIfInBounds_toArray, List.set_cons_zero, List.set_cons_succ]
  refine take 1 _ rfl (by kernel_rfl) (by kernel_rfl) (by kernel_rfl) (fun _ _ _ h => h) (by rfl) hS (by intro w _; go_simp; with_reducible rfl) ?_
  try simp only [Act.put, List.setIfInBounds_toArray, List.set_cons_zero, List.set_cons_succ]
  refine take 2 _ rfl (by kernel_rfl) (by kernel_rfl) (by kernel_rfl) (fun _ _ _ h => h) (by rfl) hS (by intro w _; go_simp; with_reducible rfl) ?_
  try simp only [Act.put, List.setIfInBounds_toArray, List.set_cons_zero, List.set_cons_succ]
  refine take 3 _ rfl (by kernel_rfl) (by kernel_rfl) (by kernel_rfl) (fun _ _ _ h => h) (by rfl) hS (fun w hw => run_string_op 22 9 5 _ rfl rfl Tryd.underlying22 Tryd.underlying5 Tryd.underlying9 (R9.out.below hw (Nat.le_refl _))) ?_
  try simp only [Act.put, List.setIfInBounds_toArray, List.set_cons_zero, List.set_cons_succ]
  refine take 4 _ rfl (by kernel_rfl) (by kernel_rfl) (by kernel_rfl) (fun _ _ _ h => h) (by rfl) hS (by intro w _; go_simp; with_reducible rfl) ?_
  try simp only [Act.put, List.setIfInBounds_toArray, List.set_cons_zero, List.set_cons_succ]
  refine take 5 _ rfl (by kernel_rfl) (by kernel_rfl) (by kernel_rfl) (fun _ _ _ h => h) (by rfl) hS (by intro w _; go_simp; with_reducible rfl) ?_
  try simp only [Act.put, List.setIfInBounds_toArray, List.set_cons_zero, List.set_cons_succ]
  refine take 6 _ rfl (by kernel_rfl) (by kernel_rfl) (by kernel_rfl) (fun _ _ _ h => h) (by rfl) hS (by intro w hw; have hcl := (hw.cell (p := ⟨g, 0, none⟩) hgl).trans X0.out; go_simp; with_reducible rfl) ?_
  try simp only [Act.put, List.setIfInBounds_toArray, List.set_cons_zero, List.set_cons_succ]
  refine take 7 _ rfl (by kernel_rfl) (by kernel_rfl) (by kernel_rfl) (fun _ _ _ h => h) (by rfl) hS (fun w hw => run_string_op 22 9 5 _ rfl rfl Tryd.underlying22 Tryd.underlying5 Tryd.underlying9 (Y0.out.below hw (Nat.le_refl _))) ?_
  try simp only [Act.put, List.setIfInBounds_toArray, List.set_cons_zero, List.set_cons_succ]
  refine take 8 _ rfl (by kernel_rfl) (by kernel_rfl) (by kernel_rfl) (fun _ _ _ h => h) (by rfl) hS (by intro w _; go_simp; with_reducible rfl) ?_
  try simp only [Act.put, List.setIfInBounds_toArray, List.set_cons_zero, List.set_cons_succ]
  refine take 9 _ rfl (by kernel_rfl) (by kernel_rfl) (by kernel_rfl) (fun _ _ _ h => h) (by rfl) hS (by intro w _; go_simp; with_reducible rfl) ?_
  try simp only [Act.put, List.setIfInBounds_toArray, List.set_cons_zero, List.set_cons_succ]
  refine take 10 _ rfl (by kernel_rfl) (by kernel_rfl) (by kernel_rfl) (fun _ _ _ h => h) (by rfl) hS (by intro w _; go_simp; with_reducible rfl) ?_
  try simp only [Act.put, List.setIfInBounds_toArray, List.set_cons_zero, List.set_cons_succ]
  refine take 11 _ rfl (by kernel_rfl) (by kernel_rfl) (by kernel_rfl) (fun _ _ _ h => h) (by rfl) hS (by intro w _; go_simp; with_reducible rfl) ?_
  try simp only [Act.put, List.setIfInBounds_toArray, List.set_cons_zero, List.set_cons_succ]
  refine take 12 _ rfl (by kernel_rfl) (by kernel_rfl) (by kernel_rfl) (fun _ _ _ h => h) (by rfl) hS (fun w hw => run_string_op 22 9 5 _ rfl rfl Tryd.underlying22 Tryd.underlying5 Tryd.underlying9 (R10.out.below hw (Nat.le_refl _))) ?_
  try simp only [Act.put, List.setIfInBounds_toArray, List.set_cons_zero, List.set_cons_succ]
  refine take 13 _ rfl (by kernel_rfl) (by kernel_rfl) (by kernel_rfl) (fun _ _ _ h => h) (by rfl) hS (by intro w _; go_simp; with_reducible rfl) ?_
  try simp only [Act.put, List.setIfInBounds_toArray, List.set_cons_zero, List.set_cons_succ]
  refine take 14 _ rfl (by kernel_rfl) (by kernel_rfl) (by kernel_rfl) (fun _ _ _ h => h) (by rfl) hS (by intro w _; go_simp; with_reducible rfl) ?_
  try simp only [Act.put, List.setIfInBounds_toArray, List.set_cons_zero, List.set_cons_succ]
  refine take 15 _ rfl (by kernel_rfl) (by kernel_rfl) (by kernel_rfl) (fun _ _ _ h => h) (by rfl) hS (by intro w hw; have hcl := (hw.cell (p := ⟨g, 1, none⟩) hgl).trans X1.out; go_simp; with_reducible rfl) ?_
  try simp only [Act.put, List.setIfInBounds_toArray, List.set_cons_zero, List.set_cons_succ]
  refine take 16 _ rfl (by kernel_rfl) (by kernel_rfl) (by kernel_rfl) (fun _ _ _ h => h) (by rfl) hS (fun w hw => run_string_op 22 9 5 _ rfl rfl Tryd.underlying22 Tryd.underlying5 Tryd.underlying9 (Y1.out.below hw (Nat.le_refl _))) ?_
  try simp only [Act.put, List.setIfInBounds_toArray, List.set_cons_zero, List.set_cons_succ]
  refine take 17 _ rfl (by kernel_rfl) (by kernel_rfl) (by kernel_rfl) (fun _ _ _ h => h) (by rfl) hS (by intro w _; go_simp; with_reducible rfl) ?_
  try simp only [Act.put, List.setIfInBounds_toArray, List.set_cons_zero, List.set_cons_succ]
  refine take 18 _ rfl (by kernel_rfl) (by kernel_rfl) (by kernel_rfl) (fun _ _ _ h => h) (by rfl) hS (by intro w _; go_simp; with_reducible rfl) ?_
  try simp only [Act.put, List.setIfInBounds_toArray, List.set_cons_zero, List.set_cons_succ]
  refine take 19 _ rfl (by kernel_rfl) (by kernel_rfl) (by kernel_rfl) (fun _ _ _ h => h) (by rfl) hS (by intro w _; go_simp; with_reducible rfl) ?_
  try simp only [Act.put, List.setIfInBounds_toArray, List.set_cons_zero, List.set_cons_succ]
  refine take 20 _ rfl (by kernel_rfl) (by kernel_rfl) (by kernel_rfl) (fun _ _ _ h => h) (by rfl) hS (by intro w _; go_simp; with_reducible rfl) ?_
  try simp only [Act.put, List.setIfInBounds_toArray, List.set_cons_zero, List.set_cons_succ]
  refine take 21 _ rfl (by kernel_rfl) (by kernel_rfl) (by kernel_rfl) (fun _ _ _ h => h) (by rfl) hS (fun w hw => run_string_op 22 9 5 _ rfl rfl Tryd.underlying22 Tryd.underlying5 Tryd.underlying9 (R11.out.below hw (Nat.le_refl _))) ?_
  try simp only [Act.put, List.setIfInBounds_toArray, List.set_cons_zero, List.set_cons_succ]
  refine take 22 _ rfl (by kernel_rfl) (by kernel_rfl) (by kernel_rfl) (fun _ _ _ h => h) (by rfl) hS (by intro w _; go_simp; with_reducible rfl) ?_
  try simp only [Act.put, List.setIfInBounds_toArray, List.set_cons_zero, List.set_cons_succ]
  refine take 23 _ rfl (by kernel_rfl) (by kernel_rfl) (by kernel_rfl) (fun _ _ _ h => h) (by rfl) hS (by intro w _; go_simp; with_reducible rfl) ?_
  try simp only [Act.put, List.setIfInBounds_toArray, List.set_cons_zero, List.set_cons_succ]
  refine take 24 _ rfl (by kernel_rfl) (by kernel_rfl) (by kernel_rfl) (fun _ _ _ h => h) (by rfl) hS (by intro w hw; have hcl := (hw.cell (p := ⟨g, 2, none⟩) hgl).trans X2.out; go_simp; with_reducible rfl) ?_
  try simp only [Act.put, List.setIfInBounds_toArray, List.set_cons_zero, List.set_cons_succ]
  refine take 25 _ rfl (by kernel_rfl) (by kernel_rfl) (by kernel_rfl) (fun _ _ _ h => h) (by rfl) hS (fun w hw => run_string_op 22 9 5 _ rfl rfl Tryd.underlying22 Tryd.underlying5 Tryd.underlying9 (Y2.out.below hw (Nat.le_refl _))) ?_
  try simp only [Act.put, List.setIfInBounds_toArray, List.set_cons_zero, List.set_cons_succ]
  refine take 26 _ rfl (by kernel_rfl) (by kernel_rfl) (by kernel_rfl) (fun _ _ _ h => h) (by rfl) hS (by intro w _; go_simp; with_reducible rfl) ?_
  try simp only [Act.put, List.setIfInBounds_toArray, List.set_cons_zero, List.set_cons_succ]
  refine take 27 _ rfl (by kernel_rfl) (by kernel_rfl) (by kernel_rfl) (fun _ _ _ h => h) (by rfl) hS (by intro w _; go_simp; with_reducible rfl) ?_
  try simp only [Act.put, List.setIfInBounds_toArray, List.set_cons_zero, List.set_cons_succ]
  refine take 28 _ rfl (by kernel_rfl) (by kernel_rfl) (by kernel_rfl) (fun _ _ _ h => h) (by rfl) hS (by intro w _; go_simp; with_reducible rfl) ?_
  try simp only [Act.put, List.setIfInBounds_toArray, List.set_cons_zero, List.set_cons_succ]
  refine region_end (by kernel_rfl) ?_
  have HB9 := Lib.hid (QB.out.trans (hS.mono hBW))
  clear hS
  go_wp2_with fail
  go_ret
  exact ⟨by simp, by rw [hB]; exact HB9.out⟩

theorem walk (key : Nat → Nat) (A2 : Option Addr) (n c2 : Nat) (zs : List Int) (w : World) (hL : Laid w) (hkey : ∀ i, key i < 256) (h2 : IsRow .u8 w A2 n c2 zs) :
    Calls Tryd.prog 9 #[.agg (byteCells key 32).toArray, .slice A2 n c2] w fun e w' => e = .returned (.bool true) ∧ Below w.heap.size w w' := by
  obtain ⟨f, hf, hA2, hnc, _⟩ := rd_of_row h2
  have hSB : Src w A2 n c2 f := src_rd hA2 fun e => by
    rcases h2 with ⟨_, h4, h5, _⟩ | ⟨x, h4, _⟩
    · exact ⟨h4, h5⟩
    · rw [e] at h4
      cases h4
  by_cases h1 : 300 < n
  · have d : decide ((300 : Int) < (n : Int)) = true := decide_eq_true (by omega)
    have HL := Lib.hid hL
    have HZ32 := Lib.hid (show ∀ f, (byteCells f 32).toArray.size = 32 from fun f => by rw [List.size_toArray, byteCells_length])
    clear hL h2 hA2 hSB hf hkey
    go_enter Tryd.func9, Tryd.ntmps9
    go_upto_region 1 with fail
    refine cut_world (fun X => Laid X ∧ Below w.heap.size w X) ⟨laid_alloc HL.out _, below_alloc (Below.refl _ _) _⟩ ?_
    rintro W ⟨ql, qb⟩
    have QL := Lib.hid ql
    have QB := Lib.hid qb
    clear ql qb
    go_wp2_with fail
    refine (Kdf.alive_any _ QL.out).mono ?_
    rintro e w1 ⟨rfl, hb⟩
    have HB := Lib.hid (below_trans QB.out hb)
    clear hb
    go_wp2_with fail
    go_ret
    exact ⟨rfl, HB.out⟩
  · exact run key hkey A2 n c2 f hf hnc (by omega) w hL hA2 hSB

end KdfChains
end Go.Proofs.YtljepgddmfelpaaDoor
