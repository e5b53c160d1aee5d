/- 'aditlaw08.KdfBegins' returns true at every input and writes nothing that was there: the walk. The condition: the tables read as the program's text lays them. -/
import Derived.Test.YtljepgddmfelpaaDoorKdfJoins
namespace Go.Proofs.YtljepgddmfelpaaDoor
namespace KdfBegins
open Go.ChangeShapes Go.WideShapes Go.ChangeAt Go.RowKit
open Num Mem Words State Chacha Quiet Blake Kdf

set_option maxRecDepth 100000 in
set_option maxHeartbeats 4000000 in
theorem run (key : Nat → Nat) (hkey : ∀ i, key i < 256) (A2 : Option Addr) (n c2 : Nat) (f : Nat → Nat) (hf : ∀ i, f i < 256) (hnc : n ≤ c2) (hn : n ≤ 2000) (w : World) (hL : Laid w) (hA2 : Rd w A2 n f) :
    Calls Tryd.prog 11 #[.agg (byteCells key 32).toArray, .slice A2 n c2] w fun e w' => e = .returned (.bool true) ∧ Below w.heap.size w w' := by
  have d : decide ((2000 : Int) < (n : Int)) = false := decide_eq_false (by omega)
  obtain ⟨R, hR⟩ : ∃ R, macF key 32 f n = R := ⟨_, rfl⟩
  have C1 := chain1_any key hkey A2 n c2 f hf (by omega) hnc
  have C2 := chain2_any key hkey A2 n c2 f hf (by omega) hnc
  have C3 := chain3_any key hkey A2 n c2 f hf (by omega) hnc
  have CM := fun G => mac_any (some ⟨G, 0, none⟩) 32 32 key hkey (by omega) (Nat.le_refl _) A2 n c2 f hf (by omega) hnc
  rw [hR] at C1 C2 C3 CM
  have lR : ∀ i, R i < 256 := fun i => by rw [← hR]; exact macF_lt _ _ _ _ _
  obtain ⟨L0, h0⟩ : ∃ L, linkF R 0 = L := ⟨_, rfl⟩
  obtain ⟨L1, h1⟩ : ∃ L, linkF R 1 = L := ⟨_, rfl⟩
  obtain ⟨L2, h2⟩ : ∃ L, linkF R 2 = L := ⟨_, rfl⟩
  have l0 : ∀ i, L0 i < 256 := fun i => by rw [← h0]; exact linkF_lt _ _ _
  have l1 : ∀ i, L1 i < 256 := fun i => by rw [← h1]; exact linkF_lt _ _ _
  have l2 : ∀ i, L2 i < 256 := fun i => by rw [← h2]; exact linkF_lt _ _ _
  have V0 := Lib.hid (show macF R 32 (fun _ => 1) 1 = L0 from h0)
  have V1 := Lib.hid (show macF R 32 (catF L0 32 fun _ => 2) 33 = L1 by rw [← h0]; exact h1)
  have V2 := Lib.hid (show macF R 32 (catF L1 32 fun _ => 3) 33 = L2 by rw [← h1]; exact h2)
  rw [h0] at C1 C2 C3
  rw [h1] at C2 C3
  rw [h2] at C3
  have EQ := fun (f : Nat → Nat) (hf : ∀ i, f i < 256) => run_eql_arr (P := Tryd.prog) 27 5 32 Tryd.underlying27 Tryd.underlying5 size_u8 f f hf hf true (by simp)
  have E0 := Lib.hid (EQ L0 l0)
  have E1 := Lib.hid (EQ L1 l1)
  have E2 := Lib.hid (EQ L2 l2)
  replace C1 := Lib.hid C1
  replace C2 := Lib.hid C2
  replace C3 := Lib.hid C3
  replace CM := Lib.hid (fun W hl G => CM G W hl)
  have CO := Lib.hid (fun A3 => mac_any A3 32 32 R lR (by omega) (Nat.le_refl _))
  have HC0 := Lib.hid (show ∀ i, catF L0 32 (fun _ => 2) i < 256 from fun i => by unfold catF; split; exact l0 i; exact (show 2 < 256 by omega))
  have HC1 := Lib.hid (show ∀ i, catF L1 32 (fun _ => 3) i < 256 from fun i => by unfold catF; split; exact l1 i; exact (show 3 < 256 by omega))
  have HTa := Lib.hid (show ∀ i, i < 0 + 32 → L0 i = if i < 0 then (fun _ => 0) i else L0 (i - 0) from fun i _ => by rw [if_neg (by omega), Nat.sub_zero])
  have HTb := Lib.hid (show ∀ i, i < 0 + 32 → L1 i = if i < 0 then (fun _ => 0) i else L1 (i - 0) from fun i _ => by rw [if_neg (by omega), Nat.sub_zero])
  have HTc := Lib.hid (show ∀ i, i < 0 + 32 + 1 → catF L0 32 (fun _ => 2) i = if i < 0 + 32 then L0 i else (fun _ => 2) (i - (0 + 32)) from fun i _ => rfl)
  have HTd := Lib.hid (show ∀ i, i < 0 + 32 + 1 → catF L1 32 (fun _ => 3) i = if i < 0 + 32 then L1 i else (fun _ => 3) (i - (0 + 32)) from fun i _ => rfl)
  have HL := Lib.hid hL
  have HA2 := Lib.hid hA2
  have HZ32 := Lib.hid (show ∀ f, (byteCells f 32).toArray.size = 32 from fun f => by rw [List.size_toArray, byteCells_length])
  clear EQ hkey hf hL hA2 hR h0 h1 h2 l0 l1 l2 lR
  go_enter Tryd.func11, Tryd.ntmps11
  go_upto_region 1 with fail
  refine cut_world (fun X => Whole X w.heap.size 27 (byteCells key 32).toArray ∧ Laid X ∧ Below w.heap.size w X) ⟨whole_new _ _ rfl, laid_alloc HL.out _, below_alloc (Below.refl _ _) _⟩ ?_
  rintro W ⟨q1, ql, qb⟩
  have KB := Lib.hid q1
  have QL := Lib.hid ql
  have QB := Lib.hid qb
  clear q1 ql qb
  generalize hB : w.heap.size = B at KB QB ⊢
  go_wp2_with (refine wpList_load_row rfl 27 (.tmp 2) rfl B rfl 27 (byteCells key 32).toArray (0, 0) _ KB.out rfl rfl (by rw [HZ32.out]; kernel_rfl) ?_)
  refine (C1.out _ QL.out (HA2.out.below QB.out (Nat.le_of_eq hB))).mono ?_
  rintro e w1 ⟨rfl, hb1⟩
  have hb2 := below_trans hb1 (below_setRow (below_alloc (Below.refl w1.heap.size w1) (.cells #[.int .u8 0, .int .u8 0, .int .u8 0, .int .u8 0, .int .u8 0, .int .u8 0, .int .u8 0, .int .u8 0, .int .u8 0, .int .u8 0, .int .u8 0, .int .u8 0, .int .u8 0, .int .u8 0, .int .u8 0, .int .u8 0, .int .u8 0, .int .u8 0, .int .u8 0, .int .u8 0, .int .u8 0, .int .u8 0, .int .u8 0, .int .u8 0, .int .u8 0, .int .u8 0, .int .u8 0, .int .u8 0, .int .u8 0, .int .u8 0, .int .u8 0, .int .u8 0] 27)) (show w1.heap.size ≤ w1.heap.size by omega) (byteCells L0 32).toArray)
  go_upto_region 4 with (first | (refine wpList_store_row rfl 27 (.tmp 5) (.tmp 20) rfl (w1.heap.size) (byteCells L0 32).toArray rfl rfl 27 _ (Whole.new _ _ _) (by rw [HZ32.out]; kernel_rfl) (by rw [HZ32.out]; rfl) (bytes_one _ _) ?_))
  try simp only [Act.put]
  refine cut_world (fun X => Whole X (B) 27 (byteCells key 32).toArray ∧ Whole X (w1.heap.size) 27 (byteCells L0 32).toArray ∧ Laid X ∧ Below B w X) ⟨KB.out.below hb2 KB.out.lt, setRow_heap _ _ _ _ _ _ (Whole.new _ _ _), laid_below QL.out hb2, QB.out.trans (hb2.mono (by have := KB.out.lt; omega))⟩ ?_
  clear hb1 hb2 KB QL QB
  generalize w1.heap.size = b5
  rintro W ⟨qKB, qK5, ql, qb⟩
  have KB := Lib.hid qKB
  have K5 := Lib.hid qK5
  have QL := Lib.hid ql
  have QB := Lib.hid qb
  clear qKB qK5 ql qb
  go_wp2_with (refine wpList_load_row rfl 27 (.tmp 2) rfl B rfl 27 (byteCells key 32).toArray (0, 0) _ KB.out rfl rfl (by rw [HZ32.out]; kernel_rfl) ?_)
  refine (C2.out _ QL.out (HA2.out.below QB.out (Nat.le_of_eq hB))).mono ?_
  rintro e w1 ⟨rfl, hb1⟩
  have hb2 := below_trans hb1 (below_setRow (below_setRow (below_alloc (below_alloc (Below.refl w1.heap.size w1) (.cells #[.int .u8 0, .int .u8 0, .int .u8 0, .int .u8 0, .int .u8 0, .int .u8 0, .int .u8 0, .int .u8 0, .int .u8 0, .int .u8 0, .int .u8 0, .int .u8 0, .int .u8 0, .int .u8 0, .int .u8 0, .int .u8 0, .int .u8 0, .int .u8 0, .int .u8 0, .int .u8 0, .int .u8 0, .int .u8 0, .int .u8 0, .int .u8 0, .int .u8 0, .int .u8 0, .int .u8 0, .int .u8 0, .int .u8 0, .int .u8 0, .int .u8 0, .int .u8 0] 27)) (.cells #[.int .u8 0, .int .u8 0, .int .u8 0, .int .u8 0, .int .u8 0, .int .u8 0, .int .u8 0, .int .u8 0, .int .u8 0, .int .u8 0, .int .u8 0, .int .u8 0, .int .u8 0, .int .u8 0, .int .u8 0, .int .u8 0, .int .u8 0, .int .u8 0, .int .u8 0, .int .u8 0, .int .u8 0, .int .u8 0, .int .u8 0, .int .u8 0, .int .u8 0, .int .u8 0, .int .u8 0, .int .u8 0, .int .u8 0, .int .u8 0, .int .u8 0, .int .u8 0] 27)) (show w1.heap.size ≤ w1.heap.size by omega) (byteCells L0 32).toArray) (show w1.heap.size ≤ w1.heap.size + 1 by omega) (byteCells L1 32).toArray)
  go_upto_region 5 with (first | (refine wpList_store_row rfl 27 (.tmp 6) (.tmp 25) rfl (w1.heap.size) (byteCells L0 32).toArray rfl rfl 27 _ ((Whole.new _ _ _).alloc _) (by rw [HZ32.out]; kernel_rfl) (by rw [HZ32.out]; rfl) (bytes_one _ _) ?_) | (refine wpList_store_row rfl 27 (.tmp 7) (.tmp 26) rfl (w1.heap.size + 1) (byteCells L1 32).toArray rfl rfl 27 _ ((setRow_other _ _ _ _ (by omega)).trans (whole_new _ _ (by simp))) (by rw [HZ32.out]; kernel_rfl) (by rw [HZ32.out]; rfl) (bytes_one _ _) ?_))
  try simp only [Act.put]
  refine cut_world (fun X => Whole X (B) 27 (byteCells key 32).toArray ∧ Whole X (b5) 27 (byteCells L0 32).toArray ∧ Whole X (w1.heap.size) 27 (byteCells L0 32).toArray ∧ Whole X (w1.heap.size + 1) 27 (byteCells L1 32).toArray ∧ Laid X ∧ Below B w X) ⟨KB.out.below hb2 KB.out.lt, K5.out.below hb2 K5.out.lt, Whole.farRow (setRow_heap _ _ _ _ _ _ ((Whole.new _ _ _).alloc _)) (by omega) _, setRow_heap _ _ _ _ _ _ ((setRow_other _ _ _ _ (by omega)).trans (whole_new _ _ (by simp))), laid_below QL.out hb2, QB.out.trans (hb2.mono (by have := KB.out.lt; omega))⟩ ?_
  clear hb1 hb2 KB K5 QL QB
  obtain ⟨b7, hb7⟩ : ∃ b, w1.heap.size + 1 = b := ⟨_, rfl⟩
  rw [hb7]
  clear hb7
  generalize w1.heap.size = b6
  rintro W ⟨qKB, qK5, qK6, qK7, ql, qb⟩
  have KB := Lib.hid qKB
  have K5 := Lib.hid qK5
  have K6 := Lib.hid qK6
  have K7 := Lib.hid qK7
  have QL := Lib.hid ql
  have QB := Lib.hid qb
  clear qKB qK5 qK6 qK7 ql qb
  go_wp2_with (refine wpList_load_row rfl 27 (.tmp 2) rfl B rfl 27 (byteCells key 32).toArray (0, 0) _ KB.out rfl rfl (by rw [HZ32.out]; kernel_rfl) ?_)
  refine (C3.out _ QL.out (HA2.out.below QB.out (Nat.le_of_eq hB))).mono ?_
  rintro e w1 ⟨rfl, hb1⟩
  have hb2 := below_trans hb1 (below_setRow (below_setRow (below_setRow (below_alloc (below_alloc (below_alloc (Below.refl w1.heap.size w1) (.cells #[.int .u8 0, .int .u8 0, .int .u8 0, .int .u8 0, .int .u8 0, .int .u8 0, .int .u8 0, .int .u8 0, .int .u8 0, .int .u8 0, .int .u8 0, .int .u8 0, .int .u8 0, .int .u8 0, .int .u8 0, .int .u8 0, .int .u8 0, .int .u8 0, .int .u8 0, .int .u8 0, .int .u8 0, .int .u8 0, .int .u8 0, .int .u8 0, .int .u8 0, .int .u8 0, .int .u8 0, .int .u8 0, .int .u8 0, .int .u8 0, .int .u8 0, .int .u8 0] 27)) (.cells #[.int .u8 0, .int .u8 0, .int .u8 0, .int .u8 0, .int .u8 0, .int .u8 0, .int .u8 0, .int .u8 0, .int .u8 0, .int .u8 0, .int .u8 0, .int .u8 0, .int .u8 0, .int .u8 0, .int .u8 0, .int .u8 0, .int .u8 0, .int .u8 0, .int .u8 0, .int .u8 0, .int .u8 0, .int .u8 0, .int .u8 0, .int .u8 0, .int .u8 0, .int .u8 0, .int .u8 0, .int .u8 0, .int .u8 0, .int .u8 0, .int .u8 0, .int .u8 0] 27)) (.cells #[.int .u8 0, .int .u8 0, .int .u8 0, .int .u8 0, .int .u8 0, .int .u8 0, .int .u8 0, .int .u8 0, .int .u8 0, .int .u8 0, .int .u8 0, .int .u8 0, .int .u8 0, .int .u8 0, .int .u8 0, .int .u8 0, .int .u8 0, .int .u8 0, .int .u8 0, .int .u8 0, .int .u8 0, .int .u8 0, .int .u8 0, .int .u8 0, .int .u8 0, .int .u8 0, .int .u8 0, .int .u8 0, .int .u8 0, .int .u8 0, .int .u8 0, .int .u8 0] 27)) (show w1.heap.size ≤ w1.heap.size by omega) (byteCells L0 32).toArray) (show w1.heap.size ≤ w1.heap.size + 1 by omega) (byteCells L1 32).toArray) (show w1.heap.size ≤ w1.heap.size + 1 + 1 by omega) (byteCells L2 32).toArray)
  go_upto_region 6 with (first | (refine wpList_store_row rfl 27 (.tmp 8) (.tmp 31) rfl (w1.heap.size) (byteCells L0 32).toArray rfl rfl 27 _ (((Whole.new _ _ _).alloc _).alloc _) (by rw [HZ32.out]; kernel_rfl) (by rw [HZ32.out]; rfl) (bytes_one _ _) ?_) | (refine wpList_store_row rfl 27 (.tmp 9) (.tmp 32) rfl (w1.heap.size + 1) (byteCells L1 32).toArray rfl rfl 27 _ ((setRow_other _ _ _ _ (by omega)).trans ((whole_new _ _ (by simp)).alloc _)) (by rw [HZ32.out]; kernel_rfl) (by rw [HZ32.out]; rfl) (bytes_one _ _) ?_) | (refine wpList_store_row rfl 27 (.tmp 10) (.tmp 33) rfl (w1.heap.size + 1 + 1) (byteCells L2 32).toArray rfl rfl 27 _ ((setRow_other _ _ _ _ (by omega)).trans ((setRow_other _ _ _ _ (by omega)).trans (whole_new _ _ (by simp)))) (by rw [HZ32.out]; kernel_rfl) (by rw [HZ32.out]; rfl) (bytes_one _ _) ?_))
  try simp only [Act.put]
  refine cut_world (fun X => Whole X (B) 27 (byteCells key 32).toArray ∧ Whole X (b5) 27 (byteCells L0 32).toArray ∧ Whole X (b6) 27 (byteCells L0 32).toArray ∧ Whole X (b7) 27 (byteCells L1 32).toArray ∧ Whole X (w1.heap.size) 27 (byteCells L0 32).toArray ∧ Whole X (w1.heap.size + 1) 27 (byteCells L1 32).toArray ∧ Whole X (w1.heap.size + 1 + 1) 27 (byteCells L2 32).toArray ∧ Laid X ∧ Below B w X) ⟨KB.out.below hb2 KB.out.lt, K5.out.below hb2 K5.out.lt, K6.out.below hb2 K6.out.lt, K7.out.below hb2 K7.out.lt, Whole.farRow (Whole.farRow (setRow_heap _ _ _ _ _ _ (((Whole.new _ _ _).alloc _).alloc _)) (by omega) _) (by omega) _, Whole.farRow (setRow_heap _ _ _ _ _ _ ((setRow_other _ _ _ _ (by omega)).trans ((whole_new _ _ (by simp)).alloc _))) (by omega) _, setRow_heap _ _ _ _ _ _ ((setRow_other _ _ _ _ (by omega)).trans ((setRow_other _ _ _ _ (by omega)).trans (whole_new _ _ (by simp)))), laid_below QL.out hb2, QB.out.trans (hb2.mono (by have := KB.out.lt; omega))⟩ ?_
  clear hb1 hb2 KB K5 K6 K7 QL QB
  obtain ⟨b10, hb10⟩ : ∃ b, w1.heap.size + 1 + 1 = b := ⟨_, rfl⟩
  rw [hb10]
  clear hb10
  obtain ⟨b9, hb9⟩ : ∃ b, w1.heap.size + 1 = b := ⟨_, rfl⟩
  rw [hb9]
  clear hb9
  generalize w1.heap.size = b8
  rintro W ⟨qKB, qK5, qK6, qK7, qK8, qK9, qK10, ql, qb⟩
  have KB := Lib.hid qKB
  have K5 := Lib.hid qK5
  have K6 := Lib.hid qK6
  have K7 := Lib.hid qK7
  have K8 := Lib.hid qK8
  have K9 := Lib.hid qK9
  have K10 := Lib.hid qK10
  have QL := Lib.hid ql
  have QB := Lib.hid qb
  clear qKB qK5 qK6 qK7 qK8 qK9 qK10 ql qb
  go_wp2_with fail
  refine (CM.out _ QL.out _ (Rd.of_whole KB.out) (HA2.out.below QB.out (Nat.le_of_eq hB))).mono ?_
  rintro e w1 ⟨rfl, hb1⟩
  have hb2 := below_trans hb1 (below_setRow (below_alloc (Below.refl w1.heap.size w1) (.cells #[.int .u8 0, .int .u8 0, .int .u8 0, .int .u8 0, .int .u8 0, .int .u8 0, .int .u8 0, .int .u8 0, .int .u8 0, .int .u8 0, .int .u8 0, .int .u8 0, .int .u8 0, .int .u8 0, .int .u8 0, .int .u8 0, .int .u8 0, .int .u8 0, .int .u8 0, .int .u8 0, .int .u8 0, .int .u8 0, .int .u8 0, .int .u8 0, .int .u8 0, .int .u8 0, .int .u8 0, .int .u8 0, .int .u8 0, .int .u8 0, .int .u8 0, .int .u8 0] 27)) (show w1.heap.size ≤ w1.heap.size by omega) (byteCells R 32).toArray)
  go_upto_region 7 with (first | (refine wpList_store_row rfl 27 (.tmp 11) (.tmp 36) rfl (w1.heap.size) (byteCells R 32).toArray rfl rfl 27 _ (Whole.new _ _ _) (by rw [HZ32.out]; kernel_rfl) (by rw [HZ32.out]; rfl) (bytes_one _ _) ?_))
  try simp only [Act.put]
  refine cut_world (fun X => Whole X (B) 27 (byteCells key 32).toArray ∧ Whole X (b5) 27 (byteCells L0 32).toArray ∧ Whole X (b6) 27 (byteCells L0 32).toArray ∧ Whole X (b7) 27 (byteCells L1 32).toArray ∧ Whole X (b8) 27 (byteCells L0 32).toArray ∧ Whole X (b9) 27 (byteCells L1 32).toArray ∧ Whole X (b10) 27 (byteCells L2 32).toArray ∧ Whole X (w1.heap.size) 27 (byteCells R 32).toArray ∧ Laid X ∧ Below B w X) ⟨KB.out.below hb2 KB.out.lt, K5.out.below hb2 K5.out.lt, K6.out.below hb2 K6.out.lt, K7.out.below hb2 K7.out.lt, K8.out.below hb2 K8.out.lt, K9.out.below hb2 K9.out.lt, K10.out.below hb2 K10.out.lt, setRow_heap _ _ _ _ _ _ (Whole.new _ _ _), laid_below QL.out hb2, QB.out.trans (hb2.mono (by have := KB.out.lt; omega))⟩ ?_
  clear hb1 hb2 KB K5 K6 K7 K8 K9 K10 QL QB
  generalize w1.heap.size = b11
  rintro W ⟨qKB, qK5, qK6, qK7, qK8, qK9, qK10, qK11, ql, qb⟩
  have KB := Lib.hid qKB
  have K5 := Lib.hid qK5
  have K6 := Lib.hid qK6
  have K7 := Lib.hid qK7
  have K8 := Lib.hid qK8
  have K9 := Lib.hid qK9
  have K10 := Lib.hid qK10
  have K11 := Lib.hid qK11
  have QL := Lib.hid ql
  have QB := Lib.hid qb
  clear qKB qK5 qK6 qK7 qK8 qK9 qK10 qK11 ql qb
  have hbe : Below W.heap.size W (W.alloc (.cells #[] 5)) := below_alloc (Below.refl _ _) _
  have HO := Lib.hid (show Own (W.alloc (.cells #[] 5)) W.heap.size 5 (some ⟨W.heap.size, 0, none⟩) 0 0 (fun _ => 0) from World.ownsRow_lit W #[] 0 (Nat.le_refl _) (by decide) rfl)
  have HBE := Lib.hid hbe
  have HSK := Lib.hid (src_rd (c := 32) (Rd.of_whole (K6.out.below hbe K6.out.lt)) (fun h => by cases h))
  clear hbe
  go_upto_region 8 with (first | (refine wpList_catFrom (W := W) rfl (.tmp 37) (.tmp 38) 22 5 (.int .u8 0) 1 rfl byte_info rfl rfl rfl HO.out HBE.out HBE.out.size 32 32 (some ⟨b6, 0, none⟩) rfl HSK.out (by omega) (by omega) HTa.out ?_; intro A3 c3 w3 hO3 hb3 hs3 hg3 hat3; have HB3 := Lib.hid hb3; have HBF := Lib.hid (hb3.alloc hs3 (.cells #[.int .u8 2] 5)); have HOA := Lib.hid (hO3.alloc (.cells #[.int .u8 2] 5)); have HS4 := Lib.hid (src_rd (c := 1) (Rd.of_new (w := w3) (t := 5) (cs := #[.int .u8 2]) (f := fun _ => 2) (n := 1) rfl rfl) (fun h => by cases h)); clear hO3 hb3 hs3 hg3 hat3) | (refine wpList_catFrom (W := W) rfl (.tmp 39) (.tmp 40) 22 5 (.int .u8 0) 1 rfl byte_info rfl rfl rfl HOA.out HBF.out HBF.out.size 1 1 (some ⟨w3.heap.size, 0, none⟩) rfl HS4.out (by omega) (by omega) HTc.out ?_; intro A4 c4 w4 hO4 hb4 hs5 hg4 hat4))
  refine cut_world (fun X => Whole X (B) 27 (byteCells key 32).toArray ∧ Whole X (b5) 27 (byteCells L0 32).toArray ∧ Whole X (b6) 27 (byteCells L0 32).toArray ∧ Whole X (b7) 27 (byteCells L1 32).toArray ∧ Whole X (b8) 27 (byteCells L0 32).toArray ∧ Whole X (b9) 27 (byteCells L1 32).toArray ∧ Whole X (b10) 27 (byteCells L2 32).toArray ∧ Whole X (b11) 27 (byteCells R 32).toArray ∧ Own X B 5 A4 33 c4 (catF L0 32 (fun _ => 2)) ∧ Laid X ∧ Below B w X) ⟨KB.out.below hb4 KB.out.lt, K5.out.below hb4 K5.out.lt, K6.out.below hb4 K6.out.lt, K7.out.below hb4 K7.out.lt, K8.out.below hb4 K8.out.lt, K9.out.below hb4 K9.out.lt, K10.out.below hb4 K10.out.lt, K11.out.below hb4 K11.out.lt, hO4.more (by have := KB.out.lt; omega), laid_below QL.out hb4, QB.out.trans (hb4.mono (by have := KB.out.lt; omega))⟩ ?_
  clear hO4 hb4 hs5 hg4 hat4 HO HBE HSK HB3 HBF HOA HS4 KB K5 K6 K7 K8 K9 K10 K11  QL QB
  revert A4 c4
  intro A12 c12
  rintro W ⟨qKB, qK5, qK6, qK7, qK8, qK9, qK10, qK11, qO12, ql, qb⟩
  have KB := Lib.hid qKB
  have K5 := Lib.hid qK5
  have K6 := Lib.hid qK6
  have K7 := Lib.hid qK7
  have K8 := Lib.hid qK8
  have K9 := Lib.hid qK9
  have K10 := Lib.hid qK10
  have K11 := Lib.hid qK11
  have O12 := Lib.hid qO12
  have QL := Lib.hid ql
  have QB := Lib.hid qb
  clear qKB qK5 qK6 qK7 qK8 qK9 qK10 qK11 qO12 ql qb
  have hbe : Below W.heap.size W (W.alloc (.cells #[] 5)) := below_alloc (Below.refl _ _) _
  have HO := Lib.hid (show Own (W.alloc (.cells #[] 5)) W.heap.size 5 (some ⟨W.heap.size, 0, none⟩) 0 0 (fun _ => 0) from World.ownsRow_lit W #[] 0 (Nat.le_refl _) (by decide) rfl)
  have HBE := Lib.hid hbe
  have HSK := Lib.hid (src_rd (c := 32) (Rd.of_whole (K7.out.below hbe K7.out.lt)) (fun h => by cases h))
  clear hbe
  go_upto_region 9 with (first | (refine wpList_catFrom (W := W) rfl (.tmp 42) (.tmp 43) 22 5 (.int .u8 0) 1 rfl byte_info rfl rfl rfl HO.out HBE.out HBE.out.size 32 32 (some ⟨b7, 0, none⟩) rfl HSK.out (by omega) (by omega) HTb.out ?_; intro A3 c3 w3 hO3 hb3 hs3 hg3 hat3; have HB3 := Lib.hid hb3; have HBF := Lib.hid (hb3.alloc hs3 (.cells #[.int .u8 3] 5)); have HOA := Lib.hid (hO3.alloc (.cells #[.int .u8 3] 5)); have HS4 := Lib.hid (src_rd (c := 1) (Rd.of_new (w := w3) (t := 5) (cs := #[.int .u8 3]) (f := fun _ => 3) (n := 1) rfl rfl) (fun h => by cases h)); clear hO3 hb3 hs3 hg3 hat3) | (refine wpList_catFrom (W := W) rfl (.tmp 44) (.tmp 45) 22 5 (.int .u8 0) 1 rfl byte_info rfl rfl rfl HOA.out HBF.out HBF.out.size 1 1 (some ⟨w3.heap.size, 0, none⟩) rfl HS4.out (by omega) (by omega) HTd.out ?_; intro A4 c4 w4 hO4 hb4 hs5 hg4 hat4))
  refine cut_world (fun X => Whole X (B) 27 (byteCells key 32).toArray ∧ Whole X (b5) 27 (byteCells L0 32).toArray ∧ Whole X (b6) 27 (byteCells L0 32).toArray ∧ Whole X (b7) 27 (byteCells L1 32).toArray ∧ Whole X (b8) 27 (byteCells L0 32).toArray ∧ Whole X (b9) 27 (byteCells L1 32).toArray ∧ Whole X (b10) 27 (byteCells L2 32).toArray ∧ Whole X (b11) 27 (byteCells R 32).toArray ∧ Own X B 5 A12 33 c12 (catF L0 32 (fun _ => 2)) ∧ Own X B 5 A4 33 c4 (catF L1 32 (fun _ => 3)) ∧ Laid X ∧ Below B w X) ⟨KB.out.below hb4 KB.out.lt, K5.out.below hb4 K5.out.lt, K6.out.below hb4 K6.out.lt, K7.out.below hb4 K7.out.lt, K8.out.below hb4 K8.out.lt, K9.out.below hb4 K9.out.lt, K10.out.below hb4 K10.out.lt, K11.out.below hb4 K11.out.lt, O12.out.below hb4 (Nat.le_refl _), hO4.more (by have := KB.out.lt; omega), laid_below QL.out hb4, QB.out.trans (hb4.mono (by have := KB.out.lt; omega))⟩ ?_
  clear hO4 hb4 hs5 hg4 hat4 HO HBE HSK HB3 HBF HOA HS4 KB K5 K6 K7 K8 K9 K10 K11 O12 QL QB
  revert A4 c4
  intro A13 c13
  rintro W ⟨qKB, qK5, qK6, qK7, qK8, qK9, qK10, qK11, qO12, qO13, ql, qb⟩
  have KB := Lib.hid qKB
  have K5 := Lib.hid qK5
  have K6 := Lib.hid qK6
  have K7 := Lib.hid qK7
  have K8 := Lib.hid qK8
  have K9 := Lib.hid qK9
  have K10 := Lib.hid qK10
  have K11 := Lib.hid qK11
  have O12 := Lib.hid qO12
  have O13 := Lib.hid qO13
  have QL := Lib.hid ql
  have QB := Lib.hid qb
  clear qKB qK5 qK6 qK7 qK8 qK9 qK10 qK11 qO12 qO13 ql qb
  go_wp2_with fail
  refine region_drew (fun X => Below W.heap.size W X) (by kernel_rfl) (below_drewN (Below.refl _ _) 1) ?_
  intro hS0
  have hS : Below W.heap.size W W.drew := hS0
  clear hS0
  refine alone 0 rfl (by kernel_rfl) (by rfl) ?_
  intro K hK
  go_simp
  refine (Kdf.alive_any _ (laid_below QL.out hS)).mono ?_
  rintro e v0 ⟨rfl, hb⟩
  go_simp
  replace hS := below_trans hS hb
  refine hK.out _ _ hS ?_
  clear hK K hb
  try simp only [Act.put, List.setIfInBounds_toArray, List.set_cons_zero, List.set_cons_succ]
  refine take 1 _ rfl (by kernel_rfl) (by kernel_rfl) (by kernel_rfl) (fun _ _ _ h => h) (by rfl) hS (by intro w _; go_simp; try with_reducible rfl) ?_
  try simp only [Act.put, List.setIfInBounds_toArray, List.set_cons_zero, List.set_cons_succ]
  refine take 2 _ rfl (by kernel_rfl) (by kernel_rfl) (by kernel_rfl) (fun _ _ _ h => h) (by rfl) hS (fun w hw => run_load_op 27 (.tmp 5) rfl (b5) rfl (K5.out.below hw K5.out.lt) rfl rfl (by rw [HZ32.out]; kernel_rfl)) ?_
  try simp only [Act.put, List.setIfInBounds_toArray, List.set_cons_zero, List.set_cons_succ]
  refine take 3 _ rfl (by kernel_rfl) (by kernel_rfl) (by kernel_rfl) (fun _ _ _ h => h) (by rfl) hS (fun w hw => run_load_op 27 (.tmp 6) rfl (b6) rfl (K6.out.below hw K6.out.lt) rfl rfl (by rw [HZ32.out]; kernel_rfl)) ?_
  try simp only [Act.put, List.setIfInBounds_toArray, List.set_cons_zero, List.set_cons_succ]
  refine take 4 _ rfl (by kernel_rfl) (by kernel_rfl) (by kernel_rfl) (fun _ _ _ h => h) (by rfl) hS (by intro w _; go_simp; simp only [E0.out, Result.andThen_ok]; try with_reducible rfl) ?_
  try simp only [Act.put, List.setIfInBounds_toArray, List.set_cons_zero, List.set_cons_succ]
  refine take 5 _ rfl (by kernel_rfl) (by kernel_rfl) (by kernel_rfl) (fun _ _ _ h => h) (by rfl) hS (by intro w _; go_simp; try with_reducible rfl) ?_
  try simp only [Act.put, List.setIfInBounds_toArray, List.set_cons_zero, List.set_cons_succ]
  refine take 6 _ rfl (by kernel_rfl) (by kernel_rfl) (by kernel_rfl) (fun _ _ _ h => h) (by rfl) hS (by intro w _; go_simp; try with_reducible rfl) ?_
  try simp only [Act.put, List.setIfInBounds_toArray, List.set_cons_zero, List.set_cons_succ]
  refine take 7 _ rfl (by kernel_rfl) (by kernel_rfl) (by kernel_rfl) (fun _ _ _ h => h) (by rfl) hS (fun w hw => run_load_op 27 (.tmp 6) rfl (b6) rfl (K6.out.below hw K6.out.lt) rfl rfl (by rw [HZ32.out]; kernel_rfl)) ?_
  try simp only [Act.put, List.setIfInBounds_toArray, List.set_cons_zero, List.set_cons_succ]
  refine take 8 _ rfl (by kernel_rfl) (by kernel_rfl) (by kernel_rfl) (fun _ _ _ h => h) (by rfl) hS (fun w hw => run_load_op 27 (.tmp 8) rfl (b8) rfl (K8.out.below hw K8.out.lt) rfl rfl (by rw [HZ32.out]; kernel_rfl)) ?_
  try simp only [Act.put, List.setIfInBounds_toArray, List.set_cons_zero, List.set_cons_succ]
  refine take 9 _ rfl (by kernel_rfl) (by kernel_rfl) (by kernel_rfl) (fun _ _ _ h => h) (by rfl) hS (by intro w _; go_simp; simp only [E0.out, Result.andThen_ok]; try with_reducible rfl) ?_
  try simp only [Act.put, List.setIfInBounds_toArray, List.set_cons_zero, List.set_cons_succ]
  refine take 10 _ rfl (by kernel_rfl) (by kernel_rfl) (by kernel_rfl) (fun _ _ _ h => h) (by rfl) hS (by intro w _; go_simp; try with_reducible rfl) ?_
  try simp only [Act.put, List.setIfInBounds_toArray, List.set_cons_zero, List.set_cons_succ]
  refine take 11 _ rfl (by kernel_rfl) (by kernel_rfl) (by kernel_rfl) (fun _ _ _ h => h) (by rfl) hS (by intro w _; go_simp; try with_reducible rfl) ?_
  try simp only [Act.put, List.setIfInBounds_toArray, List.set_cons_zero, List.set_cons_succ]
  refine take 12 _ rfl (by kernel_rfl) (by kernel_rfl) (by kernel_rfl) (fun _ _ _ h => h) (by rfl) hS (fun w hw => run_load_op 27 (.tmp 7) rfl (b7) rfl (K7.out.below hw K7.out.lt) rfl rfl (by rw [HZ32.out]; kernel_rfl)) ?_
  try simp only [Act.put, List.setIfInBounds_toArray, List.set_cons_zero, List.set_cons_succ]
  refine take 13 _ rfl (by kernel_rfl) (by kernel_rfl) (by kernel_rfl) (fun _ _ _ h => h) (by rfl) hS (fun w hw => run_load_op 27 (.tmp 9) rfl (b9) rfl (K9.out.below hw K9.out.lt) rfl rfl (by rw [HZ32.out]; kernel_rfl)) ?_
  try simp only [Act.put, List.setIfInBounds_toArray, List.set_cons_zero, List.set_cons_succ]
  refine take 14 _ rfl (by kernel_rfl) (by kernel_rfl) (by kernel_rfl) (fun _ _ _ h => h) (by rfl) hS (by intro w _; go_simp; simp only [E1.out, Result.andThen_ok]; try with_reducible rfl) ?_
  try simp only [Act.put, List.setIfInBounds_toArray, List.set_cons_zero, List.set_cons_succ]
  refine take 15 _ rfl (by kernel_rfl) (by kernel_rfl) (by kernel_rfl) (fun _ _ _ h => h) (by rfl) hS (by intro w _; go_simp; try with_reducible rfl) ?_
  try simp only [Act.put, List.setIfInBounds_toArray, List.set_cons_zero, List.set_cons_succ]
  refine take 16 _ rfl (by kernel_rfl) (by kernel_rfl) (by kernel_rfl) (fun _ _ _ h => h) (by rfl) hS (by intro w _; go_simp; try with_reducible rfl) ?_
  try simp only [Act.put, List.setIfInBounds_toArray, List.set_cons_zero, List.set_cons_succ]
  refine take 17 _ rfl (by kernel_rfl) (by kernel_rfl) (by kernel_rfl) (fun _ _ _ h => h) (by rfl) hS (fun w hw => run_load_op 27 (.tmp 5) rfl (b5) rfl (K5.out.below hw K5.out.lt) rfl rfl (by rw [HZ32.out]; kernel_rfl)) ?_
  try simp only [Act.put, List.setIfInBounds_toArray, List.set_cons_zero, List.set_cons_succ]
  refine take 18 _ rfl (by kernel_rfl) (by kernel_rfl) (by kernel_rfl) (fun _ _ _ h => h) (by rfl) hS (by intro w _; go_simp; try with_reducible rfl) ?_
  try simp only [Act.put, List.setIfInBounds_toArray, List.set_cons_zero, List.set_cons_succ]
  refine alone 19 rfl (by kernel_rfl) (by rfl) ?_
  intro K hK
  go_simp
  have HR1 := Lib.hid (Rd.of_new (w := v0) (t := 5) (cs := #[.int .u8 1]) (f := fun _ => 1) (n := 1) rfl rfl)
  replace hS := hS.alloc hS.size (.cells #[.int .u8 1] 5)
  refine hK.out _ _ hS ?_
  clear hK K
  try simp only [Act.put, List.setIfInBounds_toArray, List.set_cons_zero, List.set_cons_succ]
  refine alone 20 rfl (by kernel_rfl) (by rfl) ?_
  intro K hK
  go_simp
  refine (CO.out (some ⟨b11, 0, none⟩) (some ⟨v0.heap.size, 0, none⟩) 1 1 (fun _ => 1) (fun _ => (by omega : 1 < 256)) (by omega) (Nat.le_refl _) _ (laid_below QL.out hS) (Rd.of_whole (K11.out.below hS K11.out.lt)) HR1.out).mono ?_
  rintro e v20 ⟨rfl, hb⟩
  rw [V0.out]
  go_simp
  replace hS := below_trans hS hb
  refine hK.out _ _ hS ?_
  clear hK K hb
  try simp only [Act.put, List.setIfInBounds_toArray, List.set_cons_zero, List.set_cons_succ]
  refine take 21 _ rfl (by kernel_rfl) (by kernel_rfl) (by kernel_rfl) (fun _ _ _ h => h) (by rfl) hS (by intro w _; go_simp; simp only [E0.out, Result.andThen_ok]; try with_reducible rfl) ?_
  try simp only [Act.put, List.setIfInBounds_toArray, List.set_cons_zero, List.set_cons_succ]
  refine take 22 _ rfl (by kernel_rfl) (by kernel_rfl) (by kernel_rfl) (fun _ _ _ h => h) (by rfl) hS (by intro w _; go_simp; try with_reducible rfl) ?_
  try simp only [Act.put, List.setIfInBounds_toArray, List.set_cons_zero, List.set_cons_succ]
  refine take 23 _ rfl (by kernel_rfl) (by kernel_rfl) (by kernel_rfl) (fun _ _ _ h => h) (by rfl) hS (by intro w _; go_simp; try with_reducible rfl) ?_
  try simp only [Act.put, List.setIfInBounds_toArray, List.set_cons_zero, List.set_cons_succ]
  refine take 24 _ rfl (by kernel_rfl) (by kernel_rfl) (by kernel_rfl) (fun _ _ _ h => h) (by rfl) hS (fun w hw => run_load_op 27 (.tmp 7) rfl (b7) rfl (K7.out.below hw K7.out.lt) rfl rfl (by rw [HZ32.out]; kernel_rfl)) ?_
  try simp only [Act.put, List.setIfInBounds_toArray, List.set_cons_zero, List.set_cons_succ]
  refine take 25 _ rfl (by kernel_rfl) (by kernel_rfl) (by kernel_rfl) (fun _ _ _ h => h) (by rfl) hS (by intro w _; go_simp; try with_reducible rfl) ?_
  try simp only [Act.put, List.setIfInBounds_toArray, List.set_cons_zero, List.set_cons_succ]
  refine take 26 _ rfl (by kernel_rfl) (by kernel_rfl) (by kernel_rfl) (fun _ _ _ h => h) (by rfl) hS (by intro w _; go_simp; try with_reducible rfl) ?_
  try simp only [Act.put, List.setIfInBounds_toArray, List.set_cons_zero, List.set_cons_succ]
  refine alone 27 rfl (by kernel_rfl) (by rfl) ?_
  intro K hK
  go_simp
  refine (CO.out (some ⟨b11, 0, none⟩) A12 33 c12 (catF L0 32 (fun _ => 2)) HC0.out (by omega) (Own.le_cap O12.out) _ (laid_below QL.out hS) (Rd.of_whole (K11.out.below hS K11.out.lt)) (O12.out.rd.below hS (Nat.le_refl _))).mono ?_
  rintro e v27 ⟨rfl, hb⟩
  rw [V1.out]
  go_simp
  replace hS := below_trans hS hb
  refine hK.out _ _ hS ?_
  clear hK K hb
  try simp only [Act.put, List.setIfInBounds_toArray, List.set_cons_zero, List.set_cons_succ]
  refine take 28 _ rfl (by kernel_rfl) (by kernel_rfl) (by kernel_rfl) (fun _ _ _ h => h) (by rfl) hS (by intro w _; go_simp; simp only [E1.out, Result.andThen_ok]; try with_reducible rfl) ?_
  try simp only [Act.put, List.setIfInBounds_toArray, List.set_cons_zero, List.set_cons_succ]
  refine take 29 _ rfl (by kernel_rfl) (by kernel_rfl) (by kernel_rfl) (fun _ _ _ h => h) (by rfl) hS (by intro w _; go_simp; try with_reducible rfl) ?_
  try simp only [Act.put, List.setIfInBounds_toArray, List.set_cons_zero, List.set_cons_succ]
  refine take 30 _ rfl (by kernel_rfl) (by kernel_rfl) (by kernel_rfl) (fun _ _ _ h => h) (by rfl) hS (by intro w _; go_simp; try with_reducible rfl) ?_
  try simp only [Act.put, List.setIfInBounds_toArray, List.set_cons_zero, List.set_cons_succ]
  refine take 31 _ rfl (by kernel_rfl) (by kernel_rfl) (by kernel_rfl) (fun _ _ _ h => h) (by rfl) hS (fun w hw => run_load_op 27 (.tmp 10) rfl (b10) rfl (K10.out.below hw K10.out.lt) rfl rfl (by rw [HZ32.out]; kernel_rfl)) ?_
  try simp only [Act.put, List.setIfInBounds_toArray, List.set_cons_zero, List.set_cons_succ]
  refine take 32 _ rfl (by kernel_rfl) (by kernel_rfl) (by kernel_rfl) (fun _ _ _ h => h) (by rfl) hS (by intro w _; go_simp; try with_reducible rfl) ?_
  try simp only [Act.put, List.setIfInBounds_toArray, List.set_cons_zero, List.set_cons_succ]
  refine take 33 _ rfl (by kernel_rfl) (by kernel_rfl) (by kernel_rfl) (fun _ _ _ h => h) (by rfl) hS (by intro w _; go_simp; try with_reducible rfl) ?_
  try simp only [Act.put, List.setIfInBounds_toArray, List.set_cons_zero, List.set_cons_succ]
  refine alone 34 rfl (by kernel_rfl) (by rfl) ?_
  intro K hK
  go_simp
  refine (CO.out (some ⟨b11, 0, none⟩) A13 33 c13 (catF L1 32 (fun _ => 3)) HC1.out (by omega) (Own.le_cap O13.out) _ (laid_below QL.out hS) (Rd.of_whole (K11.out.below hS K11.out.lt)) (O13.out.rd.below hS (Nat.le_refl _))).mono ?_
  rintro e v34 ⟨rfl, hb⟩
  rw [V2.out]
  go_simp
  replace hS := below_trans hS hb
  refine hK.out _ _ hS ?_
  clear hK K hb
  try simp only [Act.put, List.setIfInBounds_toArray, List.set_cons_zero, List.set_cons_succ]
  refine take 35 _ rfl (by kernel_rfl) (by kernel_rfl) (by kernel_rfl) (fun _ _ _ h => h) (by rfl) hS (by intro w _; go_simp; simp only [E2.out, Result.andThen_ok]; try with_reducible rfl) ?_
  try simp only [Act.put, List.setIfInBounds_toArray, List.set_cons_zero, List.set_cons_succ]
  refine take 36 _ rfl (by kernel_rfl) (by kernel_rfl) (by kernel_rfl) (fun _ _ _ h => h) (by rfl) hS (by intro w _; go_simp; try with_reducible rfl) ?_
  try simp only [Act.put, List.setIfInBounds_toArray, List.set_cons_zero, List.set_cons_succ]
  refine take 37 _ rfl (by kernel_rfl) (by kernel_rfl) (by kernel_rfl) (fun _ _ _ h => h) (by rfl) hS (by intro w _; go_simp; try with_reducible rfl) ?_
  try simp only [Act.put, List.setIfInBounds_toArray, List.set_cons_zero, List.set_cons_succ]
  refine region_end (by kernel_rfl) ?_
  have HBF := Lib.hid (QB.out.trans (hS.mono (by have := KB.out.lt; omega)))
  go_wp2_with fail
  go_ret
  exact ⟨rfl, by rw [hB]; exact HBF.out⟩


set_option maxRecDepth 100000 in
theorem walk (key : Nat → Nat) (A2 : Option Addr) (n c2 : Nat) (zs : List Int) (w : World) (hL : Laid w) (hkey : ∀ i, key i < 256) (h2 : IsRow .u8 w A2 n c2 zs) :
    Calls Tryd.prog 11 #[.agg (byteCells key 32).toArray, .slice A2 n c2] w fun e w' => e = .returned (.bool true) ∧ Below w.heap.size w w' := by
  obtain ⟨f, hf, hA2, hnc, _⟩ := row_src h2
  by_cases hn : 2000 < n
  · have d : decide ((2000 : Int) < (n : Int)) = true := decide_eq_true (by omega)
    have HL := Lib.hid hL
    clear h2 hA2 hL hkey hf
    go_enter Tryd.func11, Tryd.ntmps11
    go_upto_region 1 with fail
    refine cut_world (fun X => Laid X ∧ Below w.heap.size w X) ⟨laid_alloc HL.out _, below_alloc (Below.refl _ _) _⟩ ?_
    rintro W ⟨ql, qb⟩
    have QL := Lib.hid ql
    have QB := Lib.hid qb
    clear ql qb
    go_wp2_with fail
    refine (Kdf.alive_any _ QL.out).mono ?_
    rintro e w1 ⟨rfl, hb⟩
    have HB := Lib.hid (below_trans QB.out hb)
    clear hb
    go_wp2_with fail
    go_ret
    exact ⟨rfl, HB.out⟩
  · exact run key hkey A2 n c2 f hf hnc (by omega) w hL hA2

end KdfBegins
end Go.Proofs.YtljepgddmfelpaaDoor
