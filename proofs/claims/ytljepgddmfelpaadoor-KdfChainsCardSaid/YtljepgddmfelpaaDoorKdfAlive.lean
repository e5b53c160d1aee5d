/- 'alive' of the statements of layer 8: the fixed calls come out as they must, and nothing that was there is written. -/
import Derived.Test.YtljepgddmfelpaaDoorKdfChains
import Derived.Test.YtljepgddmfelpaaDoorKdfEval
import Derived.Stop.BytesEq
namespace Go.Proofs.YtljepgddmfelpaaDoor
namespace Kdf
open Go.ChangeShapes Go.WideShapes Go.ChangeAt Go.RowKit
open Num Mem Words State Chacha Quiet Blake
open Extern.Stop (cell)

theorem byteCells_cell (f : Nat → Nat) (hf : ∀ i, f i < 256) (n : Nat) : byteCells f n = ((List.range n).map fun i => UInt8.ofNat (f i)).map cell := by
  unfold byteCells
  rw [List.map_map]
  refine List.map_congr_left fun i _ => ?_
  have := hf i
  simp only [Function.comp_apply, cell]
  congr 1
  rw [UInt8.toNat_ofNat', Nat.mod_eq_of_lt this]
  rfl

/-- '==' of two arrays of bytes -/
theorem run_eql_arr {P : Program} (t e : TypeId) (n : Nat) (ht : P.underlying t = some (.array n e)) (he : P.underlying e = some (.int .u8)) (hsz : ∀ w, (sizeOf e).run P w = .ok 1 w)
    (f g : Nat → Nat) (hf : ∀ i, f i < 256) (hg : ∀ i, g i < 256) (r : Bool) (hr : r = true ↔ ∀ i, i < n → f i = g i) (w : World) :
    (Op.equalIn 10000 t (.agg (byteCells f n).toArray) (.agg (byteCells g n).toArray)).run P w = .ok r w := by
  rw [byteCells_cell f hf, byteCells_cell g hg, run_equalIn_bytes w 9998 t e n ht he hsz _ _ (by simp) (by simp)]
  congr 1
  rw [Bool.eq_iff_iff, hr, beq_iff_eq]
  constructor
  · intro h i hi
    have h3 := congrArg (fun l : List UInt8 => l[i]?) h
    simp only [List.getElem?_map, List.getElem?_range hi, Option.map_some, Option.some.injEq] at h3
    have h4 := congrArg UInt8.toNat h3
    simp only [UInt8.toNat_ofNat'] at h4
    have := hf i
    have := hg i
    omega
  · intro h
    exact List.map_congr_left fun i hi => by rw [h i (List.mem_range.1 hi)]

theorem size_u8 (w : World) : (sizeOf 5).run Tryd.prog w = .ok 1 w := by kernel_rfl

theorem run_built0 {P : Program} {o : Oper} {a : Act} {w : World} (t : TypeId) (ho : o.op = .build t #[]) (vs : Array Value) (hb : P.built t [] = some vs) : (execOp a.eval o).run P w = .ok (.value (.agg vs)) w := by
  have e : P.built t (Array.map (fun (x : Nat × Operand) => (x.1, a.eval x.2)) #[]).toList = some vs := by simpa using hb
  unfold execOp
  simp only [ho, Sem.run_bind, run_build w t _ vs e, Result.andThen_ok, Sem.run_pure]
theorem zeros32_built : Tryd.prog.built 27 [] = some (byteCells (fun _ => 0) 32).toArray := by kernel_rfl
theorem kT_lt (i : Nat) : kT i < 256 := by
  unfold kT
  split <;> omega
theorem tT_lt (i : Nat) : tT i < 256 := by
  unfold tT
  omega
theorem mac_two : macF kT 2 tT 1 = macF kT 1 tT 1 := by
  have e : ∀ i, keyPad kT 2 i = keyPad kT 1 i := fun i => by
    unfold keyPad kT
    rw [if_pos (show 2 ≤ 64 by omega), if_pos (show 1 ≤ 64 by omega)]
    by_cases h : i = 0
    · subst h
      rfl
    · rw [if_neg h, if_neg (show ¬ i < 1 by omega)]
      split <;> rfl
  have e1 : inT kT 2 tT = inT kT 1 tT := funext fun i => by unfold inT; rw [e]
  unfold macF
  refine sum32_congr fun i _ => ?_
  unfold outT
  rw [e, e1]

set_option maxRecDepth 100000 in
set_option maxHeartbeats 2000000 in
theorem alive_any (w : World) (hL : Laid w) : Calls Tryd.prog 20 #[] w fun e w' => e = .returned (.bool true) ∧ Below w.heap.size w w' := by
  have HL := Lib.hid hL
  have HZ32 := Lib.hid (show ∀ f, (byteCells f 32).toArray.size = 32 from fun f => by rw [List.size_toArray, byteCells_length])
  obtain ⟨FA, hFA⟩ : ∃ F, macF kT 1 tT 1 = F := ⟨_, rfl⟩
  obtain ⟨FC, hFC⟩ : ∃ F, linkF (macF FA 32 (fun _ => 0) 0) 0 = F := ⟨_, rfl⟩
  obtain ⟨FD, hFD⟩ : ∃ F, linkF (macF FA 32 (fun _ => 0) 0) 1 = F := ⟨_, rfl⟩
  have vA : FA = sumAt aL := hFA.symm.trans eval_a
  have vC : FC = sumAt cL := by rw [← hFC, vA, eval_r, eval_c]
  have vD : FD = sumAt dL := by rw [← hFD, vA, eval_r, eval_d]
  have lA : ∀ i, FA i < 256 := fun i => by rw [← hFA]; exact macF_lt _ _ _ _ _
  have lC : ∀ i, FC i < 256 := fun i => by rw [← hFC]; exact linkF_lt _ _ _
  have lD : ∀ i, FD i < 256 := fun i => by rw [← hFD]; exact linkF_lt _ _ _
  have C1 := Lib.hid (fun A1 A2 => mac_any A1 1 1 kT kT_lt (by omega) (Nat.le_refl _) A2 1 1 tT tT_lt (by omega) (Nat.le_refl _))
  have C2 := Lib.hid (fun A1 A2 => mac_any A1 2 2 kT kT_lt (by omega) (Nat.le_refl _) A2 1 1 tT tT_lt (by omega) (Nat.le_refl _))
  rw [mac_two] at C2
  rw [hFA] at C1 C2
  have CD := Lib.hid (fun (W : World) (h : Laid W) => chain2_any FA lA none 0 0 (fun _ => 0) (fun _ => Nat.zero_lt_succ 255) (by omega) (Nat.le_refl _) W h (.inl rfl))
  have CC := Lib.hid (fun (W : World) (h : Laid W) => chain1_any FA lA none 0 0 (fun _ => 0) (fun _ => Nat.zero_lt_succ 255) (by omega) (Nat.le_refl _) W h (.inl rfl))
  rw [hFC] at CC CD
  rw [hFD] at CD
  have EQ := fun (f g : Nat → Nat) (hf : ∀ i, f i < 256) (hg : ∀ i, g i < 256) (r : Bool) (hr : r = true ↔ ∀ i, i < 32 → f i = g i) => run_eql_arr (P := Tryd.prog) 27 5 32 Tryd.underlying27 Tryd.underlying5 size_u8 f g hf hg r hr
  have E1 := Lib.hid (EQ FA FA lA lA true (by simp))
  have E2 := Lib.hid (EQ FA (fun _ => 0) lA (fun _ => Nat.zero_lt_succ 255) false ⟨fun h => (by cases h), fun h => by
    have h0 := h 0 (by omega)
    rw [vA, firsts.1] at h0
    cases h0⟩)
  have E3 := Lib.hid (EQ FC FC lC lC true (by simp))
  have E4 := Lib.hid (EQ FD FC lD lC false ⟨fun h => (by cases h), fun h => by
    have h0 := h 0 (by omega)
    rw [vD, vC, firsts.2.1, firsts.2.2] at h0
    cases h0⟩)
  clear EQ lA lC lD vA vC vD hFA hFC hFD hL
  have HCV := Lib.hid (show ∀ (w : World) (C : Array Value) (n c : Nat), (convert 22 22 (.slice (some ⟨w.heap.size, 0, none⟩) n c)).run Tryd.prog (w.alloc (.cells C 5)) = .ok (.slice (some ⟨w.heap.size, 0, none⟩) n c) (w.alloc (.cells C 5 (C.size, C.size + 1))) from fun w C n c => Lib.run_convert_bytes_const w 22 5 C n c Tryd.underlying22 Tryd.underlying5)
  have HCX := Lib.hid (show ∀ (w : World) (w1 : Obj) (C : Array Value) (n c : Nat), (convert 22 22 (.slice (some ⟨w.heap.size + 1, 0, none⟩) n c)).run Tryd.prog ((w.alloc w1).alloc (.cells C 5)) = .ok (.slice (some ⟨w.heap.size + 1, 0, none⟩) n c) ((w.alloc w1).alloc (.cells C 5 (C.size, C.size + 1))) from fun w w1 C n c => by
    have h := Lib.run_convert_bytes_const (P := Tryd.prog) (w.alloc w1) 22 5 C n c Tryd.underlying22 Tryd.underlying5
    rwa [World.size_alloc] at h)
  go_enter Tryd.func20, Tryd.ntmps20
  go_wp2_with fail
  rw [HCV.out]
  go_wp2_with (simp only [HCX.out, Result.andThen_ok])
  have hb0 : Below w.heap.size w ((w.alloc (.cells #[.int .u8 107] 5 (1, 2))).alloc (.cells #[.int .u8 116] 5 (1, 2))) := below_alloc (below_alloc (Below.refl _ _) _) _
  have r1 : Rd ((w.alloc (.cells #[.int .u8 107] 5 (1, 2))).alloc (.cells #[.int .u8 116] 5 (1, 2))) (some ⟨w.heap.size, 0, none⟩) 1 kT := Rd.below (w := w.alloc (.cells #[.int .u8 107] 5 (1, 2))) (rd_marked rfl rfl) (below_alloc (Below.refl _ _) _) (Nat.le_refl _)
  have r2 : Rd ((w.alloc (.cells #[.int .u8 107] 5 (1, 2))).alloc (.cells #[.int .u8 116] 5 (1, 2))) (some ⟨w.heap.size + 1, 0, none⟩) 1 tT := rd_marked (by simp) rfl
  refine (C1.out _ _ _ (laid_below HL.out hb0) r1 r2).mono ?_
  rintro e w1 ⟨rfl, hb1⟩
  have hb2 := below_trans hb0 (below_trans hb1 (below_setRow (below_alloc (Below.refl w1.heap.size w1) (.cells #[.int .u8 0, .int .u8 0, .int .u8 0, .int .u8 0, .int .u8 0, .int .u8 0, .int .u8 0, .int .u8 0, .int .u8 0, .int .u8 0, .int .u8 0, .int .u8 0, .int .u8 0, .int .u8 0, .int .u8 0, .int .u8 0, .int .u8 0, .int .u8 0, .int .u8 0, .int .u8 0, .int .u8 0, .int .u8 0, .int .u8 0, .int .u8 0, .int .u8 0, .int .u8 0, .int .u8 0, .int .u8 0, .int .u8 0, .int .u8 0, .int .u8 0, .int .u8 0] 27)) (Nat.le_refl _) (byteCells FA 32).toArray))
  go_upto_region 2 with (refine wpList_store_row rfl 27 (.tmp 1) (.tmp 9) rfl w1.heap.size (byteCells FA 32).toArray rfl rfl 27 _ (Whole.new _ _ _) (by rw [HZ32.out]; kernel_rfl) (by rw [HZ32.out]; rfl) (bytes_one _ _) ?_)
  try simp only [Act.put]
  refine cut_world (fun X => Whole X w1.heap.size 27 (byteCells FA 32).toArray ∧ Laid X ∧ Below w.heap.size w X) ⟨setRow_heap _ _ _ _ _ _ (Whole.new _ _ _), laid_below HL.out hb2, hb2⟩ ?_
  clear hb0 r1 r2 hb1 hb2
  generalize w1.heap.size = g1
  rintro W ⟨q1, ql, qb⟩
  have Q1 := Lib.hid q1
  have QL := Lib.hid ql
  have QB := Lib.hid qb
  clear q1 ql qb
  go_wp2_with (simp only [HCX.out, Result.andThen_ok])
  have hb0 : Below W.heap.size W ((W.alloc (.cells #[.int .u8 107, .int .u8 0] 5)).alloc (.cells #[.int .u8 116] 5 (1, 2))) := below_alloc (below_alloc (Below.refl _ _) _) _
  have r1 : Rd ((W.alloc (.cells #[.int .u8 107, .int .u8 0] 5)).alloc (.cells #[.int .u8 116] 5 (1, 2))) (some ⟨W.heap.size, 0, none⟩) 2 kT := Rd.below (w := W.alloc (.cells #[.int .u8 107, .int .u8 0] 5)) (Rd.of_new rfl rfl) (below_alloc (Below.refl _ _) _) (Nat.le_refl _)
  have r2 : Rd ((W.alloc (.cells #[.int .u8 107, .int .u8 0] 5)).alloc (.cells #[.int .u8 116] 5 (1, 2))) (some ⟨W.heap.size + 1, 0, none⟩) 1 tT := rd_marked (by simp) rfl
  refine (C2.out _ _ _ (laid_below QL.out hb0) r1 r2).mono ?_
  rintro e w2 ⟨rfl, hb1⟩
  have hb2 := below_trans hb0 (below_trans hb1 (below_setRow (below_alloc (Below.refl w2.heap.size w2) (.cells #[.int .u8 0, .int .u8 0, .int .u8 0, .int .u8 0, .int .u8 0, .int .u8 0, .int .u8 0, .int .u8 0, .int .u8 0, .int .u8 0, .int .u8 0, .int .u8 0, .int .u8 0, .int .u8 0, .int .u8 0, .int .u8 0, .int .u8 0, .int .u8 0, .int .u8 0, .int .u8 0, .int .u8 0, .int .u8 0, .int .u8 0, .int .u8 0, .int .u8 0, .int .u8 0, .int .u8 0, .int .u8 0, .int .u8 0, .int .u8 0, .int .u8 0, .int .u8 0] 27)) (Nat.le_refl _) (byteCells FA 32).toArray))
  go_upto_region 3 with (refine wpList_store_row rfl 27 (.tmp 2) (.tmp 13) rfl w2.heap.size (byteCells FA 32).toArray rfl rfl 27 _ (Whole.new _ _ _) (by rw [HZ32.out]; kernel_rfl) (by rw [HZ32.out]; rfl) (bytes_one _ _) ?_)
  try simp only [Act.put]
  refine cut_world (fun X => Whole X g1 27 (byteCells FA 32).toArray ∧ Whole X w2.heap.size 27 (byteCells FA 32).toArray ∧ Laid X ∧ Below w.heap.size w X) ⟨Q1.out.below hb2 Q1.out.lt, setRow_heap _ _ _ _ _ _ (Whole.new _ _ _), laid_below QL.out hb2, below_trans QB.out hb2⟩ ?_
  clear hb0 r1 r2 hb1 hb2 Q1 QL QB
  generalize w2.heap.size = g2
  rintro W ⟨q1, q2, ql, qb⟩
  have Q1 := Lib.hid q1
  have Q2 := Lib.hid q2
  have QL := Lib.hid ql
  have QB := Lib.hid qb
  clear q1 q2 ql qb
  go_wp2_with (refine wpList_load_row rfl 27 (.tmp 1) rfl g1 rfl 27 (byteCells FA 32).toArray (0, 0) _ Q1.out rfl rfl (by rw [HZ32.out]; kernel_rfl) ?_)
  refine (CD.out _ QL.out).mono ?_
  rintro e w3 ⟨rfl, hb1⟩
  go_upto_region 4 with (first | (refine wpList_store_row rfl 27 (.tmp 3) (.tmp 17) rfl w3.heap.size (byteCells FC 32).toArray rfl rfl 27 _ ((Whole.new _ _ _).alloc _) (by rw [HZ32.out]; kernel_rfl) (by rw [HZ32.out]; rfl) (bytes_one _ _) ?_) | (refine wpList_store_row rfl 27 (.tmp 4) (.tmp 18) rfl (w3.heap.size + 1) (byteCells FD 32).toArray rfl rfl 27 _ ((setRow_other _ _ _ _ (by omega)).trans (whole_new _ _ (by simp))) (by rw [HZ32.out]; kernel_rfl) (by rw [HZ32.out]; rfl) (bytes_one _ _) ?_))
  try simp only [Act.put]
  have hb2 := below_trans hb1 (below_setRow (below_setRow (below_alloc (below_alloc (Below.refl w3.heap.size w3) (.cells #[.int .u8 0, .int .u8 0, .int .u8 0, .int .u8 0, .int .u8 0, .int .u8 0, .int .u8 0, .int .u8 0, .int .u8 0, .int .u8 0, .int .u8 0, .int .u8 0, .int .u8 0, .int .u8 0, .int .u8 0, .int .u8 0, .int .u8 0, .int .u8 0, .int .u8 0, .int .u8 0, .int .u8 0, .int .u8 0, .int .u8 0, .int .u8 0, .int .u8 0, .int .u8 0, .int .u8 0, .int .u8 0, .int .u8 0, .int .u8 0, .int .u8 0, .int .u8 0] 27)) (.cells #[.int .u8 0, .int .u8 0, .int .u8 0, .int .u8 0, .int .u8 0, .int .u8 0, .int .u8 0, .int .u8 0, .int .u8 0, .int .u8 0, .int .u8 0, .int .u8 0, .int .u8 0, .int .u8 0, .int .u8 0, .int .u8 0, .int .u8 0, .int .u8 0, .int .u8 0, .int .u8 0, .int .u8 0, .int .u8 0, .int .u8 0, .int .u8 0, .int .u8 0, .int .u8 0, .int .u8 0, .int .u8 0, .int .u8 0, .int .u8 0, .int .u8 0, .int .u8 0] 27)) (Nat.le_refl _) (byteCells FC 32).toArray) (Nat.le_succ _) (byteCells FD 32).toArray)
  refine cut_world (fun X => Whole X g1 27 (byteCells FA 32).toArray ∧ Whole X g2 27 (byteCells FA 32).toArray ∧ Whole X w3.heap.size 27 (byteCells FC 32).toArray ∧ Whole X (w3.heap.size + 1) 27 (byteCells FD 32).toArray ∧ Laid X ∧ Below w.heap.size w X) ⟨Q1.out.below hb2 Q1.out.lt, Q2.out.below hb2 Q2.out.lt, Whole.farRow (setRow_heap _ _ _ _ _ _ ((Whole.new _ _ _).alloc _)) (by omega) _, setRow_heap _ _ _ _ _ _ ((setRow_other _ _ _ _ (by omega)).trans (whole_new _ _ (by simp))), laid_below QL.out hb2, below_trans QB.out hb2⟩ ?_
  clear hb1 hb2 Q1 Q2 QL QB
  obtain ⟨g4, hg4⟩ : ∃ g, w3.heap.size + 1 = g := ⟨_, rfl⟩
  rw [hg4]
  clear hg4
  generalize w3.heap.size = g3
  rintro W ⟨q1, q2, q3, q4, ql, qb⟩
  have Q1 := Lib.hid q1
  have Q2 := Lib.hid q2
  have Q3 := Lib.hid q3
  have Q4 := Lib.hid q4
  have QL := Lib.hid ql
  have QB := Lib.hid qb
  clear q1 q2 q3 q4 ql qb
  go_upto_region 4 with fail
  refine q_start (by kernel_rfl) (by kernel_rfl) ?_
  refine q_take _ (by rfl) (fun x hx => run_load_in 27 (.tmp 1) rfl (g1) rfl (byteCells (FA) 32).toArray 32 (by rw [List.size_toArray, byteCells_length]) ((Q1.out).below hx (Q1.out).lt) rfl rfl (by kernel_rfl)) ?_
  try simp only [Act.put, List.setIfInBounds_toArray, List.set_cons_zero, List.set_cons_succ]
  refine q_take _ (by rfl) (fun x hx => run_load_in 27 (.tmp 2) rfl (g2) rfl (byteCells (FA) 32).toArray 32 (by rw [List.size_toArray, byteCells_length]) ((Q2.out).below hx (Q2.out).lt) rfl rfl (by kernel_rfl)) ?_
  try simp only [Act.put, List.setIfInBounds_toArray, List.set_cons_zero, List.set_cons_succ]
  refine q_take _ (by rfl) (by intro w _; go_simp; simp only [E1.out, Result.andThen_ok]; try with_reducible rfl) ?_
  try simp only [Act.put, List.setIfInBounds_toArray, List.set_cons_zero, List.set_cons_succ]
  refine q_take _ (by rfl) (by intro w _; go_simp; try with_reducible rfl) ?_
  try simp only [Act.put, List.setIfInBounds_toArray, List.set_cons_zero, List.set_cons_succ]
  refine q_take _ (by rfl) (fun x hx => run_load_in 27 (.tmp 1) rfl (g1) rfl (byteCells (FA) 32).toArray 32 (by rw [List.size_toArray, byteCells_length]) ((Q1.out).below hx (Q1.out).lt) rfl rfl (by kernel_rfl)) ?_
  try simp only [Act.put, List.setIfInBounds_toArray, List.set_cons_zero, List.set_cons_succ]
  refine q_take (.agg (byteCells (fun _ => 0) 32).toArray) (by rfl) (fun w _ => run_built0 27 rfl (byteCells (fun _ => 0) 32).toArray zeros32_built) ?_
  try simp only [Act.put, List.setIfInBounds_toArray, List.set_cons_zero, List.set_cons_succ]
  refine q_take _ (by rfl) (by intro w _; go_simp; simp only [E2.out, Result.andThen_ok]; try with_reducible rfl) ?_
  try simp only [Act.put, List.setIfInBounds_toArray, List.set_cons_zero, List.set_cons_succ]
  refine q_take _ (by rfl) (by intro w _; go_simp; try with_reducible rfl) ?_
  try simp only [Act.put, List.setIfInBounds_toArray, List.set_cons_zero, List.set_cons_succ]
  refine q_take _ (by rfl) (by intro w _; go_simp; try with_reducible rfl) ?_
  try simp only [Act.put, List.setIfInBounds_toArray, List.set_cons_zero, List.set_cons_succ]
  refine q_take _ (by rfl) (fun x hx => run_load_in 27 (.tmp 3) rfl (g3) rfl (byteCells (FC) 32).toArray 32 (by rw [List.size_toArray, byteCells_length]) ((Q3.out).below hx (Q3.out).lt) rfl rfl (by kernel_rfl)) ?_
  try simp only [Act.put, List.setIfInBounds_toArray, List.set_cons_zero, List.set_cons_succ]
  refine q_take _ (by rfl) (fun x hx => run_load_in 27 (.tmp 1) rfl (g1) rfl (byteCells (FA) 32).toArray 32 (by rw [List.size_toArray, byteCells_length]) ((Q1.out).below hx (Q1.out).lt) rfl rfl (by kernel_rfl)) ?_
  try simp only [Act.put, List.setIfInBounds_toArray, List.set_cons_zero, List.set_cons_succ]
  refine q_call (.agg (byteCells FC 32).toArray) 26 (#[.agg (byteCells FA 32).toArray, .slice none 0 0]) (by rfl) (by intro w; go_simp; try with_reducible rfl) (fun x hx => (CC.out x (laid_below QL.out hx)).mono fun e w' ⟨he, hb⟩ => ⟨he, below_trans hx hb⟩) ?_
  try simp only [Act.put, List.setIfInBounds_toArray, List.set_cons_zero, List.set_cons_succ]
  refine q_take _ (by rfl) (by intro w _; go_simp; simp only [E3.out, Result.andThen_ok]; try with_reducible rfl) ?_
  try simp only [Act.put, List.setIfInBounds_toArray, List.set_cons_zero, List.set_cons_succ]
  refine q_take _ (by rfl) (by intro w _; go_simp; try with_reducible rfl) ?_
  try simp only [Act.put, List.setIfInBounds_toArray, List.set_cons_zero, List.set_cons_succ]
  refine q_take _ (by rfl) (by intro w _; go_simp; try with_reducible rfl) ?_
  try simp only [Act.put, List.setIfInBounds_toArray, List.set_cons_zero, List.set_cons_succ]
  refine q_take _ (by rfl) (fun x hx => run_load_in 27 (.tmp 4) rfl (g4) rfl (byteCells (FD) 32).toArray 32 (by rw [List.size_toArray, byteCells_length]) ((Q4.out).below hx (Q4.out).lt) rfl rfl (by kernel_rfl)) ?_
  try simp only [Act.put, List.setIfInBounds_toArray, List.set_cons_zero, List.set_cons_succ]
  refine q_take _ (by rfl) (fun x hx => run_load_in 27 (.tmp 3) rfl (g3) rfl (byteCells (FC) 32).toArray 32 (by rw [List.size_toArray, byteCells_length]) ((Q3.out).below hx (Q3.out).lt) rfl rfl (by kernel_rfl)) ?_
  try simp only [Act.put, List.setIfInBounds_toArray, List.set_cons_zero, List.set_cons_succ]
  refine q_take _ (by rfl) (by intro w _; go_simp; simp only [E4.out, Result.andThen_ok]; try with_reducible rfl) ?_
  try simp only [Act.put, List.setIfInBounds_toArray, List.set_cons_zero, List.set_cons_succ]
  refine q_take _ (by rfl) (by intro w _; go_simp; try with_reducible rfl) ?_
  try simp only [Act.put, List.setIfInBounds_toArray, List.set_cons_zero, List.set_cons_succ]
  refine q_take _ (by rfl) (by intro w _; go_simp; try with_reducible rfl) ?_
  try simp only [Act.put, List.setIfInBounds_toArray, List.set_cons_zero]
  refine wpQuiet_nil ?_
  intro w9 hb9
  go_wp2_with fail
  go_ret
  exact ⟨rfl, below_trans QB.out hb9⟩

end Kdf
end Go.Proofs.YtljepgddmfelpaaDoor
