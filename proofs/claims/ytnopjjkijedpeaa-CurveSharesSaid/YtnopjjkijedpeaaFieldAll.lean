/- The calls Reduce, Add, Sub, Mul, Small, Power and Invert of package field. -/
import Derived.Test.YtnopjjkijedpeaaFieldOver
namespace Go.Proofs.Ytnopjjkijedpeaa
namespace Field
open Go.ChangeShapes Go.WideShapes Go.ChangeAt Go.RowKit
open Num Mem Words Radix FieldN Chacha Quiet

set_option maxRecDepth 100000 in
theorem reduceB_any (f : Nat → Nat) (hf : ∀ i, f i < 256) (w : World) :
    Calls Try.prog 13 #[.agg (byteCells f 32).toArray] w fun e w' => e = .returned (.agg (byteCells (byteAt (tk f)) 32).toArray) ∧ Below w.heap.size w w' := by
  have HF := Lib.hid hf
  clear hf
  generalize hR : byteAt (tk f) = R
  have HR := Lib.hid hR
  clear hR
  rw [byteCells_lit32 f]
  go_enter Try.func13, Try.ntmps13
  go_upto_region 1 with fail
  rw [← byteCells_lit32 f]
  refine cut_world (fun W => Whole W w.heap.size 22 (byteCells f 32).toArray ∧ Whole W (w.heap.size + 1) 22 (byteCells (fun _ => 0) 32).toArray ∧ Below w.heap.size w W) ⟨?_, ?_, ?_⟩ ?_
  · exact (whole_new _ _ rfl).alloc _
  · rw [byteCells_lit32 fun _ => 0]
    exact whole_new _ _ (by simp)
  · exact below_alloc (below_alloc (Below.refl _ _) _) _
  rintro W ⟨k1, k3, kb⟩
  have K1 := Lib.hid k1
  have K3 := Lib.hid k3
  have KB := Lib.hid kb
  clear k1 k3 kb
  generalize hB : w.heap.size = B at K1 K3 KB ⊢
  go_wp2_with (refine wpList_load_row rfl 22 (.tmp 1) rfl B rfl 22 (byteCells f 32).toArray (0, 0) _ K1.out rfl rfl (by rw [List.size_toArray, byteCells_length]; kernel_rfl) ?_)
  refine (take_any f HF.out _).mono ?_
  rintro e w0 ⟨rfl, hb⟩
  have hl := K3.out.lt
  replace K3 := Lib.hid (K3.out.below hb hl)
  replace KB := Lib.hid (KB.out.trans (hb.mono (by omega)))
  clear hb hl
  go_wp2_with fail
  refine (bytes_any (tk f) (tk_lt f) _).mono ?_
  rintro e w1 ⟨rfl, hb⟩
  have hl := K3.out.lt
  replace K3 := Lib.hid (K3.out.below hb hl)
  replace KB := Lib.hid (KB.out.trans (hb.mono (by omega)))
  clear hb hl
  rw [HR.out]
  go_wp2_with (refine wpList_store_row rfl 22 (.tmp 2) (.tmp 5) rfl (B + 1) (byteCells R 32).toArray rfl rfl 22 _ K3.out (by rw [List.size_toArray, byteCells_length]; kernel_rfl) (by rw [List.size_toArray, List.size_toArray, byteCells_length, byteCells_length]) (bytes_one _ _) ?_)
  have hret : Whole (w1.setRow (B + 1) (byteCells R 32).toArray) (B + 1) 22 (byteCells R 32).toArray := setRow_heap _ _ _ _ _ _ K3.out
  refine bodyPost_ret (results_cell_row rfl _ _ (B + 1) 22 _ (0, 0) _ rfl hret rfl rfl (by rw [List.size_toArray, byteCells_length]; kernel_rfl)) rfl ?_
  exact ⟨rfl, by rw [hB]; exact below_setRow KB.out (by omega) _⟩

set_option maxRecDepth 100000 in
theorem invertB_any (f : Nat → Nat) (hf : ∀ i, f i < 256) (w : World) :
    Calls Try.prog 57 #[.agg (byteCells f 32).toArray] w fun e w' => e = .returned (.agg (byteCells (byteAt (tk f ^ (P - 2) % P)) 32).toArray) ∧ Below w.heap.size w w' := by
  have HF := Lib.hid hf
  clear hf
  generalize hR : byteAt (tk f ^ (P - 2) % P) = R
  have HR := Lib.hid hR
  clear hR
  rw [byteCells_lit32 f]
  go_enter Try.func57, Try.ntmps57
  go_upto_region 1 with fail
  rw [← byteCells_lit32 f]
  refine cut_world (fun W => Whole W w.heap.size 22 (byteCells f 32).toArray ∧ Whole W (w.heap.size + 1) 22 (byteCells (fun _ => 0) 32).toArray ∧ Below w.heap.size w W) ⟨?_, ?_, ?_⟩ ?_
  · exact (whole_new _ _ rfl).alloc _
  · rw [byteCells_lit32 fun _ => 0]
    exact whole_new _ _ (by simp)
  · exact below_alloc (below_alloc (Below.refl _ _) _) _
  rintro W ⟨k1, k3, kb⟩
  have K1 := Lib.hid k1
  have K3 := Lib.hid k3
  have KB := Lib.hid kb
  clear k1 k3 kb
  generalize hB : w.heap.size = B at K1 K3 KB ⊢
  go_wp2_with (refine wpList_load_row rfl 22 (.tmp 1) rfl B rfl 22 (byteCells f 32).toArray (0, 0) _ K1.out rfl rfl (by rw [List.size_toArray, byteCells_length]; kernel_rfl) ?_)
  refine (take_any f HF.out _).mono ?_
  rintro e w0 ⟨rfl, hb⟩
  have hl := K3.out.lt
  replace K3 := Lib.hid (K3.out.below hb hl)
  replace KB := Lib.hid (KB.out.trans (hb.mono (by omega)))
  clear hb hl
  go_wp2_with fail
  refine (over_any (tk f) (tk_lt f) _).mono ?_
  rintro e w1 ⟨rfl, hb⟩
  have hl := K3.out.lt
  replace K3 := Lib.hid (K3.out.below hb hl)
  replace KB := Lib.hid (KB.out.trans (hb.mono (by omega)))
  clear hb hl
  go_wp2_with fail
  refine (bytes_any (tk f ^ (P - 2) % P) (Nat.mod_lt _ P_pos) _).mono ?_
  rintro e w2 ⟨rfl, hb⟩
  have hl := K3.out.lt
  replace K3 := Lib.hid (K3.out.below hb hl)
  replace KB := Lib.hid (KB.out.trans (hb.mono (by omega)))
  clear hb hl
  rw [HR.out]
  go_wp2_with (refine wpList_store_row rfl 22 (.tmp 2) (.tmp 6) rfl (B + 1) (byteCells R 32).toArray rfl rfl 22 _ K3.out (by rw [List.size_toArray, byteCells_length]; kernel_rfl) (by rw [List.size_toArray, List.size_toArray, byteCells_length, byteCells_length]) (bytes_one _ _) ?_)
  have hret : Whole (w2.setRow (B + 1) (byteCells R 32).toArray) (B + 1) 22 (byteCells R 32).toArray := setRow_heap _ _ _ _ _ _ K3.out
  refine bodyPost_ret (results_cell_row rfl _ _ (B + 1) 22 _ (0, 0) _ rfl hret rfl rfl (by rw [List.size_toArray, byteCells_length]; kernel_rfl)) rfl ?_
  exact ⟨rfl, by rw [hB]; exact below_setRow KB.out (by omega) _⟩

set_option maxRecDepth 100000 in
theorem addB_any (f g : Nat → Nat) (hf : ∀ i, f i < 256) (hg : ∀ i, g i < 256) (w : World) :
    Calls Try.prog 11 #[.agg (byteCells f 32).toArray, .agg (byteCells g 32).toArray] w fun e w' => e = .returned (.agg (byteCells (byteAt ((tk f + tk g) % P)) 32).toArray) ∧ Below w.heap.size w w' := by
  have HF := Lib.hid hf
  have HG := Lib.hid hg
  clear hf hg
  rw [byteCells_lit32 f, byteCells_lit32 g]
  go_enter Try.func11, Try.ntmps11
  go_upto_region 1 with fail
  rw [← byteCells_lit32 f, ← byteCells_lit32 g]
  refine cut_world (fun W => Whole W w.heap.size 22 (byteCells f 32).toArray ∧ Whole W (w.heap.size + 1) 22 (byteCells g 32).toArray ∧ Whole W (w.heap.size + 1 + 1) 22 (byteCells (fun _ => 0) 32).toArray ∧ Below w.heap.size w W) ⟨?_, ?_, ?_, ?_⟩ ?_
  · exact ((whole_new _ _ rfl).alloc _).alloc _
  · exact (whole_new _ _ (by simp)).alloc _
  · rw [byteCells_lit32 fun _ => 0]
    exact whole_new _ _ (by simp)
  · exact below_alloc (below_alloc (below_alloc (Below.refl _ _) _) _) _
  rintro W ⟨k1, k2, k3, kb⟩
  have K1 := Lib.hid k1.drew
  have K2 := Lib.hid k2.drew
  have K3 := Lib.hid k3.drew
  have KB := Lib.hid (below_drewN kb 1)
  clear k1 k2 k3 kb
  generalize hB : w.heap.size = B at K1 K2 K3 KB ⊢
  refine region_drew (fun X => Below (B + 1 + 1) W.drew X) rfl (Below.refl _ _) ?_
  intro hS
  refine take 0 _ rfl (by kernel_rfl) (by kernel_rfl) (by kernel_rfl) (fun _ _ _ h => h) (by rfl) hS (fun w hw => run_load_op 22 (.tmp 2) rfl (B) rfl (K1.out.below hw (by omega)) rfl rfl (by rw [List.size_toArray, byteCells_length]; kernel_rfl)) ?_
  try simp only [Act.put, List.setIfInBounds_toArray, List.set_cons_zero, List.set_cons_succ]
  refine take 2 _ rfl (by kernel_rfl) (by kernel_rfl) (by kernel_rfl) (fun _ _ _ h => h) (by rfl) hS (fun w hw => run_load_op 22 (.tmp 3) rfl ((B+1)) rfl (K2.out.below hw (by omega)) rfl rfl (by rw [List.size_toArray, byteCells_length]; kernel_rfl)) ?_
  try simp only [Act.put, List.setIfInBounds_toArray, List.set_cons_zero, List.set_cons_succ]
  refine alone 1 rfl (by kernel_rfl) (by rfl) ?_
  intro K hK
  go_simp
  refine (take_any f HF.out _).mono ?_
  rintro e v1 ⟨rfl, hb⟩
  have hl := K3.out.lt
  replace K3 := Lib.hid (K3.out.below hb hl)
  go_simp
  replace hS := hS.trans (hb.mono (Nat.le_of_lt hl))
  refine hK.out _ _ hS ?_
  clear hK hb K hl
  try simp only [Act.put, List.setIfInBounds_toArray, List.set_cons_zero, List.set_cons_succ]
  refine alone 3 rfl (by kernel_rfl) (by rfl) ?_
  intro K hK
  go_simp
  refine (take_any g HG.out _).mono ?_
  rintro e v3 ⟨rfl, hb⟩
  have hl := K3.out.lt
  replace K3 := Lib.hid (K3.out.below hb hl)
  go_simp
  replace hS := hS.trans (hb.mono (Nat.le_of_lt hl))
  refine hK.out _ _ hS ?_
  clear hK hb K hl
  try simp only [Act.put, List.setIfInBounds_toArray, List.set_cons_zero, List.set_cons_succ]
  refine alone 4 rfl (by kernel_rfl) (by rfl) ?_
  intro K hK
  go_simp
  refine (add_any (tk f) (tk g) (tk_lt f) (tk_lt g) _).mono ?_
  rintro e v4 ⟨rfl, hb⟩
  have hl := K3.out.lt
  replace K3 := Lib.hid (K3.out.below hb hl)
  go_simp
  replace hS := hS.trans (hb.mono (Nat.le_of_lt hl))
  refine hK.out _ _ hS ?_
  clear hK hb K hl
  try simp only [Act.put, List.setIfInBounds_toArray, List.set_cons_zero, List.set_cons_succ]
  refine alone 5 rfl (by kernel_rfl) (by rfl) ?_
  intro K hK
  go_simp
  refine (bytes_any ((tk f + tk g) % P) (Nat.mod_lt _ P_pos) _).mono ?_
  rintro e v5 ⟨rfl, hb⟩
  have hl := K3.out.lt
  replace K3 := Lib.hid (K3.out.below hb hl)
  go_simp
  replace hS := hS.trans (hb.mono (Nat.le_of_lt hl))
  refine hK.out _ _ hS ?_
  clear hK hb K hl
  try simp only [Act.put, List.setIfInBounds_toArray, List.set_cons_zero, List.set_cons_succ]
  generalize hR : byteAt ((tk f + tk g) % P) = R
  have HR := Lib.hid hR
  clear hR
  refine alone 6 rfl (by kernel_rfl) (by rfl) ?_
  intro K hK
  refine wp_store_row 22 (.tmp 4) (.tmp 10) rfl (B + 1 + 1) (byteCells R 32).toArray (by rfl) (by rfl) 22 _ K3.out (by rw [List.size_toArray, byteCells_length]; kernel_rfl) (by rw [List.size_toArray, List.size_toArray, byteCells_length, byteCells_length]) (bytes_one _ _) ?_
  have hS2 := below_setRow hS (Nat.le_refl _) (byteCells R 32).toArray
  refine hK.out _ _ hS2 ?_
  clear hK K hS
  have hS := hS2
  clear hS2
  try simp only [Act.put]
  refine region_end (by kernel_rfl) ?_
  refine cut_post (F := Exit.then _ _) (fun X => Whole X (B + 1 + 1) 22 (byteCells R 32).toArray ∧ Below B w X) ⟨setRow_heap _ _ _ _ _ _ K3.out, (show Below B w W.drew from KB.out).trans (hS.mono (by omega))⟩ ?_
  rintro X ⟨r3, rb⟩
  go_wp2_with fail
  refine bodyPost_ret (results_cell_row rfl _ _ (B + 1 + 1) 22 _ (0, 0) _ rfl r3 rfl rfl (by rw [List.size_toArray, byteCells_length]; kernel_rfl)) rfl ?_
  exact ⟨by rw [HR.out], by rw [hB]; exact rb⟩

set_option maxRecDepth 100000 in
theorem subB_any (f g : Nat → Nat) (hf : ∀ i, f i < 256) (hg : ∀ i, g i < 256) (w : World) :
    Calls Try.prog 12 #[.agg (byteCells f 32).toArray, .agg (byteCells g 32).toArray] w fun e w' => e = .returned (.agg (byteCells (byteAt ((tk f + (P - tk g)) % P)) 32).toArray) ∧ Below w.heap.size w w' := by
  have HF := Lib.hid hf
  have HG := Lib.hid hg
  clear hf hg
  rw [byteCells_lit32 f, byteCells_lit32 g]
  go_enter Try.func12, Try.ntmps12
  go_upto_region 1 with fail
  rw [← byteCells_lit32 f, ← byteCells_lit32 g]
  refine cut_world (fun W => Whole W w.heap.size 22 (byteCells f 32).toArray ∧ Whole W (w.heap.size + 1) 22 (byteCells g 32).toArray ∧ Whole W (w.heap.size + 1 + 1) 22 (byteCells (fun _ => 0) 32).toArray ∧ Below w.heap.size w W) ⟨?_, ?_, ?_, ?_⟩ ?_
  · exact ((whole_new _ _ rfl).alloc _).alloc _
  · exact (whole_new _ _ (by simp)).alloc _
  · rw [byteCells_lit32 fun _ => 0]
    exact whole_new _ _ (by simp)
  · exact below_alloc (below_alloc (below_alloc (Below.refl _ _) _) _) _
  rintro W ⟨k1, k2, k3, kb⟩
  have K1 := Lib.hid k1.drew
  have K2 := Lib.hid k2.drew
  have K3 := Lib.hid k3.drew
  have KB := Lib.hid (below_drewN kb 1)
  clear k1 k2 k3 kb
  generalize hB : w.heap.size = B at K1 K2 K3 KB ⊢
  refine region_drew (fun X => Below (B + 1 + 1) W.drew X) rfl (Below.refl _ _) ?_
  intro hS
  refine take 0 _ rfl (by kernel_rfl) (by kernel_rfl) (by kernel_rfl) (fun _ _ _ h => h) (by rfl) hS (fun w hw => run_load_op 22 (.tmp 2) rfl (B) rfl (K1.out.below hw (by omega)) rfl rfl (by rw [List.size_toArray, byteCells_length]; kernel_rfl)) ?_
  try simp only [Act.put, List.setIfInBounds_toArray, List.set_cons_zero, List.set_cons_succ]
  refine take 2 _ rfl (by kernel_rfl) (by kernel_rfl) (by kernel_rfl) (fun _ _ _ h => h) (by rfl) hS (fun w hw => run_load_op 22 (.tmp 3) rfl ((B+1)) rfl (K2.out.below hw (by omega)) rfl rfl (by rw [List.size_toArray, byteCells_length]; kernel_rfl)) ?_
  try simp only [Act.put, List.setIfInBounds_toArray, List.set_cons_zero, List.set_cons_succ]
  refine alone 1 rfl (by kernel_rfl) (by rfl) ?_
  intro K hK
  go_simp
  refine (take_any f HF.out _).mono ?_
  rintro e v1 ⟨rfl, hb⟩
  have hl := K3.out.lt
  replace K3 := Lib.hid (K3.out.below hb hl)
  go_simp
  replace hS := hS.trans (hb.mono (Nat.le_of_lt hl))
  refine hK.out _ _ hS ?_
  clear hK hb K hl
  try simp only [Act.put, List.setIfInBounds_toArray, List.set_cons_zero, List.set_cons_succ]
  refine alone 3 rfl (by kernel_rfl) (by rfl) ?_
  intro K hK
  go_simp
  refine (take_any g HG.out _).mono ?_
  rintro e v3 ⟨rfl, hb⟩
  have hl := K3.out.lt
  replace K3 := Lib.hid (K3.out.below hb hl)
  go_simp
  replace hS := hS.trans (hb.mono (Nat.le_of_lt hl))
  refine hK.out _ _ hS ?_
  clear hK hb K hl
  try simp only [Act.put, List.setIfInBounds_toArray, List.set_cons_zero, List.set_cons_succ]
  refine alone 4 rfl (by kernel_rfl) (by rfl) ?_
  intro K hK
  go_simp
  refine (sub_any (tk f) (tk g) (tk_lt f) (tk_lt g) _).mono ?_
  rintro e v4 ⟨rfl, hb⟩
  have hl := K3.out.lt
  replace K3 := Lib.hid (K3.out.below hb hl)
  go_simp
  replace hS := hS.trans (hb.mono (Nat.le_of_lt hl))
  refine hK.out _ _ hS ?_
  clear hK hb K hl
  try simp only [Act.put, List.setIfInBounds_toArray, List.set_cons_zero, List.set_cons_succ]
  refine alone 5 rfl (by kernel_rfl) (by rfl) ?_
  intro K hK
  go_simp
  refine (bytes_any ((tk f + (P - tk g)) % P) (Nat.mod_lt _ P_pos) _).mono ?_
  rintro e v5 ⟨rfl, hb⟩
  have hl := K3.out.lt
  replace K3 := Lib.hid (K3.out.below hb hl)
  go_simp
  replace hS := hS.trans (hb.mono (Nat.le_of_lt hl))
  refine hK.out _ _ hS ?_
  clear hK hb K hl
  try simp only [Act.put, List.setIfInBounds_toArray, List.set_cons_zero, List.set_cons_succ]
  generalize hR : byteAt ((tk f + (P - tk g)) % P) = R
  have HR := Lib.hid hR
  clear hR
  refine alone 6 rfl (by kernel_rfl) (by rfl) ?_
  intro K hK
  refine wp_store_row 22 (.tmp 4) (.tmp 10) rfl (B + 1 + 1) (byteCells R 32).toArray (by rfl) (by rfl) 22 _ K3.out (by rw [List.size_toArray, byteCells_length]; kernel_rfl) (by rw [List.size_toArray, List.size_toArray, byteCells_length, byteCells_length]) (bytes_one _ _) ?_
  have hS2 := below_setRow hS (Nat.le_refl _) (byteCells R 32).toArray
  refine hK.out _ _ hS2 ?_
  clear hK K hS
  have hS := hS2
  clear hS2
  try simp only [Act.put]
  refine region_end (by kernel_rfl) ?_
  refine cut_post (F := Exit.then _ _) (fun X => Whole X (B + 1 + 1) 22 (byteCells R 32).toArray ∧ Below B w X) ⟨setRow_heap _ _ _ _ _ _ K3.out, (show Below B w W.drew from KB.out).trans (hS.mono (by omega))⟩ ?_
  rintro X ⟨r3, rb⟩
  go_wp2_with fail
  refine bodyPost_ret (results_cell_row rfl _ _ (B + 1 + 1) 22 _ (0, 0) _ rfl r3 rfl rfl (by rw [List.size_toArray, byteCells_length]; kernel_rfl)) rfl ?_
  exact ⟨by rw [HR.out], by rw [hB]; exact rb⟩

set_option maxRecDepth 100000 in
theorem mulB_any (f g : Nat → Nat) (hf : ∀ i, f i < 256) (hg : ∀ i, g i < 256) (w : World) :
    Calls Try.prog 39 #[.agg (byteCells f 32).toArray, .agg (byteCells g 32).toArray] w fun e w' => e = .returned (.agg (byteCells (byteAt (tk f * tk g % P)) 32).toArray) ∧ Below w.heap.size w w' := by
  have HF := Lib.hid hf
  have HG := Lib.hid hg
  clear hf hg
  rw [byteCells_lit32 f, byteCells_lit32 g]
  go_enter Try.func39, Try.ntmps39
  go_upto_region 1 with fail
  rw [← byteCells_lit32 f, ← byteCells_lit32 g]
  refine cut_world (fun W => Whole W w.heap.size 22 (byteCells f 32).toArray ∧ Whole W (w.heap.size + 1) 22 (byteCells g 32).toArray ∧ Whole W (w.heap.size + 1 + 1) 22 (byteCells (fun _ => 0) 32).toArray ∧ Below w.heap.size w W) ⟨?_, ?_, ?_, ?_⟩ ?_
  · exact ((whole_new _ _ rfl).alloc _).alloc _
  · exact (whole_new _ _ (by simp)).alloc _
  · rw [byteCells_lit32 fun _ => 0]
    exact whole_new _ _ (by simp)
  · exact below_alloc (below_alloc (below_alloc (Below.refl _ _) _) _) _
  rintro W ⟨k1, k2, k3, kb⟩
  have K1 := Lib.hid k1.drew
  have K2 := Lib.hid k2.drew
  have K3 := Lib.hid k3.drew
  have KB := Lib.hid (below_drewN kb 1)
  clear k1 k2 k3 kb
  generalize hB : w.heap.size = B at K1 K2 K3 KB ⊢
  refine region_drew (fun X => Below (B + 1 + 1) W.drew X) rfl (Below.refl _ _) ?_
  intro hS
  refine take 0 _ rfl (by kernel_rfl) (by kernel_rfl) (by kernel_rfl) (fun _ _ _ h => h) (by rfl) hS (fun w hw => run_load_op 22 (.tmp 2) rfl (B) rfl (K1.out.below hw (by omega)) rfl rfl (by rw [List.size_toArray, byteCells_length]; kernel_rfl)) ?_
  try simp only [Act.put, List.setIfInBounds_toArray, List.set_cons_zero, List.set_cons_succ]
  refine take 2 _ rfl (by kernel_rfl) (by kernel_rfl) (by kernel_rfl) (fun _ _ _ h => h) (by rfl) hS (fun w hw => run_load_op 22 (.tmp 3) rfl ((B+1)) rfl (K2.out.below hw (by omega)) rfl rfl (by rw [List.size_toArray, byteCells_length]; kernel_rfl)) ?_
  try simp only [Act.put, List.setIfInBounds_toArray, List.set_cons_zero, List.set_cons_succ]
  refine alone 1 rfl (by kernel_rfl) (by rfl) ?_
  intro K hK
  go_simp
  refine (take_any f HF.out _).mono ?_
  rintro e v1 ⟨rfl, hb⟩
  have hl := K3.out.lt
  replace K3 := Lib.hid (K3.out.below hb hl)
  go_simp
  replace hS := hS.trans (hb.mono (Nat.le_of_lt hl))
  refine hK.out _ _ hS ?_
  clear hK hb K hl
  try simp only [Act.put, List.setIfInBounds_toArray, List.set_cons_zero, List.set_cons_succ]
  refine alone 3 rfl (by kernel_rfl) (by rfl) ?_
  intro K hK
  go_simp
  refine (take_any g HG.out _).mono ?_
  rintro e v3 ⟨rfl, hb⟩
  have hl := K3.out.lt
  replace K3 := Lib.hid (K3.out.below hb hl)
  go_simp
  replace hS := hS.trans (hb.mono (Nat.le_of_lt hl))
  refine hK.out _ _ hS ?_
  clear hK hb K hl
  try simp only [Act.put, List.setIfInBounds_toArray, List.set_cons_zero, List.set_cons_succ]
  refine alone 4 rfl (by kernel_rfl) (by rfl) ?_
  intro K hK
  go_simp
  refine (times_any (tk f) (tk g) (tk_lt f) (tk_lt g) _).mono ?_
  rintro e v4 ⟨rfl, hb⟩
  have hl := K3.out.lt
  replace K3 := Lib.hid (K3.out.below hb hl)
  go_simp
  replace hS := hS.trans (hb.mono (Nat.le_of_lt hl))
  refine hK.out _ _ hS ?_
  clear hK hb K hl
  try simp only [Act.put, List.setIfInBounds_toArray, List.set_cons_zero, List.set_cons_succ]
  refine alone 5 rfl (by kernel_rfl) (by rfl) ?_
  intro K hK
  go_simp
  refine (bytes_any (tk f * tk g % P) (Nat.mod_lt _ P_pos) _).mono ?_
  rintro e v5 ⟨rfl, hb⟩
  have hl := K3.out.lt
  replace K3 := Lib.hid (K3.out.below hb hl)
  go_simp
  replace hS := hS.trans (hb.mono (Nat.le_of_lt hl))
  refine hK.out _ _ hS ?_
  clear hK hb K hl
  try simp only [Act.put, List.setIfInBounds_toArray, List.set_cons_zero, List.set_cons_succ]
  generalize hR : byteAt (tk f * tk g % P) = R
  have HR := Lib.hid hR
  clear hR
  refine alone 6 rfl (by kernel_rfl) (by rfl) ?_
  intro K hK
  refine wp_store_row 22 (.tmp 4) (.tmp 10) rfl (B + 1 + 1) (byteCells R 32).toArray (by rfl) (by rfl) 22 _ K3.out (by rw [List.size_toArray, byteCells_length]; kernel_rfl) (by rw [List.size_toArray, List.size_toArray, byteCells_length, byteCells_length]) (bytes_one _ _) ?_
  have hS2 := below_setRow hS (Nat.le_refl _) (byteCells R 32).toArray
  refine hK.out _ _ hS2 ?_
  clear hK K hS
  have hS := hS2
  clear hS2
  try simp only [Act.put]
  refine region_end (by kernel_rfl) ?_
  refine cut_post (F := Exit.then _ _) (fun X => Whole X (B + 1 + 1) 22 (byteCells R 32).toArray ∧ Below B w X) ⟨setRow_heap _ _ _ _ _ _ K3.out, (show Below B w W.drew from KB.out).trans (hS.mono (by omega))⟩ ?_
  rintro X ⟨r3, rb⟩
  go_wp2_with fail
  refine bodyPost_ret (results_cell_row rfl _ _ (B + 1 + 1) 22 _ (0, 0) _ rfl r3 rfl rfl (by rw [List.size_toArray, byteCells_length]; kernel_rfl)) rfl ?_
  exact ⟨by rw [HR.out], by rw [hB]; exact rb⟩

end Field
end Go.Proofs.Ytnopjjkijedpeaa
