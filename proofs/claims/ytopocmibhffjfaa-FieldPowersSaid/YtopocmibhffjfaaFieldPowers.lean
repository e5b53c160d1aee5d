/- The walk of 'FieldPowers'. -/
import Derived.Test.YtopocmibhffjfaaFieldAlive
import Derived.Test.YtopocmibhffjfaaRefInvert
import Derived.Test.YtopocmibhffjfaaTree
import Derived.Deep.DeepCutAuto
namespace Go.Proofs.Ytopocmibhffjfaa
namespace FieldPowers
open Go.ChangeShapes Go.WideShapes Go.ChangeAt Go.RowKit
open Num Mem Words Radix FieldN Chacha Quiet Go.Proofs.Ytopocmibhffjfaa.Field

theorem taken_lt (f : Nat → Nat) : le f 0 32 % T < RefF.M256 := Nat.lt_of_lt_of_le (Nat.mod_lt _ (by have := T_big; omega)) (by have := RefF.M_T; omega)

set_option maxRecDepth 100000 in
set_option maxHeartbeats 4000000 in
theorem walk (f g : Nat → Nat) (w : World) (hf : ∀ i, f i < 256) (hg : ∀ i, g i < 256) :
    Calls Try.prog 5 #[.agg (byteCells f 32).toArray, .agg (byteCells g 32).toArray] w fun e w' => e = .returned (.bool true) ∧ Below w.heap.size w w' := by
  obtain ⟨p1, h1⟩ : ∃ v, v = tk f ^ le g 0 32 % P := ⟨_, rfl⟩
  obtain ⟨p2, h2⟩ : ∃ v, v = tk f ^ (P - 2) % P := ⟨_, rfl⟩
  obtain ⟨x, hx⟩ : ∃ v, v = le f 0 32 % T := ⟨_, rfl⟩
  obtain ⟨XL, hXL⟩ : ∃ v, v = dg 65536 x := ⟨_, rfl⟩
  have lx : x < RefF.M256 := by rw [hx]; exact taken_lt f
  have HTF := Lib.hid (RefF.take_any (some ⟨w.heap.size, 0, none⟩) 32 f hf)
  have HP1 := Lib.hid (RefF.power_any x lx (some ⟨w.heap.size + 1, 0, none⟩) 32 g hg)
  have HP2 := Lib.hid (RefF.invert_any x lx)
  have HM1 := Lib.hid (powV hf hg rfl rfl h1)
  have HM2 := Lib.hid (invV hf rfl h2)
  have HQ1 := Lib.hid (show ∀ m, m % P = x ^ le g 0 32 % P → m % P = p1 from fun m hm => by
    rw [hm, h1, hx]
    exact Nat.pow_mod _ _ _)
  have HQ2 := Lib.hid (show ∀ m, m % P = x ^ (P - 2) % P → m % P = p2 from fun m hm => by
    rw [hm, h2, hx]
    exact Nat.pow_mod _ _ _)
  rw [← hx, RefF.nv, ← hXL] at HTF
  rw [RefF.nv, ← hXL] at HP1 HP2
  generalize x ^ le g 0 32 % P = q1 at HP1 HQ1
  generalize x ^ (P - 2) % P = q2 at HP2 HQ2
  have HF := Lib.hid hf
  have HG := Lib.hid hg
  have HZ := Lib.hid (show ∀ f, (byteCells f 32).toArray.size = 32 from fun f => by rw [List.size_toArray, byteCells_length])
  clear h1 h2 hx hXL lx hf hg
  rw [byteCells_lit32 f, byteCells_lit32 g]
  go_enter Try.func5, Try.ntmps5
  go_upto_region 1 with fail
  rw [← byteCells_lit32 f, ← byteCells_lit32 g]
  refine cut_world (fun W => Whole W w.heap.size 22 (byteCells f 32).toArray ∧ Whole W (w.heap.size + 1) 22 (byteCells g 32).toArray ∧ Below w.heap.size w W) ⟨?_, ?_, ?_⟩ ?_
  · exact (whole_new _ _ (by simp)).alloc _
  · exact whole_new _ _ (by simp)
  · exact below_alloc (below_alloc (Below.refl _ _) _) _
  rintro W ⟨k1, k2, kb⟩
  have hB1 := k1.lt
  have hB2 := k2.lt
  have K1 := Lib.hid k1
  have K2 := Lib.hid k2
  have KB := Lib.hid kb
  have RF := Lib.hid (Rd.of_whole k1)
  clear k1 k2 kb
  generalize hB : w.heap.size = B at K1 K2 KB RF HTF HP1 hB1 hB2 ⊢
  go_wp2_with fail
  refine (HTF.out _ RF.out).mono ?_
  rintro e w1 ⟨rfl, hb⟩
  have L1 := Lib.hid (K1.out.below hb hB1)
  have L2 := Lib.hid (K2.out.below hb hB2)
  have LB := Lib.hid (KB.out.trans (hb.mono (by omega)))
  have hs1 := hb.size
  clear hb RF HTF K1 K2 KB
  go_upto_region 2 with (refine wpList_store_row rfl 24 (.tmp 5) (.tmp 9) rfl w1.heap.size (icells XL 16).toArray rfl rfl 24 _ (Whole.new _ _ _) (by rw [icells_size]; kernel_rfl) (by rw [icells_size]; rfl) (icells_one _ _) ?_)
  refine cut_world (fun X => Whole X B 22 (byteCells f 32).toArray ∧ Whole X (B + 1) 22 (byteCells g 32).toArray ∧ Whole X w1.heap.size 24 (icells XL 16).toArray ∧ Below B w X) ⟨Whole.farRow (L1.out.alloc _) (by omega) _, Whole.farRow (L2.out.alloc _) (by omega) _, setRow_heap _ _ _ _ _ _ (Whole.new _ _ _), below_setRow (LB.out.alloc (by omega) _) (by omega) _⟩ ?_
  clear L1 L2 LB hB1 hB2
  rintro V ⟨k1, k2, k3, kb⟩
  generalize w1.heap.size = G1 at k3 ⊢
  have hV1 := k1.lt
  have K1 := Lib.hid k1
  have K2 := Lib.hid k2
  have N1 := Lib.hid k3
  have KB := Lib.hid kb
  clear k1 k2 k3 kb hs1
  simp only [Act.put]
  go_cut [6, 7] (fun s5 s6 wx => ∃ ga0 ga1 : Nat, s5 = .pointer (some ⟨ga0, 0, none⟩) ∧ s6 = .pointer (some ⟨ga1, 0, none⟩) ∧ V.heap.size ≤ ga0 ∧ V.heap.size ≤ ga1 ∧ Whole wx ga0 22 (byteCells (byteAt p1) 32).toArray ∧ Whole wx ga1 22 (byteCells (byteAt p2) 32).toArray ∧ Below V.heap.size V wx)
  case first =>
    refine region_start (fun w' => Below V.heap.size V w') (by kernel_rfl) (below_drewN (Below.refl _ _) 1) ?_
    intro w3 hS
    refine take 0 _ rfl (by kernel_rfl) (by kernel_rfl) (by kernel_rfl) (fun _ _ _ h => h) (by rfl) hS (fun w hw => run_load_op 22 (.tmp 2) rfl (B) rfl (K1.out.below hw K1.out.lt) rfl rfl (by rw [HZ.out]; kernel_rfl)) ?_
    try simp only [Act.put, List.setIfInBounds_toArray, List.set_cons_zero, List.set_cons_succ]
    refine take 1 _ rfl (by kernel_rfl) (by kernel_rfl) (by kernel_rfl) (fun _ _ _ h => h) (by rfl) hS (fun w hw => run_load_op 22 (.tmp 3) rfl ((B+1)) rfl (K2.out.below hw K2.out.lt) rfl rfl (by rw [HZ.out]; kernel_rfl)) ?_
    try simp only [Act.put, List.setIfInBounds_toArray, List.set_cons_zero, List.set_cons_succ]
    refine take 3 _ rfl (by kernel_rfl) (by kernel_rfl) (by kernel_rfl) (fun _ _ _ h => h) (by rfl) hS (fun w hw => run_load_op 22 (.tmp 2) rfl (B) rfl (K1.out.below hw K1.out.lt) rfl rfl (by rw [HZ.out]; kernel_rfl)) ?_
    try simp only [Act.put, List.setIfInBounds_toArray, List.set_cons_zero, List.set_cons_succ]
    refine ready_three 2 5 6 rfl rfl rfl (by kernel_rfl) (by rfl) (by rfl) (by rfl) ?_ ?_ ?_
    · intro K hK
      go_simp
      refine (HM1.out _).mono ?_
      rintro e v1 ⟨rfl, hb⟩
      go_simp
      replace hS := below_trans hS hb
      refine hK.out _ _ hS ?_
      clear hK hb K
      try simp only [Act.put, List.setIfInBounds_toArray, List.set_cons_zero, List.set_cons_succ]
      refine ready_three 4 5 6 rfl rfl rfl (by kernel_rfl) (by rfl) (by rfl) (by rfl) ?_ ?_ ?_
      · intro K hK
        go_simp
        refine (HM2.out _).mono ?_
        rintro e v2 ⟨rfl, hb⟩
        go_simp
        replace hS := below_trans hS hb
        refine hK.out _ _ hS ?_
        clear hK hb K
        try simp only [Act.put, List.setIfInBounds_toArray, List.set_cons_zero, List.set_cons_succ]
        refine ready_two 5 6 rfl rfl (by kernel_rfl) (by rfl) (by rfl) ?_ ?_
        · intro K hK
          go_simp
          refine hK.out _ _ (hS.alloc hS.size _) ?_
          clear hK K
          try simp only [Act.put, List.setIfInBounds_toArray, List.set_cons_zero, List.set_cons_succ]
          refine cut_any (fun X => Whole X v2.heap.size 22 (byteCells (fun _ => 0) 32).toArray ∧ Below V.heap.size V X) ⟨Whole.new _ _ _, hS.alloc hS.size _⟩ ?_
          rintro v3 ⟨hnew, hS'⟩
          have hge0 : V.heap.size ≤ v2.heap.size := hS.size
          clear hS
          have hS := hS'
          clear hS'
          generalize v2.heap.size = ga0 at hnew hge0 ⊢
          have Ha0 := Lib.hid hnew
          clear hnew
          refine alone 6 rfl (by kernel_rfl) (by rfl) ?_
          intro K hK
          go_simp
          refine hK.out _ _ (hS.alloc hS.size _) ?_
          clear hK K
          try simp only [Act.put, List.setIfInBounds_toArray, List.set_cons_zero, List.set_cons_succ]
          refine cut_any (fun X => Whole X v3.heap.size 22 (byteCells (fun _ => 0) 32).toArray ∧ Below V.heap.size V X ∧ Whole X ga0 22 (byteCells (fun _ => 0) 32).toArray) ⟨Whole.new _ _ _, hS.alloc hS.size _, Ha0.out.alloc _⟩ ?_
          rintro v4 ⟨hnew, hS', hold0⟩
          have hlt0 : ga0 < v3.heap.size := Ha0.out.lt
          have hge1 : V.heap.size ≤ v3.heap.size := hS.size
          clear hS
          have hS := hS'
          clear hS'
          generalize v3.heap.size = ga1 at hnew hge1 hlt0 ⊢
          have Ha1 := Lib.hid hnew
          clear hnew
          replace Ha0 := Lib.hid hold0
          clear hold0
          have hne : ga0 ≠ ga1 := by omega
          refine alone 7 rfl (by kernel_rfl) (by rfl) ?_
          intro K hK
          refine wp_store_row 22 (.tmp 6) (.tmp 12) rfl ga0 (byteCells (byteAt p1) 32).toArray (by rfl) (by rfl) 22 _ Ha0.out (by rw [HZ.out]; kernel_rfl) (by rw [HZ.out, HZ.out]) (bytes_one _ _) ?_
          have hS2 := below_setRow hS hge0 (byteCells (byteAt p1) 32).toArray
          refine hK.out _ _ hS2 ?_
          clear hK K
          refine cut_any (fun X => Whole X ga0 22 (byteCells (byteAt p1) 32).toArray ∧ Whole X ga1 22 (byteCells (fun _ => 0) 32).toArray ∧ Below V.heap.size V X) ⟨setRow_heap _ _ _ _ _ _ Ha0.out, Whole.farRow Ha1.out (by omega) _, hS2⟩ ?_
          rintro v5 ⟨hnew, hold, hS3⟩
          clear hS hS2
          have hS := hS3
          clear hS3
          replace Ha0 := Lib.hid hnew
          replace Ha1 := Lib.hid hold
          clear hnew hold
          try simp only [Act.put]
          refine alone 8 rfl (by kernel_rfl) (by rfl) ?_
          intro K hK
          refine wp_store_row 22 (.tmp 7) (.tmp 14) rfl ga1 (byteCells (byteAt p2) 32).toArray (by rfl) (by rfl) 22 _ Ha1.out (by rw [HZ.out]; kernel_rfl) (by rw [HZ.out, HZ.out]) (bytes_one _ _) ?_
          have hS2 := below_setRow hS hge1 (byteCells (byteAt p2) 32).toArray
          refine hK.out _ _ hS2 ?_
          clear hK K
          refine cut_any (fun X => Whole X ga1 22 (byteCells (byteAt p2) 32).toArray ∧ Whole X ga0 22 (byteCells (byteAt p1) 32).toArray ∧ Below V.heap.size V X) ⟨setRow_heap _ _ _ _ _ _ Ha1.out, Whole.farRow Ha0.out (by omega) _, hS2⟩ ?_
          rintro v6 ⟨hnew, hold, hS3⟩
          clear hS hS2
          have hS := hS3
          clear hS3
          replace Ha1 := Lib.hid hnew
          replace Ha0 := Lib.hid hold
          clear hnew hold
          try simp only [Act.put]
          refine region_end (by kernel_rfl) ?_
          go_wp2_with fail
          go_meet
          exact ⟨ga0, ga1, rfl, rfl, hge0, hge1, Ha0.out, Ha1.out, hS⟩
        · intro K hK
          go_simp
          refine hK.out _ _ (hS.alloc hS.size _) ?_
          clear hK K
          try simp only [Act.put, List.setIfInBounds_toArray, List.set_cons_zero, List.set_cons_succ]
          refine cut_any (fun X => Whole X v2.heap.size 22 (byteCells (fun _ => 0) 32).toArray ∧ Below V.heap.size V X) ⟨Whole.new _ _ _, hS.alloc hS.size _⟩ ?_
          rintro v7 ⟨hnew, hS'⟩
          have hge1 : V.heap.size ≤ v2.heap.size := hS.size
          clear hS
          have hS := hS'
          clear hS'
          generalize v2.heap.size = ga1 at hnew hge1 ⊢
          have Ha1 := Lib.hid hnew
          clear hnew
          refine alone 5 rfl (by kernel_rfl) (by rfl) ?_
          intro K hK
          go_simp
          refine hK.out _ _ (hS.alloc hS.size _) ?_
          clear hK K
          try simp only [Act.put, List.setIfInBounds_toArray, List.set_cons_zero, List.set_cons_succ]
          refine cut_any (fun X => Whole X v7.heap.size 22 (byteCells (fun _ => 0) 32).toArray ∧ Below V.heap.size V X ∧ Whole X ga1 22 (byteCells (fun _ => 0) 32).toArray) ⟨Whole.new _ _ _, hS.alloc hS.size _, Ha1.out.alloc _⟩ ?_
          rintro v8 ⟨hnew, hS', hold1⟩
          have hlt1 : ga1 < v7.heap.size := Ha1.out.lt
          have hge0 : V.heap.size ≤ v7.heap.size := hS.size
          clear hS
          have hS := hS'
          clear hS'
          generalize v7.heap.size = ga0 at hnew hge0 hlt1 ⊢
          have Ha0 := Lib.hid hnew
          clear hnew
          replace Ha1 := Lib.hid hold1
          clear hold1
          have hne : ga0 ≠ ga1 := by omega
          refine alone 7 rfl (by kernel_rfl) (by rfl) ?_
          intro K hK
          refine wp_store_row 22 (.tmp 6) (.tmp 12) rfl ga0 (byteCells (byteAt p1) 32).toArray (by rfl) (by rfl) 22 _ Ha0.out (by rw [HZ.out]; kernel_rfl) (by rw [HZ.out, HZ.out]) (bytes_one _ _) ?_
          have hS2 := below_setRow hS hge0 (byteCells (byteAt p1) 32).toArray
          refine hK.out _ _ hS2 ?_
          clear hK K
          refine cut_any (fun X => Whole X ga0 22 (byteCells (byteAt p1) 32).toArray ∧ Whole X ga1 22 (byteCells (fun _ => 0) 32).toArray ∧ Below V.heap.size V X) ⟨setRow_heap _ _ _ _ _ _ Ha0.out, Whole.farRow Ha1.out (by omega) _, hS2⟩ ?_
          rintro v9 ⟨hnew, hold, hS3⟩
          clear hS hS2
          have hS := hS3
          clear hS3
          replace Ha0 := Lib.hid hnew
          replace Ha1 := Lib.hid hold
          clear hnew hold
          try simp only [Act.put]
          refine alone 8 rfl (by kernel_rfl) (by rfl) ?_
          intro K hK
          refine wp_store_row 22 (.tmp 7) (.tmp 14) rfl ga1 (byteCells (byteAt p2) 32).toArray (by rfl) (by rfl) 22 _ Ha1.out (by rw [HZ.out]; kernel_rfl) (by rw [HZ.out, HZ.out]) (bytes_one _ _) ?_
          have hS2 := below_setRow hS hge1 (byteCells (byteAt p2) 32).toArray
          refine hK.out _ _ hS2 ?_
          clear hK K
          refine cut_any (fun X => Whole X ga1 22 (byteCells (byteAt p2) 32).toArray ∧ Whole X ga0 22 (byteCells (byteAt p1) 32).toArray ∧ Below V.heap.size V X) ⟨setRow_heap _ _ _ _ _ _ Ha1.out, Whole.farRow Ha0.out (by omega) _, hS2⟩ ?_
          rintro v10 ⟨hnew, hold, hS3⟩
          clear hS hS2
          have hS := hS3
          clear hS3
          replace Ha1 := Lib.hid hnew
          replace Ha0 := Lib.hid hold
          clear hnew hold
          try simp only [Act.put]
          refine region_end (by kernel_rfl) ?_
          go_wp2_with fail
          go_meet
          exact ⟨ga0, ga1, rfl, rfl, hge0, hge1, Ha0.out, Ha1.out, hS⟩
      · intro K hK
        go_simp
        refine hK.out _ _ (hS.alloc hS.size _) ?_
        clear hK K
        try simp only [Act.put, List.setIfInBounds_toArray, List.set_cons_zero, List.set_cons_succ]
        refine cut_any (fun X => Whole X v1.heap.size 22 (byteCells (fun _ => 0) 32).toArray ∧ Below V.heap.size V X) ⟨Whole.new _ _ _, hS.alloc hS.size _⟩ ?_
        rintro v11 ⟨hnew, hS'⟩
        have hge0 : V.heap.size ≤ v1.heap.size := hS.size
        clear hS
        have hS := hS'
        clear hS'
        generalize v1.heap.size = ga0 at hnew hge0 ⊢
        have Ha0 := Lib.hid hnew
        clear hnew
        refine ready_two 4 6 rfl rfl (by kernel_rfl) (by rfl) (by rfl) ?_ ?_
        · intro K hK
          go_simp
          refine (HM2.out _).mono ?_
          rintro e v12 ⟨rfl, hb⟩
          go_simp
          replace Ha0 := Lib.hid (Ha0.out.below hb Ha0.out.lt)
          replace hS := below_trans hS hb
          refine hK.out _ _ hS ?_
          clear hK hb K
          try simp only [Act.put, List.setIfInBounds_toArray, List.set_cons_zero, List.set_cons_succ]
          refine alone 6 rfl (by kernel_rfl) (by rfl) ?_
          intro K hK
          go_simp
          refine hK.out _ _ (hS.alloc hS.size _) ?_
          clear hK K
          try simp only [Act.put, List.setIfInBounds_toArray, List.set_cons_zero, List.set_cons_succ]
          refine cut_any (fun X => Whole X v12.heap.size 22 (byteCells (fun _ => 0) 32).toArray ∧ Below V.heap.size V X ∧ Whole X ga0 22 (byteCells (fun _ => 0) 32).toArray) ⟨Whole.new _ _ _, hS.alloc hS.size _, Ha0.out.alloc _⟩ ?_
          rintro v13 ⟨hnew, hS', hold0⟩
          have hlt0 : ga0 < v12.heap.size := Ha0.out.lt
          have hge1 : V.heap.size ≤ v12.heap.size := hS.size
          clear hS
          have hS := hS'
          clear hS'
          generalize v12.heap.size = ga1 at hnew hge1 hlt0 ⊢
          have Ha1 := Lib.hid hnew
          clear hnew
          replace Ha0 := Lib.hid hold0
          clear hold0
          have hne : ga0 ≠ ga1 := by omega
          refine alone 7 rfl (by kernel_rfl) (by rfl) ?_
          intro K hK
          refine wp_store_row 22 (.tmp 6) (.tmp 12) rfl ga0 (byteCells (byteAt p1) 32).toArray (by rfl) (by rfl) 22 _ Ha0.out (by rw [HZ.out]; kernel_rfl) (by rw [HZ.out, HZ.out]) (bytes_one _ _) ?_
          have hS2 := below_setRow hS hge0 (byteCells (byteAt p1) 32).toArray
          refine hK.out _ _ hS2 ?_
          clear hK K
          refine cut_any (fun X => Whole X ga0 22 (byteCells (byteAt p1) 32).toArray ∧ Whole X ga1 22 (byteCells (fun _ => 0) 32).toArray ∧ Below V.heap.size V X) ⟨setRow_heap _ _ _ _ _ _ Ha0.out, Whole.farRow Ha1.out (by omega) _, hS2⟩ ?_
          rintro v14 ⟨hnew, hold, hS3⟩
          clear hS hS2
          have hS := hS3
          clear hS3
          replace Ha0 := Lib.hid hnew
          replace Ha1 := Lib.hid hold
          clear hnew hold
          try simp only [Act.put]
          refine alone 8 rfl (by kernel_rfl) (by rfl) ?_
          intro K hK
          refine wp_store_row 22 (.tmp 7) (.tmp 14) rfl ga1 (byteCells (byteAt p2) 32).toArray (by rfl) (by rfl) 22 _ Ha1.out (by rw [HZ.out]; kernel_rfl) (by rw [HZ.out, HZ.out]) (bytes_one _ _) ?_
          have hS2 := below_setRow hS hge1 (byteCells (byteAt p2) 32).toArray
          refine hK.out _ _ hS2 ?_
          clear hK K
          refine cut_any (fun X => Whole X ga1 22 (byteCells (byteAt p2) 32).toArray ∧ Whole X ga0 22 (byteCells (byteAt p1) 32).toArray ∧ Below V.heap.size V X) ⟨setRow_heap _ _ _ _ _ _ Ha1.out, Whole.farRow Ha0.out (by omega) _, hS2⟩ ?_
          rintro v15 ⟨hnew, hold, hS3⟩
          clear hS hS2
          have hS := hS3
          clear hS3
          replace Ha1 := Lib.hid hnew
          replace Ha0 := Lib.hid hold
          clear hnew hold
          try simp only [Act.put]
          refine region_end (by kernel_rfl) ?_
          go_wp2_with fail
          go_meet
          exact ⟨ga0, ga1, rfl, rfl, hge0, hge1, Ha0.out, Ha1.out, hS⟩
        · intro K hK
          go_simp
          refine hK.out _ _ (hS.alloc hS.size _) ?_
          clear hK K
          try simp only [Act.put, List.setIfInBounds_toArray, List.set_cons_zero, List.set_cons_succ]
          refine cut_any (fun X => Whole X v11.heap.size 22 (byteCells (fun _ => 0) 32).toArray ∧ Below V.heap.size V X ∧ Whole X ga0 22 (byteCells (fun _ => 0) 32).toArray) ⟨Whole.new _ _ _, hS.alloc hS.size _, Ha0.out.alloc _⟩ ?_
          rintro v16 ⟨hnew, hS', hold0⟩
          have hlt0 : ga0 < v11.heap.size := Ha0.out.lt
          have hge1 : V.heap.size ≤ v11.heap.size := hS.size
          clear hS
          have hS := hS'
          clear hS'
          generalize v11.heap.size = ga1 at hnew hge1 hlt0 ⊢
          have Ha1 := Lib.hid hnew
          clear hnew
          replace Ha0 := Lib.hid hold0
          clear hold0
          have hne : ga0 ≠ ga1 := by omega
          refine alone 4 rfl (by kernel_rfl) (by rfl) ?_
          intro K hK
          go_simp
          refine (HM2.out _).mono ?_
          rintro e v17 ⟨rfl, hb⟩
          go_simp
          replace Ha0 := Lib.hid (Ha0.out.below hb Ha0.out.lt)
          replace Ha1 := Lib.hid (Ha1.out.below hb Ha1.out.lt)
          replace hS := below_trans hS hb
          refine hK.out _ _ hS ?_
          clear hK hb K
          try simp only [Act.put, List.setIfInBounds_toArray, List.set_cons_zero, List.set_cons_succ]
          refine alone 7 rfl (by kernel_rfl) (by rfl) ?_
          intro K hK
          refine wp_store_row 22 (.tmp 6) (.tmp 12) rfl ga0 (byteCells (byteAt p1) 32).toArray (by rfl) (by rfl) 22 _ Ha0.out (by rw [HZ.out]; kernel_rfl) (by rw [HZ.out, HZ.out]) (bytes_one _ _) ?_
          have hS2 := below_setRow hS hge0 (byteCells (byteAt p1) 32).toArray
          refine hK.out _ _ hS2 ?_
          clear hK K
          refine cut_any (fun X => Whole X ga0 22 (byteCells (byteAt p1) 32).toArray ∧ Whole X ga1 22 (byteCells (fun _ => 0) 32).toArray ∧ Below V.heap.size V X) ⟨setRow_heap _ _ _ _ _ _ Ha0.out, Whole.farRow Ha1.out (by omega) _, hS2⟩ ?_
          rintro v18 ⟨hnew, hold, hS3⟩
          clear hS hS2
          have hS := hS3
          clear hS3
          replace Ha0 := Lib.hid hnew
          replace Ha1 := Lib.hid hold
          clear hnew hold
          try simp only [Act.put]
          refine alone 8 rfl (by kernel_rfl) (by rfl) ?_
          intro K hK
          refine wp_store_row 22 (.tmp 7) (.tmp 14) rfl ga1 (byteCells (byteAt p2) 32).toArray (by rfl) (by rfl) 22 _ Ha1.out (by rw [HZ.out]; kernel_rfl) (by rw [HZ.out, HZ.out]) (bytes_one _ _) ?_
          have hS2 := below_setRow hS hge1 (byteCells (byteAt p2) 32).toArray
          refine hK.out _ _ hS2 ?_
          clear hK K
          refine cut_any (fun X => Whole X ga1 22 (byteCells (byteAt p2) 32).toArray ∧ Whole X ga0 22 (byteCells (byteAt p1) 32).toArray ∧ Below V.heap.size V X) ⟨setRow_heap _ _ _ _ _ _ Ha1.out, Whole.farRow Ha0.out (by omega) _, hS2⟩ ?_
          rintro v19 ⟨hnew, hold, hS3⟩
          clear hS hS2
          have hS := hS3
          clear hS3
          replace Ha1 := Lib.hid hnew
          replace Ha0 := Lib.hid hold
          clear hnew hold
          try simp only [Act.put]
          refine region_end (by kernel_rfl) ?_
          go_wp2_with fail
          go_meet
          exact ⟨ga0, ga1, rfl, rfl, hge0, hge1, Ha0.out, Ha1.out, hS⟩
      · intro K hK
        go_simp
        refine hK.out _ _ (hS.alloc hS.size _) ?_
        clear hK K
        try simp only [Act.put, List.setIfInBounds_toArray, List.set_cons_zero, List.set_cons_succ]
        refine cut_any (fun X => Whole X v1.heap.size 22 (byteCells (fun _ => 0) 32).toArray ∧ Below V.heap.size V X) ⟨Whole.new _ _ _, hS.alloc hS.size _⟩ ?_
        rintro v20 ⟨hnew, hS'⟩
        have hge1 : V.heap.size ≤ v1.heap.size := hS.size
        clear hS
        have hS := hS'
        clear hS'
        generalize v1.heap.size = ga1 at hnew hge1 ⊢
        have Ha1 := Lib.hid hnew
        clear hnew
        refine ready_two 4 5 rfl rfl (by kernel_rfl) (by rfl) (by rfl) ?_ ?_
        · intro K hK
          go_simp
          refine (HM2.out _).mono ?_
          rintro e v21 ⟨rfl, hb⟩
          go_simp
          replace Ha1 := Lib.hid (Ha1.out.below hb Ha1.out.lt)
          replace hS := below_trans hS hb
          refine hK.out _ _ hS ?_
          clear hK hb K
          try simp only [Act.put, List.setIfInBounds_toArray, List.set_cons_zero, List.set_cons_succ]
          refine alone 5 rfl (by kernel_rfl) (by rfl) ?_
          intro K hK
          go_simp
          refine hK.out _ _ (hS.alloc hS.size _) ?_
          clear hK K
          try simp only [Act.put, List.setIfInBounds_toArray, List.set_cons_zero, List.set_cons_succ]
          refine cut_any (fun X => Whole X v21.heap.size 22 (byteCells (fun _ => 0) 32).toArray ∧ Below V.heap.size V X ∧ Whole X ga1 22 (byteCells (fun _ => 0) 32).toArray) ⟨Whole.new _ _ _, hS.alloc hS.size _, Ha1.out.alloc _⟩ ?_
          rintro v22 ⟨hnew, hS', hold1⟩
          have hlt1 : ga1 < v21.heap.size := Ha1.out.lt
          have hge0 : V.heap.size ≤ v21.heap.size := hS.size
          clear hS
          have hS := hS'
          clear hS'
          generalize v21.heap.size = ga0 at hnew hge0 hlt1 ⊢
          have Ha0 := Lib.hid hnew
          clear hnew
          replace Ha1 := Lib.hid hold1
          clear hold1
          have hne : ga0 ≠ ga1 := by omega
          refine alone 7 rfl (by kernel_rfl) (by rfl) ?_
          intro K hK
          refine wp_store_row 22 (.tmp 6) (.tmp 12) rfl ga0 (byteCells (byteAt p1) 32).toArray (by rfl) (by rfl) 22 _ Ha0.out (by rw [HZ.out]; kernel_rfl) (by rw [HZ.out, HZ.out]) (bytes_one _ _) ?_
          have hS2 := below_setRow hS hge0 (byteCells (byteAt p1) 32).toArray
          refine hK.out _ _ hS2 ?_
          clear hK K
          refine cut_any (fun X => Whole X ga0 22 (byteCells (byteAt p1) 32).toArray ∧ Whole X ga1 22 (byteCells (fun _ => 0) 32).toArray ∧ Below V.heap.size V X) ⟨setRow_heap _ _ _ _ _ _ Ha0.out, Whole.farRow Ha1.out (by omega) _, hS2⟩ ?_
          rintro v23 ⟨hnew, hold, hS3⟩
          clear hS hS2
          have hS := hS3
          clear hS3
          replace Ha0 := Lib.hid hnew
          replace Ha1 := Lib.hid hold
          clear hnew hold
          try simp only [Act.put]
          refine alone 8 rfl (by kernel_rfl) (by rfl) ?_
          intro K hK
          refine wp_store_row 22 (.tmp 7) (.tmp 14) rfl ga1 (byteCells (byteAt p2) 32).toArray (by rfl) (by rfl) 22 _ Ha1.out (by rw [HZ.out]; kernel_rfl) (by rw [HZ.out, HZ.out]) (bytes_one _ _) ?_
          have hS2 := below_setRow hS hge1 (byteCells (byteAt p2) 32).toArray
          refine hK.out _ _ hS2 ?_
          clear hK K
          refine cut_any (fun X => Whole X ga1 22 (byteCells (byteAt p2) 32).toArray ∧ Whole X ga0 22 (byteCells (byteAt p1) 32).toArray ∧ Below V.heap.size V X) ⟨setRow_heap _ _ _ _ _ _ Ha1.out, Whole.farRow Ha0.out (by omega) _, hS2⟩ ?_
          rintro v24 ⟨hnew, hold, hS3⟩
          clear hS hS2
          have hS := hS3
          clear hS3
          replace Ha1 := Lib.hid hnew
          replace Ha0 := Lib.hid hold
          clear hnew hold
          try simp only [Act.put]
          refine region_end (by kernel_rfl) ?_
          go_wp2_with fail
          go_meet
          exact ⟨ga0, ga1, rfl, rfl, hge0, hge1, Ha0.out, Ha1.out, hS⟩
        · intro K hK
          go_simp
          refine hK.out _ _ (hS.alloc hS.size _) ?_
          clear hK K
          try simp only [Act.put, List.setIfInBounds_toArray, List.set_cons_zero, List.set_cons_succ]
          refine cut_any (fun X => Whole X v20.heap.size 22 (byteCells (fun _ => 0) 32).toArray ∧ Below V.heap.size V X ∧ Whole X ga1 22 (byteCells (fun _ => 0) 32).toArray) ⟨Whole.new _ _ _, hS.alloc hS.size _, Ha1.out.alloc _⟩ ?_
          rintro v25 ⟨hnew, hS', hold1⟩
          have hlt1 : ga1 < v20.heap.size := Ha1.out.lt
          have hge0 : V.heap.size ≤ v20.heap.size := hS.size
          clear hS
          have hS := hS'
          clear hS'
          generalize v20.heap.size = ga0 at hnew hge0 hlt1 ⊢
          have Ha0 := Lib.hid hnew
          clear hnew
          replace Ha1 := Lib.hid hold1
          clear hold1
          have hne : ga0 ≠ ga1 := by omega
          refine alone 4 rfl (by kernel_rfl) (by rfl) ?_
          intro K hK
          go_simp
          refine (HM2.out _).mono ?_
          rintro e v26 ⟨rfl, hb⟩
          go_simp
          replace Ha0 := Lib.hid (Ha0.out.below hb Ha0.out.lt)
          replace Ha1 := Lib.hid (Ha1.out.below hb Ha1.out.lt)
          replace hS := below_trans hS hb
          refine hK.out _ _ hS ?_
          clear hK hb K
          try simp only [Act.put, List.setIfInBounds_toArray, List.set_cons_zero, List.set_cons_succ]
          refine alone 7 rfl (by kernel_rfl) (by rfl) ?_
          intro K hK
          refine wp_store_row 22 (.tmp 6) (.tmp 12) rfl ga0 (byteCells (byteAt p1) 32).toArray (by rfl) (by rfl) 22 _ Ha0.out (by rw [HZ.out]; kernel_rfl) (by rw [HZ.out, HZ.out]) (bytes_one _ _) ?_
          have hS2 := below_setRow hS hge0 (byteCells (byteAt p1) 32).toArray
          refine hK.out _ _ hS2 ?_
          clear hK K
          refine cut_any (fun X => Whole X ga0 22 (byteCells (byteAt p1) 32).toArray ∧ Whole X ga1 22 (byteCells (fun _ => 0) 32).toArray ∧ Below V.heap.size V X) ⟨setRow_heap _ _ _ _ _ _ Ha0.out, Whole.farRow Ha1.out (by omega) _, hS2⟩ ?_
          rintro v27 ⟨hnew, hold, hS3⟩
          clear hS hS2
          have hS := hS3
          clear hS3
          replace Ha0 := Lib.hid hnew
          replace Ha1 := Lib.hid hold
          clear hnew hold
          try simp only [Act.put]
          refine alone 8 rfl (by kernel_rfl) (by rfl) ?_
          intro K hK
          refine wp_store_row 22 (.tmp 7) (.tmp 14) rfl ga1 (byteCells (byteAt p2) 32).toArray (by rfl) (by rfl) 22 _ Ha1.out (by rw [HZ.out]; kernel_rfl) (by rw [HZ.out, HZ.out]) (bytes_one _ _) ?_
          have hS2 := below_setRow hS hge1 (byteCells (byteAt p2) 32).toArray
          refine hK.out _ _ hS2 ?_
          clear hK K
          refine cut_any (fun X => Whole X ga1 22 (byteCells (byteAt p2) 32).toArray ∧ Whole X ga0 22 (byteCells (byteAt p1) 32).toArray ∧ Below V.heap.size V X) ⟨setRow_heap _ _ _ _ _ _ Ha1.out, Whole.farRow Ha0.out (by omega) _, hS2⟩ ?_
          rintro v28 ⟨hnew, hold, hS3⟩
          clear hS hS2
          have hS := hS3
          clear hS3
          replace Ha1 := Lib.hid hnew
          replace Ha0 := Lib.hid hold
          clear hnew hold
          try simp only [Act.put]
          refine region_end (by kernel_rfl) ?_
          go_wp2_with fail
          go_meet
          exact ⟨ga0, ga1, rfl, rfl, hge0, hge1, Ha0.out, Ha1.out, hS⟩
    · intro K hK
      go_simp
      refine hK.out _ _ (hS.alloc hS.size _) ?_
      clear hK K
      try simp only [Act.put, List.setIfInBounds_toArray, List.set_cons_zero, List.set_cons_succ]
      refine cut_any (fun X => Whole X w3.heap.size 22 (byteCells (fun _ => 0) 32).toArray ∧ Below V.heap.size V X) ⟨Whole.new _ _ _, hS.alloc hS.size _⟩ ?_
      rintro v29 ⟨hnew, hS'⟩
      have hge0 : V.heap.size ≤ w3.heap.size := hS.size
      clear hS
      have hS := hS'
      clear hS'
      generalize w3.heap.size = ga0 at hnew hge0 ⊢
      have Ha0 := Lib.hid hnew
      clear hnew
      refine ready_two 2 6 rfl rfl (by kernel_rfl) (by rfl) (by rfl) ?_ ?_
      · intro K hK
        go_simp
        refine (HM1.out _).mono ?_
        rintro e v30 ⟨rfl, hb⟩
        go_simp
        replace Ha0 := Lib.hid (Ha0.out.below hb Ha0.out.lt)
        replace hS := below_trans hS hb
        refine hK.out _ _ hS ?_
        clear hK hb K
        try simp only [Act.put, List.setIfInBounds_toArray, List.set_cons_zero, List.set_cons_succ]
        refine ready_two 4 6 rfl rfl (by kernel_rfl) (by rfl) (by rfl) ?_ ?_
        · intro K hK
          go_simp
          refine (HM2.out _).mono ?_
          rintro e v31 ⟨rfl, hb⟩
          go_simp
          replace Ha0 := Lib.hid (Ha0.out.below hb Ha0.out.lt)
          replace hS := below_trans hS hb
          refine hK.out _ _ hS ?_
          clear hK hb K
          try simp only [Act.put, List.setIfInBounds_toArray, List.set_cons_zero, List.set_cons_succ]
          refine alone 6 rfl (by kernel_rfl) (by rfl) ?_
          intro K hK
          go_simp
          refine hK.out _ _ (hS.alloc hS.size _) ?_
          clear hK K
          try simp only [Act.put, List.setIfInBounds_toArray, List.set_cons_zero, List.set_cons_succ]
          refine cut_any (fun X => Whole X v31.heap.size 22 (byteCells (fun _ => 0) 32).toArray ∧ Below V.heap.size V X ∧ Whole X ga0 22 (byteCells (fun _ => 0) 32).toArray) ⟨Whole.new _ _ _, hS.alloc hS.size _, Ha0.out.alloc _⟩ ?_
          rintro v32 ⟨hnew, hS', hold0⟩
          have hlt0 : ga0 < v31.heap.size := Ha0.out.lt
          have hge1 : V.heap.size ≤ v31.heap.size := hS.size
          clear hS
          have hS := hS'
          clear hS'
          generalize v31.heap.size = ga1 at hnew hge1 hlt0 ⊢
          have Ha1 := Lib.hid hnew
          clear hnew
          replace Ha0 := Lib.hid hold0
          clear hold0
          have hne : ga0 ≠ ga1 := by omega
          refine alone 7 rfl (by kernel_rfl) (by rfl) ?_
          intro K hK
          refine wp_store_row 22 (.tmp 6) (.tmp 12) rfl ga0 (byteCells (byteAt p1) 32).toArray (by rfl) (by rfl) 22 _ Ha0.out (by rw [HZ.out]; kernel_rfl) (by rw [HZ.out, HZ.out]) (bytes_one _ _) ?_
          have hS2 := below_setRow hS hge0 (byteCells (byteAt p1) 32).toArray
          refine hK.out _ _ hS2 ?_
          clear hK K
          refine cut_any (fun X => Whole X ga0 22 (byteCells (byteAt p1) 32).toArray ∧ Whole X ga1 22 (byteCells (fun _ => 0) 32).toArray ∧ Below V.heap.size V X) ⟨setRow_heap _ _ _ _ _ _ Ha0.out, Whole.farRow Ha1.out (by omega) _, hS2⟩ ?_
          rintro v33 ⟨hnew, hold, hS3⟩
          clear hS hS2
          have hS := hS3
          clear hS3
          replace Ha0 := Lib.hid hnew
          replace Ha1 := Lib.hid hold
          clear hnew hold
          try simp only [Act.put]
          refine alone 8 rfl (by kernel_rfl) (by rfl) ?_
          intro K hK
          refine wp_store_row 22 (.tmp 7) (.tmp 14) rfl ga1 (byteCells (byteAt p2) 32).toArray (by rfl) (by rfl) 22 _ Ha1.out (by rw [HZ.out]; kernel_rfl) (by rw [HZ.out, HZ.out]) (bytes_one _ _) ?_
          have hS2 := below_setRow hS hge1 (byteCells (byteAt p2) 32).toArray
          refine hK.out _ _ hS2 ?_
          clear hK K
          refine cut_any (fun X => Whole X ga1 22 (byteCells (byteAt p2) 32).toArray ∧ Whole X ga0 22 (byteCells (byteAt p1) 32).toArray ∧ Below V.heap.size V X) ⟨setRow_heap _ _ _ _ _ _ Ha1.out, Whole.farRow Ha0.out (by omega) _, hS2⟩ ?_
          rintro v34 ⟨hnew, hold, hS3⟩
          clear hS hS2
          have hS := hS3
          clear hS3
          replace Ha1 := Lib.hid hnew
          replace Ha0 := Lib.hid hold
          clear hnew hold
          try simp only [Act.put]
          refine region_end (by kernel_rfl) ?_
          go_wp2_with fail
          go_meet
          exact ⟨ga0, ga1, rfl, rfl, hge0, hge1, Ha0.out, Ha1.out, hS⟩
        · intro K hK
          go_simp
          refine hK.out _ _ (hS.alloc hS.size _) ?_
          clear hK K
          try simp only [Act.put, List.setIfInBounds_toArray, List.set_cons_zero, List.set_cons_succ]
          refine cut_any (fun X => Whole X v30.heap.size 22 (byteCells (fun _ => 0) 32).toArray ∧ Below V.heap.size V X ∧ Whole X ga0 22 (byteCells (fun _ => 0) 32).toArray) ⟨Whole.new _ _ _, hS.alloc hS.size _, Ha0.out.alloc _⟩ ?_
          rintro v35 ⟨hnew, hS', hold0⟩
          have hlt0 : ga0 < v30.heap.size := Ha0.out.lt
          have hge1 : V.heap.size ≤ v30.heap.size := hS.size
          clear hS
          have hS := hS'
          clear hS'
          generalize v30.heap.size = ga1 at hnew hge1 hlt0 ⊢
          have Ha1 := Lib.hid hnew
          clear hnew
          replace Ha0 := Lib.hid hold0
          clear hold0
          have hne : ga0 ≠ ga1 := by omega
          refine alone 4 rfl (by kernel_rfl) (by rfl) ?_
          intro K hK
          go_simp
          refine (HM2.out _).mono ?_
          rintro e v36 ⟨rfl, hb⟩
          go_simp
          replace Ha0 := Lib.hid (Ha0.out.below hb Ha0.out.lt)
          replace Ha1 := Lib.hid (Ha1.out.below hb Ha1.out.lt)
          replace hS := below_trans hS hb
          refine hK.out _ _ hS ?_
          clear hK hb K
          try simp only [Act.put, List.setIfInBounds_toArray, List.set_cons_zero, List.set_cons_succ]
          refine alone 7 rfl (by kernel_rfl) (by rfl) ?_
          intro K hK
          refine wp_store_row 22 (.tmp 6) (.tmp 12) rfl ga0 (byteCells (byteAt p1) 32).toArray (by rfl) (by rfl) 22 _ Ha0.out (by rw [HZ.out]; kernel_rfl) (by rw [HZ.out, HZ.out]) (bytes_one _ _) ?_
          have hS2 := below_setRow hS hge0 (byteCells (byteAt p1) 32).toArray
          refine hK.out _ _ hS2 ?_
          clear hK K
          refine cut_any (fun X => Whole X ga0 22 (byteCells (byteAt p1) 32).toArray ∧ Whole X ga1 22 (byteCells (fun _ => 0) 32).toArray ∧ Below V.heap.size V X) ⟨setRow_heap _ _ _ _ _ _ Ha0.out, Whole.farRow Ha1.out (by omega) _, hS2⟩ ?_
          rintro v37 ⟨hnew, hold, hS3⟩
          clear hS hS2
          have hS := hS3
          clear hS3
          replace Ha0 := Lib.hid hnew
          replace Ha1 := Lib.hid hold
          clear hnew hold
          try simp only [Act.put]
          refine alone 8 rfl (by kernel_rfl) (by rfl) ?_
          intro K hK
          refine wp_store_row 22 (.tmp 7) (.tmp 14) rfl ga1 (byteCells (byteAt p2) 32).toArray (by rfl) (by rfl) 22 _ Ha1.out (by rw [HZ.out]; kernel_rfl) (by rw [HZ.out, HZ.out]) (bytes_one _ _) ?_
          have hS2 := below_setRow hS hge1 (byteCells (byteAt p2) 32).toArray
          refine hK.out _ _ hS2 ?_
          clear hK K
          refine cut_any (fun X => Whole X ga1 22 (byteCells (byteAt p2) 32).toArray ∧ Whole X ga0 22 (byteCells (byteAt p1) 32).toArray ∧ Below V.heap.size V X) ⟨setRow_heap _ _ _ _ _ _ Ha1.out, Whole.farRow Ha0.out (by omega) _, hS2⟩ ?_
          rintro v38 ⟨hnew, hold, hS3⟩
          clear hS hS2
          have hS := hS3
          clear hS3
          replace Ha1 := Lib.hid hnew
          replace Ha0 := Lib.hid hold
          clear hnew hold
          try simp only [Act.put]
          refine region_end (by kernel_rfl) ?_
          go_wp2_with fail
          go_meet
          exact ⟨ga0, ga1, rfl, rfl, hge0, hge1, Ha0.out, Ha1.out, hS⟩
      · intro K hK
        go_simp
        refine hK.out _ _ (hS.alloc hS.size _) ?_
        clear hK K
        try simp only [Act.put, List.setIfInBounds_toArray, List.set_cons_zero, List.set_cons_succ]
        refine cut_any (fun X => Whole X v29.heap.size 22 (byteCells (fun _ => 0) 32).toArray ∧ Below V.heap.size V X ∧ Whole X ga0 22 (byteCells (fun _ => 0) 32).toArray) ⟨Whole.new _ _ _, hS.alloc hS.size _, Ha0.out.alloc _⟩ ?_
        rintro v39 ⟨hnew, hS', hold0⟩
        have hlt0 : ga0 < v29.heap.size := Ha0.out.lt
        have hge1 : V.heap.size ≤ v29.heap.size := hS.size
        clear hS
        have hS := hS'
        clear hS'
        generalize v29.heap.size = ga1 at hnew hge1 hlt0 ⊢
        have Ha1 := Lib.hid hnew
        clear hnew
        replace Ha0 := Lib.hid hold0
        clear hold0
        have hne : ga0 ≠ ga1 := by omega
        refine alone 2 rfl (by kernel_rfl) (by rfl) ?_
        intro K hK
        go_simp
        refine (HM1.out _).mono ?_
        rintro e v40 ⟨rfl, hb⟩
        go_simp
        replace Ha0 := Lib.hid (Ha0.out.below hb Ha0.out.lt)
        replace Ha1 := Lib.hid (Ha1.out.below hb Ha1.out.lt)
        replace hS := below_trans hS hb
        refine hK.out _ _ hS ?_
        clear hK hb K
        try simp only [Act.put, List.setIfInBounds_toArray, List.set_cons_zero, List.set_cons_succ]
        refine alone 4 rfl (by kernel_rfl) (by rfl) ?_
        intro K hK
        go_simp
        refine (HM2.out _).mono ?_
        rintro e v41 ⟨rfl, hb⟩
        go_simp
        replace Ha0 := Lib.hid (Ha0.out.below hb Ha0.out.lt)
        replace Ha1 := Lib.hid (Ha1.out.below hb Ha1.out.lt)
        replace hS := below_trans hS hb
        refine hK.out _ _ hS ?_
        clear hK hb K
        try simp only [Act.put, List.setIfInBounds_toArray, List.set_cons_zero, List.set_cons_succ]
        refine alone 7 rfl (by kernel_rfl) (by rfl) ?_
        intro K hK
        refine wp_store_row 22 (.tmp 6) (.tmp 12) rfl ga0 (byteCells (byteAt p1) 32).toArray (by rfl) (by rfl) 22 _ Ha0.out (by rw [HZ.out]; kernel_rfl) (by rw [HZ.out, HZ.out]) (bytes_one _ _) ?_
        have hS2 := below_setRow hS hge0 (byteCells (byteAt p1) 32).toArray
        refine hK.out _ _ hS2 ?_
        clear hK K
        refine cut_any (fun X => Whole X ga0 22 (byteCells (byteAt p1) 32).toArray ∧ Whole X ga1 22 (byteCells (fun _ => 0) 32).toArray ∧ Below V.heap.size V X) ⟨setRow_heap _ _ _ _ _ _ Ha0.out, Whole.farRow Ha1.out (by omega) _, hS2⟩ ?_
        rintro v42 ⟨hnew, hold, hS3⟩
        clear hS hS2
        have hS := hS3
        clear hS3
        replace Ha0 := Lib.hid hnew
        replace Ha1 := Lib.hid hold
        clear hnew hold
        try simp only [Act.put]
        refine alone 8 rfl (by kernel_rfl) (by rfl) ?_
        intro K hK
        refine wp_store_row 22 (.tmp 7) (.tmp 14) rfl ga1 (byteCells (byteAt p2) 32).toArray (by rfl) (by rfl) 22 _ Ha1.out (by rw [HZ.out]; kernel_rfl) (by rw [HZ.out, HZ.out]) (bytes_one _ _) ?_
        have hS2 := below_setRow hS hge1 (byteCells (byteAt p2) 32).toArray
        refine hK.out _ _ hS2 ?_
        clear hK K
        refine cut_any (fun X => Whole X ga1 22 (byteCells (byteAt p2) 32).toArray ∧ Whole X ga0 22 (byteCells (byteAt p1) 32).toArray ∧ Below V.heap.size V X) ⟨setRow_heap _ _ _ _ _ _ Ha1.out, Whole.farRow Ha0.out (by omega) _, hS2⟩ ?_
        rintro v43 ⟨hnew, hold, hS3⟩
        clear hS hS2
        have hS := hS3
        clear hS3
        replace Ha1 := Lib.hid hnew
        replace Ha0 := Lib.hid hold
        clear hnew hold
        try simp only [Act.put]
        refine region_end (by kernel_rfl) ?_
        go_wp2_with fail
        go_meet
        exact ⟨ga0, ga1, rfl, rfl, hge0, hge1, Ha0.out, Ha1.out, hS⟩
    · intro K hK
      go_simp
      refine hK.out _ _ (hS.alloc hS.size _) ?_
      clear hK K
      try simp only [Act.put, List.setIfInBounds_toArray, List.set_cons_zero, List.set_cons_succ]
      refine cut_any (fun X => Whole X w3.heap.size 22 (byteCells (fun _ => 0) 32).toArray ∧ Below V.heap.size V X) ⟨Whole.new _ _ _, hS.alloc hS.size _⟩ ?_
      rintro v44 ⟨hnew, hS'⟩
      have hge1 : V.heap.size ≤ w3.heap.size := hS.size
      clear hS
      have hS := hS'
      clear hS'
      generalize w3.heap.size = ga1 at hnew hge1 ⊢
      have Ha1 := Lib.hid hnew
      clear hnew
      refine ready_two 2 5 rfl rfl (by kernel_rfl) (by rfl) (by rfl) ?_ ?_
      · intro K hK
        go_simp
        refine (HM1.out _).mono ?_
        rintro e v45 ⟨rfl, hb⟩
        go_simp
        replace Ha1 := Lib.hid (Ha1.out.below hb Ha1.out.lt)
        replace hS := below_trans hS hb
        refine hK.out _ _ hS ?_
        clear hK hb K
        try simp only [Act.put, List.setIfInBounds_toArray, List.set_cons_zero, List.set_cons_succ]
        refine ready_two 4 5 rfl rfl (by kernel_rfl) (by rfl) (by rfl) ?_ ?_
        · intro K hK
          go_simp
          refine (HM2.out _).mono ?_
          rintro e v46 ⟨rfl, hb⟩
          go_simp
          replace Ha1 := Lib.hid (Ha1.out.below hb Ha1.out.lt)
          replace hS := below_trans hS hb
          refine hK.out _ _ hS ?_
          clear hK hb K
          try simp only [Act.put, List.setIfInBounds_toArray, List.set_cons_zero, List.set_cons_succ]
          refine alone 5 rfl (by kernel_rfl) (by rfl) ?_
          intro K hK
          go_simp
          refine hK.out _ _ (hS.alloc hS.size _) ?_
          clear hK K
          try simp only [Act.put, List.setIfInBounds_toArray, List.set_cons_zero, List.set_cons_succ]
          refine cut_any (fun X => Whole X v46.heap.size 22 (byteCells (fun _ => 0) 32).toArray ∧ Below V.heap.size V X ∧ Whole X ga1 22 (byteCells (fun _ => 0) 32).toArray) ⟨Whole.new _ _ _, hS.alloc hS.size _, Ha1.out.alloc _⟩ ?_
          rintro v47 ⟨hnew, hS', hold1⟩
          have hlt1 : ga1 < v46.heap.size := Ha1.out.lt
          have hge0 : V.heap.size ≤ v46.heap.size := hS.size
          clear hS
          have hS := hS'
          clear hS'
          generalize v46.heap.size = ga0 at hnew hge0 hlt1 ⊢
          have Ha0 := Lib.hid hnew
          clear hnew
          replace Ha1 := Lib.hid hold1
          clear hold1
          have hne : ga0 ≠ ga1 := by omega
          refine alone 7 rfl (by kernel_rfl) (by rfl) ?_
          intro K hK
          refine wp_store_row 22 (.tmp 6) (.tmp 12) rfl ga0 (byteCells (byteAt p1) 32).toArray (by rfl) (by rfl) 22 _ Ha0.out (by rw [HZ.out]; kernel_rfl) (by rw [HZ.out, HZ.out]) (bytes_one _ _) ?_
          have hS2 := below_setRow hS hge0 (byteCells (byteAt p1) 32).toArray
          refine hK.out _ _ hS2 ?_
          clear hK K
          refine cut_any (fun X => Whole X ga0 22 (byteCells (byteAt p1) 32).toArray ∧ Whole X ga1 22 (byteCells (fun _ => 0) 32).toArray ∧ Below V.heap.size V X) ⟨setRow_heap _ _ _ _ _ _ Ha0.out, Whole.farRow Ha1.out (by omega) _, hS2⟩ ?_
          rintro v48 ⟨hnew, hold, hS3⟩
          clear hS hS2
          have hS := hS3
          clear hS3
          replace Ha0 := Lib.hid hnew
          replace Ha1 := Lib.hid hold
          clear hnew hold
          try simp only [Act.put]
          refine alone 8 rfl (by kernel_rfl) (by rfl) ?_
          intro K hK
          refine wp_store_row 22 (.tmp 7) (.tmp 14) rfl ga1 (byteCells (byteAt p2) 32).toArray (by rfl) (by rfl) 22 _ Ha1.out (by rw [HZ.out]; kernel_rfl) (by rw [HZ.out, HZ.out]) (bytes_one _ _) ?_
          have hS2 := below_setRow hS hge1 (byteCells (byteAt p2) 32).toArray
          refine hK.out _ _ hS2 ?_
          clear hK K
          refine cut_any (fun X => Whole X ga1 22 (byteCells (byteAt p2) 32).toArray ∧ Whole X ga0 22 (byteCells (byteAt p1) 32).toArray ∧ Below V.heap.size V X) ⟨setRow_heap _ _ _ _ _ _ Ha1.out, Whole.farRow Ha0.out (by omega) _, hS2⟩ ?_
          rintro v49 ⟨hnew, hold, hS3⟩
          clear hS hS2
          have hS := hS3
          clear hS3
          replace Ha1 := Lib.hid hnew
          replace Ha0 := Lib.hid hold
          clear hnew hold
          try simp only [Act.put]
          refine region_end (by kernel_rfl) ?_
          go_wp2_with fail
          go_meet
          exact ⟨ga0, ga1, rfl, rfl, hge0, hge1, Ha0.out, Ha1.out, hS⟩
        · intro K hK
          go_simp
          refine hK.out _ _ (hS.alloc hS.size _) ?_
          clear hK K
          try simp only [Act.put, List.setIfInBounds_toArray, List.set_cons_zero, List.set_cons_succ]
          refine cut_any (fun X => Whole X v45.heap.size 22 (byteCells (fun _ => 0) 32).toArray ∧ Below V.heap.size V X ∧ Whole X ga1 22 (byteCells (fun _ => 0) 32).toArray) ⟨Whole.new _ _ _, hS.alloc hS.size _, Ha1.out.alloc _⟩ ?_
          rintro v50 ⟨hnew, hS', hold1⟩
          have hlt1 : ga1 < v45.heap.size := Ha1.out.lt
          have hge0 : V.heap.size ≤ v45.heap.size := hS.size
          clear hS
          have hS := hS'
          clear hS'
          generalize v45.heap.size = ga0 at hnew hge0 hlt1 ⊢
          have Ha0 := Lib.hid hnew
          clear hnew
          replace Ha1 := Lib.hid hold1
          clear hold1
          have hne : ga0 ≠ ga1 := by omega
          refine alone 4 rfl (by kernel_rfl) (by rfl) ?_
          intro K hK
          go_simp
          refine (HM2.out _).mono ?_
          rintro e v51 ⟨rfl, hb⟩
          go_simp
          replace Ha0 := Lib.hid (Ha0.out.below hb Ha0.out.lt)
          replace Ha1 := Lib.hid (Ha1.out.below hb Ha1.out.lt)
          replace hS := below_trans hS hb
          refine hK.out _ _ hS ?_
          clear hK hb K
          try simp only [Act.put, List.setIfInBounds_toArray, List.set_cons_zero, List.set_cons_succ]
          refine alone 7 rfl (by kernel_rfl) (by rfl) ?_
          intro K hK
          refine wp_store_row 22 (.tmp 6) (.tmp 12) rfl ga0 (byteCells (byteAt p1) 32).toArray (by rfl) (by rfl) 22 _ Ha0.out (by rw [HZ.out]; kernel_rfl) (by rw [HZ.out, HZ.out]) (bytes_one _ _) ?_
          have hS2 := below_setRow hS hge0 (byteCells (byteAt p1) 32).toArray
          refine hK.out _ _ hS2 ?_
          clear hK K
          refine cut_any (fun X => Whole X ga0 22 (byteCells (byteAt p1) 32).toArray ∧ Whole X ga1 22 (byteCells (fun _ => 0) 32).toArray ∧ Below V.heap.size V X) ⟨setRow_heap _ _ _ _ _ _ Ha0.out, Whole.farRow Ha1.out (by omega) _, hS2⟩ ?_
          rintro v52 ⟨hnew, hold, hS3⟩
          clear hS hS2
          have hS := hS3
          clear hS3
          replace Ha0 := Lib.hid hnew
          replace Ha1 := Lib.hid hold
          clear hnew hold
          try simp only [Act.put]
          refine alone 8 rfl (by kernel_rfl) (by rfl) ?_
          intro K hK
          refine wp_store_row 22 (.tmp 7) (.tmp 14) rfl ga1 (byteCells (byteAt p2) 32).toArray (by rfl) (by rfl) 22 _ Ha1.out (by rw [HZ.out]; kernel_rfl) (by rw [HZ.out, HZ.out]) (bytes_one _ _) ?_
          have hS2 := below_setRow hS hge1 (byteCells (byteAt p2) 32).toArray
          refine hK.out _ _ hS2 ?_
          clear hK K
          refine cut_any (fun X => Whole X ga1 22 (byteCells (byteAt p2) 32).toArray ∧ Whole X ga0 22 (byteCells (byteAt p1) 32).toArray ∧ Below V.heap.size V X) ⟨setRow_heap _ _ _ _ _ _ Ha1.out, Whole.farRow Ha0.out (by omega) _, hS2⟩ ?_
          rintro v53 ⟨hnew, hold, hS3⟩
          clear hS hS2
          have hS := hS3
          clear hS3
          replace Ha1 := Lib.hid hnew
          replace Ha0 := Lib.hid hold
          clear hnew hold
          try simp only [Act.put]
          refine region_end (by kernel_rfl) ?_
          go_wp2_with fail
          go_meet
          exact ⟨ga0, ga1, rfl, rfl, hge0, hge1, Ha0.out, Ha1.out, hS⟩
      · intro K hK
        go_simp
        refine hK.out _ _ (hS.alloc hS.size _) ?_
        clear hK K
        try simp only [Act.put, List.setIfInBounds_toArray, List.set_cons_zero, List.set_cons_succ]
        refine cut_any (fun X => Whole X v44.heap.size 22 (byteCells (fun _ => 0) 32).toArray ∧ Below V.heap.size V X ∧ Whole X ga1 22 (byteCells (fun _ => 0) 32).toArray) ⟨Whole.new _ _ _, hS.alloc hS.size _, Ha1.out.alloc _⟩ ?_
        rintro v54 ⟨hnew, hS', hold1⟩
        have hlt1 : ga1 < v44.heap.size := Ha1.out.lt
        have hge0 : V.heap.size ≤ v44.heap.size := hS.size
        clear hS
        have hS := hS'
        clear hS'
        generalize v44.heap.size = ga0 at hnew hge0 hlt1 ⊢
        have Ha0 := Lib.hid hnew
        clear hnew
        replace Ha1 := Lib.hid hold1
        clear hold1
        have hne : ga0 ≠ ga1 := by omega
        refine alone 2 rfl (by kernel_rfl) (by rfl) ?_
        intro K hK
        go_simp
        refine (HM1.out _).mono ?_
        rintro e v55 ⟨rfl, hb⟩
        go_simp
        replace Ha0 := Lib.hid (Ha0.out.below hb Ha0.out.lt)
        replace Ha1 := Lib.hid (Ha1.out.below hb Ha1.out.lt)
        replace hS := below_trans hS hb
        refine hK.out _ _ hS ?_
        clear hK hb K
        try simp only [Act.put, List.setIfInBounds_toArray, List.set_cons_zero, List.set_cons_succ]
        refine alone 4 rfl (by kernel_rfl) (by rfl) ?_
        intro K hK
        go_simp
        refine (HM2.out _).mono ?_
        rintro e v56 ⟨rfl, hb⟩
        go_simp
        replace Ha0 := Lib.hid (Ha0.out.below hb Ha0.out.lt)
        replace Ha1 := Lib.hid (Ha1.out.below hb Ha1.out.lt)
        replace hS := below_trans hS hb
        refine hK.out _ _ hS ?_
        clear hK hb K
        try simp only [Act.put, List.setIfInBounds_toArray, List.set_cons_zero, List.set_cons_succ]
        refine alone 7 rfl (by kernel_rfl) (by rfl) ?_
        intro K hK
        refine wp_store_row 22 (.tmp 6) (.tmp 12) rfl ga0 (byteCells (byteAt p1) 32).toArray (by rfl) (by rfl) 22 _ Ha0.out (by rw [HZ.out]; kernel_rfl) (by rw [HZ.out, HZ.out]) (bytes_one _ _) ?_
        have hS2 := below_setRow hS hge0 (byteCells (byteAt p1) 32).toArray
        refine hK.out _ _ hS2 ?_
        clear hK K
        refine cut_any (fun X => Whole X ga0 22 (byteCells (byteAt p1) 32).toArray ∧ Whole X ga1 22 (byteCells (fun _ => 0) 32).toArray ∧ Below V.heap.size V X) ⟨setRow_heap _ _ _ _ _ _ Ha0.out, Whole.farRow Ha1.out (by omega) _, hS2⟩ ?_
        rintro v57 ⟨hnew, hold, hS3⟩
        clear hS hS2
        have hS := hS3
        clear hS3
        replace Ha0 := Lib.hid hnew
        replace Ha1 := Lib.hid hold
        clear hnew hold
        try simp only [Act.put]
        refine alone 8 rfl (by kernel_rfl) (by rfl) ?_
        intro K hK
        refine wp_store_row 22 (.tmp 7) (.tmp 14) rfl ga1 (byteCells (byteAt p2) 32).toArray (by rfl) (by rfl) 22 _ Ha1.out (by rw [HZ.out]; kernel_rfl) (by rw [HZ.out, HZ.out]) (bytes_one _ _) ?_
        have hS2 := below_setRow hS hge1 (byteCells (byteAt p2) 32).toArray
        refine hK.out _ _ hS2 ?_
        clear hK K
        refine cut_any (fun X => Whole X ga1 22 (byteCells (byteAt p2) 32).toArray ∧ Whole X ga0 22 (byteCells (byteAt p1) 32).toArray ∧ Below V.heap.size V X) ⟨setRow_heap _ _ _ _ _ _ Ha1.out, Whole.farRow Ha0.out (by omega) _, hS2⟩ ?_
        rintro v58 ⟨hnew, hold, hS3⟩
        clear hS hS2
        have hS := hS3
        clear hS3
        replace Ha1 := Lib.hid hnew
        replace Ha0 := Lib.hid hold
        clear hnew hold
        try simp only [Act.put]
        refine region_end (by kernel_rfl) ?_
        go_wp2_with fail
        go_meet
        exact ⟨ga0, ga1, rfl, rfl, hge0, hge1, Ha0.out, Ha1.out, hS⟩
  case rest =>
    obtain ⟨G3, G4, rfl, rfl, hG3, hG4, n3, n4, hS⟩ := hcut
    have RD1 := Lib.hid (Rd.of_whole n3)
    have RD2 := Lib.hid (Rd.of_whole n4)
    have RG := Lib.hid (Rd.of_whole (K2.out.below hS K2.out.lt))
    replace KB := Lib.hid (KB.out.trans (hS.mono (by omega)))
    replace N1 := Lib.hid (N1.out.below hS N1.out.lt)
    have hlc : B ≤ wc.heap.size := by have := hS.size; omega
    clear n3 n4 hS K1 K2
    go_wp2_with fail
    refine region_drew (fun x => Below wc.heap.size wc x) (by kernel_rfl) (Below.drew (Below.refl _ _)) ?_
    intro hS
    refine alone 0 rfl (by kernel_rfl) (by rfl) ?_
    intro K hK
    go_simp
    refine (alive_any _).mono ?_
    rintro e v1' ⟨rfl, hb⟩
    go_simp
    replace hS := below_trans hS hb
    refine hK.out _ _ hS ?_
    clear hK hb K
    try simp only [Act.put, List.setIfInBounds_toArray, List.set_cons_zero, List.set_cons_succ]
    refine take 1 _ rfl (by kernel_rfl) (by kernel_rfl) (by kernel_rfl) (fun _ _ _ h => h) (by rfl) hS (by intro w _; go_simp; with_reducible rfl) ?_
    try simp only [Act.put, List.setIfInBounds_toArray, List.set_cons_zero, List.set_cons_succ]
    refine take 2 _ rfl (by kernel_rfl) (by kernel_rfl) (by kernel_rfl) (fun _ _ _ h => h) (by rfl) hS (by intro w _; go_simp; with_reducible rfl) ?_
    try simp only [Act.put, List.setIfInBounds_toArray, List.set_cons_zero, List.set_cons_succ]
    refine take 3 _ rfl (by kernel_rfl) (by kernel_rfl) (by kernel_rfl) (fun _ _ _ h => h) (by rfl) hS (fun w hw => run_string_op 26 9 5 _ rfl rfl Try.underlying26 Try.underlying5 Try.underlying9 (RD1.out.below hw (Nat.le_refl _))) ?_
    try simp only [Act.put, List.setIfInBounds_toArray, List.set_cons_zero, List.set_cons_succ]
    refine take 4 _ rfl (by kernel_rfl) (by kernel_rfl) (by kernel_rfl) (fun _ _ _ h => h) (by rfl) hS (fun w hw => run_load_op 24 (.tmp 5) rfl (G1) rfl (N1.out.below hw N1.out.lt) rfl rfl (by rw [icells_size]; kernel_rfl)) ?_
    try simp only [Act.put, List.setIfInBounds_toArray, List.set_cons_zero, List.set_cons_succ]
    refine take 5 _ rfl (by kernel_rfl) (by kernel_rfl) (by kernel_rfl) (fun _ _ _ h => h) (by rfl) hS (by intro w _; go_simp; with_reducible rfl) ?_
    try simp only [Act.put, List.setIfInBounds_toArray, List.set_cons_zero, List.set_cons_succ]
    refine alone 6 rfl (by kernel_rfl) (by rfl) ?_
    intro K hK
    go_simp
    refine (HP1.out _ (RG.out.below hS (Nat.le_refl _))).mono ?_
    rintro e v2' ⟨m, hm1, hm2, rfl, hb⟩
    go_simp
    replace hS := below_trans hS hb
    refine hK.out _ _ hS ?_
    clear hK hb K
    try simp only [Act.put, List.setIfInBounds_toArray, List.set_cons_zero, List.set_cons_succ]
    have hmv := HQ1.out m hm2
    have HBM := Lib.hid (RefF.bytes_any m hm1)
    rw [hmv] at HBM
    clear hm1 hm2 hmv
    refine alone 7 rfl (by kernel_rfl) (by rfl) ?_
    intro K hK
    go_simp
    refine (HBM.out _).mono ?_
    rintro e v3' ⟨AC, cc, rfl, oc, hb⟩
    have OC := Lib.hid oc.rd
    clear oc
    go_simp
    replace hS := below_trans hS hb
    refine hK.out _ _ hS ?_
    clear hK hb K
    try simp only [Act.put, List.setIfInBounds_toArray, List.set_cons_zero, List.set_cons_succ]
    refine alone_run 8 _ rfl (by kernel_rfl) (by rfl) hS (run_string_op 26 9 5 _ rfl rfl Try.underlying26 Try.underlying5 Try.underlying9 (OC.out)) ?_
    try simp only [Act.put, List.setIfInBounds_toArray, List.set_cons_zero, List.set_cons_succ]
    refine take 9 _ rfl (by kernel_rfl) (by kernel_rfl) (by kernel_rfl) (fun _ _ _ h => h) (by rfl) hS (by intro w _; go_simp; with_reducible rfl) ?_
    try simp only [Act.put, List.setIfInBounds_toArray, List.set_cons_zero, List.set_cons_succ]
    refine take 10 _ rfl (by kernel_rfl) (by kernel_rfl) (by kernel_rfl) (fun _ _ _ h => h) (by rfl) hS (by intro w _; go_simp; with_reducible rfl) ?_
    try simp only [Act.put, List.setIfInBounds_toArray, List.set_cons_zero, List.set_cons_succ]
    refine take 11 _ rfl (by kernel_rfl) (by kernel_rfl) (by kernel_rfl) (fun _ _ _ h => h) (by rfl) hS (by intro w _; go_simp; with_reducible rfl) ?_
    try simp only [Act.put, List.setIfInBounds_toArray, List.set_cons_zero, List.set_cons_succ]
    refine take 12 _ rfl (by kernel_rfl) (by kernel_rfl) (by kernel_rfl) (fun _ _ _ h => h) (by rfl) hS (by intro w _; go_simp; with_reducible rfl) ?_
    try simp only [Act.put, List.setIfInBounds_toArray, List.set_cons_zero, List.set_cons_succ]
    refine take 13 _ rfl (by kernel_rfl) (by kernel_rfl) (by kernel_rfl) (fun _ _ _ h => h) (by rfl) hS (fun w hw => run_string_op 26 9 5 _ rfl rfl Try.underlying26 Try.underlying5 Try.underlying9 (RD2.out.below hw (Nat.le_refl _))) ?_
    try simp only [Act.put, List.setIfInBounds_toArray, List.set_cons_zero, List.set_cons_succ]
    refine take 14 _ rfl (by kernel_rfl) (by kernel_rfl) (by kernel_rfl) (fun _ _ _ h => h) (by rfl) hS (fun w hw => run_load_op 24 (.tmp 5) rfl (G1) rfl (N1.out.below hw N1.out.lt) rfl rfl (by rw [icells_size]; kernel_rfl)) ?_
    try simp only [Act.put, List.setIfInBounds_toArray, List.set_cons_zero, List.set_cons_succ]
    refine alone 15 rfl (by kernel_rfl) (by rfl) ?_
    intro K hK
    go_simp
    refine (HP2.out _).mono ?_
    rintro e v5' ⟨m2, hm1, hm2, rfl, hb⟩
    go_simp
    replace hS := below_trans hS hb
    refine hK.out _ _ hS ?_
    clear hK hb K
    try simp only [Act.put, List.setIfInBounds_toArray, List.set_cons_zero, List.set_cons_succ]
    have hmv := HQ2.out m2 hm2
    have HBM2 := Lib.hid (RefF.bytes_any m2 hm1)
    rw [hmv] at HBM2
    clear hm1 hm2 hmv
    refine alone 16 rfl (by kernel_rfl) (by rfl) ?_
    intro K hK
    go_simp
    refine (HBM2.out _).mono ?_
    rintro e v6' ⟨AC2, cc2, rfl, oc, hb⟩
    have OC2 := Lib.hid oc.rd
    clear oc
    go_simp
    replace hS := below_trans hS hb
    refine hK.out _ _ hS ?_
    clear hK hb K
    try simp only [Act.put, List.setIfInBounds_toArray, List.set_cons_zero, List.set_cons_succ]
    refine alone_run 17 _ rfl (by kernel_rfl) (by rfl) hS (run_string_op 26 9 5 _ rfl rfl Try.underlying26 Try.underlying5 Try.underlying9 (OC2.out)) ?_
    try simp only [Act.put, List.setIfInBounds_toArray, List.set_cons_zero, List.set_cons_succ]
    refine take 18 _ rfl (by kernel_rfl) (by kernel_rfl) (by kernel_rfl) (fun _ _ _ h => h) (by rfl) hS (by intro w _; go_simp; with_reducible rfl) ?_
    try simp only [Act.put, List.setIfInBounds_toArray, List.set_cons_zero, List.set_cons_succ]
    refine take 19 _ rfl (by kernel_rfl) (by kernel_rfl) (by kernel_rfl) (fun _ _ _ h => h) (by rfl) hS (by intro w _; go_simp; with_reducible rfl) ?_
    try simp only [Act.put, List.setIfInBounds_toArray, List.set_cons_zero, List.set_cons_succ]
    refine take 20 _ rfl (by kernel_rfl) (by kernel_rfl) (by kernel_rfl) (fun _ _ _ h => h) (by rfl) hS (by intro w _; go_simp; with_reducible rfl) ?_
    try simp only [Act.put, List.setIfInBounds_toArray, List.set_cons_zero, List.set_cons_succ]
    refine region_end (by kernel_rfl) ?_
    have HB9 := Lib.hid (KB.out.trans (hS.mono hlc))
    clear hS
    go_wp2_with fail
    go_ret
    exact ⟨rfl, by rw [hB]; exact HB9.out⟩

end FieldPowers
end Go.Proofs.Ytopocmibhffjfaa
