/- 'aditlaw03.PolySums' returns true at every input and writes nothing that was there: the walk. No condition. -/
import Derived.Test.YtdffbjlbhjppeaaRefSum
import Derived.Test.YtdffbjlbhjppeaaAliveThree
import Derived.Deep.DeepCutAuto
namespace Go.Proofs.Ytdffbjlbhjppeaa
namespace PolySums
open Go.ChangeShapes Go.WideShapes Go.ChangeAt Go.RowKit
open Num Mem Words PolyN Chacha Quiet Poly Ref

set_option maxRecDepth 100000 in
theorem big (key : Nat → Nat) (A : Option Addr) (n c : Nat) (h : 300 < n) (w : World) :
    Calls Try.prog 3 #[.agg (byteCells key 32).toArray, .slice A n c] w fun e w' => e = .returned (.bool true) ∧ Below w.heap.size w w' := by
  have hd : decide ((300 : Int) < (n : Int)) = true := decide_eq_true (by omega)
  rw [byteCells_lit32]
  go_enter Try.func3, Try.ntmps3
  go_wp2_with fail
  refine (alive_any _).mono ?_
  rintro e w1 ⟨rfl, hb1⟩
  have HB := Lib.hid (below_trans (below_alloc (Below.refl w.heap.size w) _) hb1)
  clear hb1
  go_wp2_with fail
  go_ret
  exact ⟨rfl, HB.out⟩

set_option maxRecDepth 100000 in
set_option maxHeartbeats 2000000 in
theorem fits (key : Nat → Nat) (hk : ∀ i, key i < 256) (A : Option Addr) (n c : Nat) (f : Nat → Nat) (hf : ∀ i, f i < 256) (h : n ≤ 300) (hc : n ≤ c) (hc2 : c ≤ 9223372036854775807) (w : World) (hA : Rd w A n f) :
    Calls Try.prog 3 #[.agg (byteCells key 32).toArray, .slice A n c] w fun e w' => e = .returned (.bool true) ∧ Below w.heap.size w w' := by
  have hd : decide ((300 : Int) < (n : Int)) = false := decide_eq_false (by omega)
  have HK := Lib.hid hk
  have HF := Lib.hid hf
  have HR := Lib.hid hA
  obtain ⟨D, hD⟩ : ∃ D, cl key = D := ⟨_, rfl⟩
  obtain ⟨S, hSe⟩ : ∃ S, sumAt key f n = S := ⟨_, rfl⟩
  have HDE := Lib.hid hD
  have HSE := Lib.hid hSe
  have HCL := Lib.hid (show ∀ x, Calls Try.prog 15 #[.agg (byteCells key 32).toArray] x fun e w' => e = .returned (.agg (byteCells D 16).toArray) ∧ Below x.heap.size x w' from fun x => by
    rw [← hD]
    exact clamp_any key hk x)
  have HSUM := Lib.hid (show ∀ x, Rd x A n f → Calls Try.prog 16 #[.agg (byteCells key 32).toArray, .slice A n c] x fun e w' => e = .returned (.agg (byteCells S 16).toArray) ∧ Below x.heap.size x w' from fun x hx => by
    rw [← hSe]
    exact sum_any key hk A n c f hf (by omega) hc x hx)
  clear hk hf hA hD hSe
  rw [byteCells_lit32]
  go_enter Try.func3, Try.ntmps3
  go_upto_region 3 with fail
  refine cut_world (fun W => Whole W w.heap.size 22 (byteCells key 32).toArray ∧ Below w.heap.size w W) ⟨?_, below_alloc (Below.refl _ _) _⟩ ?_
  · rw [byteCells_lit32]
    exact whole_new _ _ rfl
  rintro W ⟨k1, kb⟩
  have K1 := Lib.hid k1
  have KB := Lib.hid kb
  have hl1 := k1.lt
  clear k1 kb
  generalize hB : w.heap.size = B at K1 KB hl1 ⊢
  go_cut [5, 6] (fun s5 s6 wx => ∃ ga0 ga1 : Nat, s5 = .pointer (some ⟨ga0, 0, none⟩) ∧ s6 = .pointer (some ⟨ga1, 0, none⟩) ∧ W.heap.size ≤ ga0 ∧ W.heap.size ≤ ga1 ∧ Whole wx ga0 25 (byteCells D 16).toArray ∧ Whole wx ga1 25 (byteCells S 16).toArray ∧ Below W.heap.size W wx)
  case first =>
    refine region_start (fun w' => Below W.heap.size W w') (by kernel_rfl) (below_drewN (Below.refl _ _) 1) ?_
    intro w3 hS
    refine take 0 _ rfl (by kernel_rfl) (by kernel_rfl) (by kernel_rfl) (fun _ _ _ h => h) (by rfl) hS (fun w hw => run_load_op 22 (.tmp 2) rfl (B) rfl (K1.out.below hw K1.out.lt) rfl rfl (by kernel_rfl)) ?_
    try simp only [Act.put, List.setIfInBounds_toArray, List.set_cons_zero, List.set_cons_succ]
    refine take 2 _ rfl (by kernel_rfl) (by kernel_rfl) (by kernel_rfl) (fun _ _ _ h => h) (by rfl) hS (fun w hw => run_load_op 22 (.tmp 2) rfl (B) rfl (K1.out.below hw K1.out.lt) rfl rfl (by kernel_rfl)) ?_
    try simp only [Act.put, List.setIfInBounds_toArray, List.set_cons_zero, List.set_cons_succ]
    refine take 3 _ rfl (by kernel_rfl) (by kernel_rfl) (by kernel_rfl) (fun _ _ _ h => h) (by rfl) hS (by intro w _; go_simp; with_reducible rfl) ?_
    try simp only [Act.put, List.setIfInBounds_toArray, List.set_cons_zero, List.set_cons_succ]
    refine ready_three 1 5 6 rfl rfl rfl (by kernel_rfl) (by rfl) (by rfl) (by rfl) ?_ ?_ ?_
    · intro K hK
      go_simp
      refine (HCL.out _).mono ?_
      rintro e v1 ⟨rfl, hb⟩
      go_simp
      replace hS := below_trans hS hb
      refine hK.out _ _ hS ?_
      clear hK hb K
      try simp only [Act.put, List.setIfInBounds_toArray, List.set_cons_zero, List.set_cons_succ]
      refine ready_three 4 5 6 rfl rfl rfl (by kernel_rfl) (by rfl) (by rfl) (by rfl) ?_ ?_ ?_
      · intro K hK
        go_simp
        refine (HSUM.out _ (HR.out.below (KB.out.trans (hS.mono (by omega))) (by omega))).mono ?_
        rintro e v2 ⟨rfl, hb⟩
        go_simp
        replace hS := below_trans hS hb
        refine hK.out _ _ hS ?_
        clear hK hb K
        try simp only [Act.put, List.setIfInBounds_toArray, List.set_cons_zero, List.set_cons_succ]
        refine ready_two 5 6 rfl rfl (by kernel_rfl) (by rfl) (by rfl) ?_ ?_
        · intro K hK
          go_simp
          refine hK.out _ _ (hS.alloc hS.size _) ?_
          clear hK K
          try simp only [Act.put, List.setIfInBounds_toArray, List.set_cons_zero, List.set_cons_succ]
          refine cut_any (fun X => Whole X v2.heap.size 25 (byteCells (fun _ => 0) 16).toArray ∧ Below W.heap.size W X) ⟨Whole.new _ _ _, hS.alloc hS.size _⟩ ?_
          rintro v3 ⟨hnew, hS'⟩
          have hge0 : W.heap.size ≤ v2.heap.size := hS.size
          clear hS
          have hS := hS'
          clear hS'
          generalize v2.heap.size = ga0 at hnew hge0 ⊢
          have Ha0 := Lib.hid hnew
          clear hnew
          refine alone 6 rfl (by kernel_rfl) (by rfl) ?_
          intro K hK
          go_simp
          refine hK.out _ _ (hS.alloc hS.size _) ?_
          clear hK K
          try simp only [Act.put, List.setIfInBounds_toArray, List.set_cons_zero, List.set_cons_succ]
          refine cut_any (fun X => Whole X v3.heap.size 25 (byteCells (fun _ => 0) 16).toArray ∧ Below W.heap.size W X ∧ Whole X ga0 25 (byteCells (fun _ => 0) 16).toArray) ⟨Whole.new _ _ _, hS.alloc hS.size _, Ha0.out.alloc _⟩ ?_
          rintro v4 ⟨hnew, hS', hold0⟩
          have hlt0 : ga0 < v3.heap.size := Ha0.out.lt
          have hge1 : W.heap.size ≤ v3.heap.size := hS.size
          clear hS
          have hS := hS'
          clear hS'
          generalize v3.heap.size = ga1 at hnew hge1 hlt0 ⊢
          have Ha1 := Lib.hid hnew
          clear hnew
          replace Ha0 := Lib.hid hold0
          clear hold0
          have hne : ga0 ≠ ga1 := by omega
          refine alone 7 rfl (by kernel_rfl) (by rfl) ?_
          intro K hK
          refine wp_store_row 25 (.tmp 5) (.tmp 12) rfl ga0 (byteCells (D) 16).toArray (by rfl) (by rfl) 25 _ Ha0.out (by rw [List.size_toArray, byteCells_length]; kernel_rfl) (by rw [List.size_toArray, List.size_toArray, byteCells_length, byteCells_length]) (bytes_one _ _) ?_
          have hS2 := below_setRow hS hge0 (byteCells (D) 16).toArray
          refine hK.out _ _ hS2 ?_
          clear hK K
          refine cut_any (fun X => Whole X ga0 25 (byteCells (D) 16).toArray ∧ Whole X ga1 25 (byteCells (fun _ => 0) 16).toArray ∧ Below W.heap.size W X) ⟨setRow_heap _ _ _ _ _ _ Ha0.out, Whole.farRow Ha1.out (by omega) _, hS2⟩ ?_
          rintro v5 ⟨hnew, hold, hS3⟩
          clear hS hS2
          have hS := hS3
          clear hS3
          replace Ha0 := Lib.hid hnew
          replace Ha1 := Lib.hid hold
          clear hnew hold
          try simp only [Act.put]
          refine alone 8 rfl (by kernel_rfl) (by rfl) ?_
          intro K hK
          refine wp_store_row 25 (.tmp 6) (.tmp 15) rfl ga1 (byteCells (S) 16).toArray (by rfl) (by rfl) 25 _ Ha1.out (by rw [List.size_toArray, byteCells_length]; kernel_rfl) (by rw [List.size_toArray, List.size_toArray, byteCells_length, byteCells_length]) (bytes_one _ _) ?_
          have hS2 := below_setRow hS hge1 (byteCells (S) 16).toArray
          refine hK.out _ _ hS2 ?_
          clear hK K
          refine cut_any (fun X => Whole X ga1 25 (byteCells (S) 16).toArray ∧ Whole X ga0 25 (byteCells (D) 16).toArray ∧ Below W.heap.size W X) ⟨setRow_heap _ _ _ _ _ _ Ha1.out, Whole.farRow Ha0.out (by omega) _, hS2⟩ ?_
          rintro v6 ⟨hnew, hold, hS3⟩
          clear hS hS2
          have hS := hS3
          clear hS3
          replace Ha1 := Lib.hid hnew
          replace Ha0 := Lib.hid hold
          clear hnew hold
          try simp only [Act.put]
          refine region_end (by kernel_rfl) ?_
          go_wp2_with fail
          go_meet
          exact ⟨ga0, ga1, rfl, rfl, hge0, hge1, Ha0.out, Ha1.out, hS⟩
        · intro K hK
          go_simp
          refine hK.out _ _ (hS.alloc hS.size _) ?_
          clear hK K
          try simp only [Act.put, List.setIfInBounds_toArray, List.set_cons_zero, List.set_cons_succ]
          refine cut_any (fun X => Whole X v2.heap.size 25 (byteCells (fun _ => 0) 16).toArray ∧ Below W.heap.size W X) ⟨Whole.new _ _ _, hS.alloc hS.size _⟩ ?_
          rintro v7 ⟨hnew, hS'⟩
          have hge1 : W.heap.size ≤ v2.heap.size := hS.size
          clear hS
          have hS := hS'
          clear hS'
          generalize v2.heap.size = ga1 at hnew hge1 ⊢
          have Ha1 := Lib.hid hnew
          clear hnew
          refine alone 5 rfl (by kernel_rfl) (by rfl) ?_
          intro K hK
          go_simp
          refine hK.out _ _ (hS.alloc hS.size _) ?_
          clear hK K
          try simp only [Act.put, List.setIfInBounds_toArray, List.set_cons_zero, List.set_cons_succ]
          refine cut_any (fun X => Whole X v7.heap.size 25 (byteCells (fun _ => 0) 16).toArray ∧ Below W.heap.size W X ∧ Whole X ga1 25 (byteCells (fun _ => 0) 16).toArray) ⟨Whole.new _ _ _, hS.alloc hS.size _, Ha1.out.alloc _⟩ ?_
          rintro v8 ⟨hnew, hS', hold1⟩
          have hlt1 : ga1 < v7.heap.size := Ha1.out.lt
          have hge0 : W.heap.size ≤ v7.heap.size := hS.size
          clear hS
          have hS := hS'
          clear hS'
          generalize v7.heap.size = ga0 at hnew hge0 hlt1 ⊢
          have Ha0 := Lib.hid hnew
          clear hnew
          replace Ha1 := Lib.hid hold1
          clear hold1
          have hne : ga0 ≠ ga1 := by omega
          refine alone 7 rfl (by kernel_rfl) (by rfl) ?_
          intro K hK
          refine wp_store_row 25 (.tmp 5) (.tmp 12) rfl ga0 (byteCells (D) 16).toArray (by rfl) (by rfl) 25 _ Ha0.out (by rw [List.size_toArray, byteCells_length]; kernel_rfl) (by rw [List.size_toArray, List.size_toArray, byteCells_length, byteCells_length]) (bytes_one _ _) ?_
          have hS2 := below_setRow hS hge0 (byteCells (D) 16).toArray
          refine hK.out _ _ hS2 ?_
          clear hK K
          refine cut_any (fun X => Whole X ga0 25 (byteCells (D) 16).toArray ∧ Whole X ga1 25 (byteCells (fun _ => 0) 16).toArray ∧ Below W.heap.size W X) ⟨setRow_heap _ _ _ _ _ _ Ha0.out, Whole.farRow Ha1.out (by omega) _, hS2⟩ ?_
          rintro v9 ⟨hnew, hold, hS3⟩
          clear hS hS2
          have hS := hS3
          clear hS3
          replace Ha0 := Lib.hid hnew
          replace Ha1 := Lib.hid hold
          clear hnew hold
          try simp only [Act.put]
          refine alone 8 rfl (by kernel_rfl) (by rfl) ?_
          intro K hK
          refine wp_store_row 25 (.tmp 6) (.tmp 15) rfl ga1 (byteCells (S) 16).toArray (by rfl) (by rfl) 25 _ Ha1.out (by rw [List.size_toArray, byteCells_length]; kernel_rfl) (by rw [List.size_toArray, List.size_toArray, byteCells_length, byteCells_length]) (bytes_one _ _) ?_
          have hS2 := below_setRow hS hge1 (byteCells (S) 16).toArray
          refine hK.out _ _ hS2 ?_
          clear hK K
          refine cut_any (fun X => Whole X ga1 25 (byteCells (S) 16).toArray ∧ Whole X ga0 25 (byteCells (D) 16).toArray ∧ Below W.heap.size W X) ⟨setRow_heap _ _ _ _ _ _ Ha1.out, Whole.farRow Ha0.out (by omega) _, hS2⟩ ?_
          rintro v10 ⟨hnew, hold, hS3⟩
          clear hS hS2
          have hS := hS3
          clear hS3
          replace Ha1 := Lib.hid hnew
          replace Ha0 := Lib.hid hold
          clear hnew hold
          try simp only [Act.put]
          refine region_end (by kernel_rfl) ?_
          go_wp2_with fail
          go_meet
          exact ⟨ga0, ga1, rfl, rfl, hge0, hge1, Ha0.out, Ha1.out, hS⟩
      · intro K hK
        go_simp
        refine hK.out _ _ (hS.alloc hS.size _) ?_
        clear hK K
        try simp only [Act.put, List.setIfInBounds_toArray, List.set_cons_zero, List.set_cons_succ]
        refine cut_any (fun X => Whole X v1.heap.size 25 (byteCells (fun _ => 0) 16).toArray ∧ Below W.heap.size W X) ⟨Whole.new _ _ _, hS.alloc hS.size _⟩ ?_
        rintro v11 ⟨hnew, hS'⟩
        have hge0 : W.heap.size ≤ v1.heap.size := hS.size
        clear hS
        have hS := hS'
        clear hS'
        generalize v1.heap.size = ga0 at hnew hge0 ⊢
        have Ha0 := Lib.hid hnew
        clear hnew
        refine ready_two 4 6 rfl rfl (by kernel_rfl) (by rfl) (by rfl) ?_ ?_
        · intro K hK
          go_simp
          refine (HSUM.out _ (HR.out.below (KB.out.trans (hS.mono (by omega))) (by omega))).mono ?_
          rintro e v12 ⟨rfl, hb⟩
          go_simp
          replace Ha0 := Lib.hid (Ha0.out.below hb Ha0.out.lt)
          replace hS := below_trans hS hb
          refine hK.out _ _ hS ?_
          clear hK hb K
          try simp only [Act.put, List.setIfInBounds_toArray, List.set_cons_zero, List.set_cons_succ]
          refine alone 6 rfl (by kernel_rfl) (by rfl) ?_
          intro K hK
          go_simp
          refine hK.out _ _ (hS.alloc hS.size _) ?_
          clear hK K
          try simp only [Act.put, List.setIfInBounds_toArray, List.set_cons_zero, List.set_cons_succ]
          refine cut_any (fun X => Whole X v12.heap.size 25 (byteCells (fun _ => 0) 16).toArray ∧ Below W.heap.size W X ∧ Whole X ga0 25 (byteCells (fun _ => 0) 16).toArray) ⟨Whole.new _ _ _, hS.alloc hS.size _, Ha0.out.alloc _⟩ ?_
          rintro v13 ⟨hnew, hS', hold0⟩
          have hlt0 : ga0 < v12.heap.size := Ha0.out.lt
          have hge1 : W.heap.size ≤ v12.heap.size := hS.size
          clear hS
          have hS := hS'
          clear hS'
          generalize v12.heap.size = ga1 at hnew hge1 hlt0 ⊢
          have Ha1 := Lib.hid hnew
          clear hnew
          replace Ha0 := Lib.hid hold0
          clear hold0
          have hne : ga0 ≠ ga1 := by omega
          refine alone 7 rfl (by kernel_rfl) (by rfl) ?_
          intro K hK
          refine wp_store_row 25 (.tmp 5) (.tmp 12) rfl ga0 (byteCells (D) 16).toArray (by rfl) (by rfl) 25 _ Ha0.out (by rw [List.size_toArray, byteCells_length]; kernel_rfl) (by rw [List.size_toArray, List.size_toArray, byteCells_length, byteCells_length]) (bytes_one _ _) ?_
          have hS2 := below_setRow hS hge0 (byteCells (D) 16).toArray
          refine hK.out _ _ hS2 ?_
          clear hK K
          refine cut_any (fun X => Whole X ga0 25 (byteCells (D) 16).toArray ∧ Whole X ga1 25 (byteCells (fun _ => 0) 16).toArray ∧ Below W.heap.size W X) ⟨setRow_heap _ _ _ _ _ _ Ha0.out, Whole.farRow Ha1.out (by omega) _, hS2⟩ ?_
          rintro v14 ⟨hnew, hold, hS3⟩
          clear hS hS2
          have hS := hS3
          clear hS3
          replace Ha0 := Lib.hid hnew
          replace Ha1 := Lib.hid hold
          clear hnew hold
          try simp only [Act.put]
          refine alone 8 rfl (by kernel_rfl) (by rfl) ?_
          intro K hK
          refine wp_store_row 25 (.tmp 6) (.tmp 15) rfl ga1 (byteCells (S) 16).toArray (by rfl) (by rfl) 25 _ Ha1.out (by rw [List.size_toArray, byteCells_length]; kernel_rfl) (by rw [List.size_toArray, List.size_toArray, byteCells_length, byteCells_length]) (bytes_one _ _) ?_
          have hS2 := below_setRow hS hge1 (byteCells (S) 16).toArray
          refine hK.out _ _ hS2 ?_
          clear hK K
          refine cut_any (fun X => Whole X ga1 25 (byteCells (S) 16).toArray ∧ Whole X ga0 25 (byteCells (D) 16).toArray ∧ Below W.heap.size W X) ⟨setRow_heap _ _ _ _ _ _ Ha1.out, Whole.farRow Ha0.out (by omega) _, hS2⟩ ?_
          rintro v15 ⟨hnew, hold, hS3⟩
          clear hS hS2
          have hS := hS3
          clear hS3
          replace Ha1 := Lib.hid hnew
          replace Ha0 := Lib.hid hold
          clear hnew hold
          try simp only [Act.put]
          refine region_end (by kernel_rfl) ?_
          go_wp2_with fail
          go_meet
          exact ⟨ga0, ga1, rfl, rfl, hge0, hge1, Ha0.out, Ha1.out, hS⟩
        · intro K hK
          go_simp
          refine hK.out _ _ (hS.alloc hS.size _) ?_
          clear hK K
          try simp only [Act.put, List.setIfInBounds_toArray, List.set_cons_zero, List.set_cons_succ]
          refine cut_any (fun X => Whole X v11.heap.size 25 (byteCells (fun _ => 0) 16).toArray ∧ Below W.heap.size W X ∧ Whole X ga0 25 (byteCells (fun _ => 0) 16).toArray) ⟨Whole.new _ _ _, hS.alloc hS.size _, Ha0.out.alloc _⟩ ?_
          rintro v16 ⟨hnew, hS', hold0⟩
          have hlt0 : ga0 < v11.heap.size := Ha0.out.lt
          have hge1 : W.heap.size ≤ v11.heap.size := hS.size
          clear hS
          have hS := hS'
          clear hS'
          generalize v11.heap.size = ga1 at hnew hge1 hlt0 ⊢
          have Ha1 := Lib.hid hnew
          clear hnew
          replace Ha0 := Lib.hid hold0
          clear hold0
          have hne : ga0 ≠ ga1 := by omega
          refine alone 4 rfl (by kernel_rfl) (by rfl) ?_
          intro K hK
          go_simp
          refine (HSUM.out _ (HR.out.below (KB.out.trans (hS.mono (by omega))) (by omega))).mono ?_
          rintro e v17 ⟨rfl, hb⟩
          go_simp
          replace Ha0 := Lib.hid (Ha0.out.below hb Ha0.out.lt)
          replace Ha1 := Lib.hid (Ha1.out.below hb Ha1.out.lt)
          replace hS := below_trans hS hb
          refine hK.out _ _ hS ?_
          clear hK hb K
          try simp only [Act.put, List.setIfInBounds_toArray, List.set_cons_zero, List.set_cons_succ]
          refine alone 7 rfl (by kernel_rfl) (by rfl) ?_
          intro K hK
          refine wp_store_row 25 (.tmp 5) (.tmp 12) rfl ga0 (byteCells (D) 16).toArray (by rfl) (by rfl) 25 _ Ha0.out (by rw [List.size_toArray, byteCells_length]; kernel_rfl) (by rw [List.size_toArray, List.size_toArray, byteCells_length, byteCells_length]) (bytes_one _ _) ?_
          have hS2 := below_setRow hS hge0 (byteCells (D) 16).toArray
          refine hK.out _ _ hS2 ?_
          clear hK K
          refine cut_any (fun X => Whole X ga0 25 (byteCells (D) 16).toArray ∧ Whole X ga1 25 (byteCells (fun _ => 0) 16).toArray ∧ Below W.heap.size W X) ⟨setRow_heap _ _ _ _ _ _ Ha0.out, Whole.farRow Ha1.out (by omega) _, hS2⟩ ?_
          rintro v18 ⟨hnew, hold, hS3⟩
          clear hS hS2
          have hS := hS3
          clear hS3
          replace Ha0 := Lib.hid hnew
          replace Ha1 := Lib.hid hold
          clear hnew hold
          try simp only [Act.put]
          refine alone 8 rfl (by kernel_rfl) (by rfl) ?_
          intro K hK
          refine wp_store_row 25 (.tmp 6) (.tmp 15) rfl ga1 (byteCells (S) 16).toArray (by rfl) (by rfl) 25 _ Ha1.out (by rw [List.size_toArray, byteCells_length]; kernel_rfl) (by rw [List.size_toArray, List.size_toArray, byteCells_length, byteCells_length]) (bytes_one _ _) ?_
          have hS2 := below_setRow hS hge1 (byteCells (S) 16).toArray
          refine hK.out _ _ hS2 ?_
          clear hK K
          refine cut_any (fun X => Whole X ga1 25 (byteCells (S) 16).toArray ∧ Whole X ga0 25 (byteCells (D) 16).toArray ∧ Below W.heap.size W X) ⟨setRow_heap _ _ _ _ _ _ Ha1.out, Whole.farRow Ha0.out (by omega) _, hS2⟩ ?_
          rintro v19 ⟨hnew, hold, hS3⟩
          clear hS hS2
          have hS := hS3
          clear hS3
          replace Ha1 := Lib.hid hnew
          replace Ha0 := Lib.hid hold
          clear hnew hold
          try simp only [Act.put]
          refine region_end (by kernel_rfl) ?_
          go_wp2_with fail
          go_meet
          exact ⟨ga0, ga1, rfl, rfl, hge0, hge1, Ha0.out, Ha1.out, hS⟩
      · intro K hK
        go_simp
        refine hK.out _ _ (hS.alloc hS.size _) ?_
        clear hK K
        try simp only [Act.put, List.setIfInBounds_toArray, List.set_cons_zero, List.set_cons_succ]
        refine cut_any (fun X => Whole X v1.heap.size 25 (byteCells (fun _ => 0) 16).toArray ∧ Below W.heap.size W X) ⟨Whole.new _ _ _, hS.alloc hS.size _⟩ ?_
        rintro v20 ⟨hnew, hS'⟩
        have hge1 : W.heap.size ≤ v1.heap.size := hS.size
        clear hS
        have hS := hS'
        clear hS'
        generalize v1.heap.size = ga1 at hnew hge1 ⊢
        have Ha1 := Lib.hid hnew
        clear hnew
        refine ready_two 4 5 rfl rfl (by kernel_rfl) (by rfl) (by rfl) ?_ ?_
        · intro K hK
          go_simp
          refine (HSUM.out _ (HR.out.below (KB.out.trans (hS.mono (by omega))) (by omega))).mono ?_
          rintro e v21 ⟨rfl, hb⟩
          go_simp
          replace Ha1 := Lib.hid (Ha1.out.below hb Ha1.out.lt)
          replace hS := below_trans hS hb
          refine hK.out _ _ hS ?_
          clear hK hb K
          try simp only [Act.put, List.setIfInBounds_toArray, List.set_cons_zero, List.set_cons_succ]
          refine alone 5 rfl (by kernel_rfl) (by rfl) ?_
          intro K hK
          go_simp
          refine hK.out _ _ (hS.alloc hS.size _) ?_
          clear hK K
          try simp only [Act.put, List.setIfInBounds_toArray, List.set_cons_zero, List.set_cons_succ]
          refine cut_any (fun X => Whole X v21.heap.size 25 (byteCells (fun _ => 0) 16).toArray ∧ Below W.heap.size W X ∧ Whole X ga1 25 (byteCells (fun _ => 0) 16).toArray) ⟨Whole.new _ _ _, hS.alloc hS.size _, Ha1.out.alloc _⟩ ?_
          rintro v22 ⟨hnew, hS', hold1⟩
          have hlt1 : ga1 < v21.heap.size := Ha1.out.lt
          have hge0 : W.heap.size ≤ v21.heap.size := hS.size
          clear hS
          have hS := hS'
          clear hS'
          generalize v21.heap.size = ga0 at hnew hge0 hlt1 ⊢
          have Ha0 := Lib.hid hnew
          clear hnew
          replace Ha1 := Lib.hid hold1
          clear hold1
          have hne : ga0 ≠ ga1 := by omega
          refine alone 7 rfl (by kernel_rfl) (by rfl) ?_
          intro K hK
          refine wp_store_row 25 (.tmp 5) (.tmp 12) rfl ga0 (byteCells (D) 16).toArray (by rfl) (by rfl) 25 _ Ha0.out (by rw [List.size_toArray, byteCells_length]; kernel_rfl) (by rw [List.size_toArray, List.size_toArray, byteCells_length, byteCells_length]) (bytes_one _ _) ?_
          have hS2 := below_setRow hS hge0 (byteCells (D) 16).toArray
          refine hK.out _ _ hS2 ?_
          clear hK K
          refine cut_any (fun X => Whole X ga0 25 (byteCells (D) 16).toArray ∧ Whole X ga1 25 (byteCells (fun _ => 0) 16).toArray ∧ Below W.heap.size W X) ⟨setRow_heap _ _ _ _ _ _ Ha0.out, Whole.farRow Ha1.out (by omega) _, hS2⟩ ?_
          rintro v23 ⟨hnew, hold, hS3⟩
          clear hS hS2
          have hS := hS3
          clear hS3
          replace Ha0 := Lib.hid hnew
          replace Ha1 := Lib.hid hold
          clear hnew hold
          try simp only [Act.put]
          refine alone 8 rfl (by kernel_rfl) (by rfl) ?_
          intro K hK
          refine wp_store_row 25 (.tmp 6) (.tmp 15) rfl ga1 (byteCells (S) 16).toArray (by rfl) (by rfl) 25 _ Ha1.out (by rw [List.size_toArray, byteCells_length]; kernel_rfl) (by rw [List.size_toArray, List.size_toArray, byteCells_length, byteCells_length]) (bytes_one _ _) ?_
          have hS2 := below_setRow hS hge1 (byteCells (S) 16).toArray
          refine hK.out _ _ hS2 ?_
          clear hK K
          refine cut_any (fun X => Whole X ga1 25 (byteCells (S) 16).toArray ∧ Whole X ga0 25 (byteCells (D) 16).toArray ∧ Below W.heap.size W X) ⟨setRow_heap _ _ _ _ _ _ Ha1.out, Whole.farRow Ha0.out (by omega) _, hS2⟩ ?_
          rintro v24 ⟨hnew, hold, hS3⟩
          clear hS hS2
          have hS := hS3
          clear hS3
          replace Ha1 := Lib.hid hnew
          replace Ha0 := Lib.hid hold
          clear hnew hold
          try simp only [Act.put]
          refine region_end (by kernel_rfl) ?_
          go_wp2_with fail
          go_meet
          exact ⟨ga0, ga1, rfl, rfl, hge0, hge1, Ha0.out, Ha1.out, hS⟩
        · intro K hK
          go_simp
          refine hK.out _ _ (hS.alloc hS.size _) ?_
          clear hK K
          try simp only [Act.put, List.setIfInBounds_toArray, List.set_cons_zero, List.set_cons_succ]
          refine cut_any (fun X => Whole X v20.heap.size 25 (byteCells (fun _ => 0) 16).toArray ∧ Below W.heap.size W X ∧ Whole X ga1 25 (byteCells (fun _ => 0) 16).toArray) ⟨Whole.new _ _ _, hS.alloc hS.size _, Ha1.out.alloc _⟩ ?_
          rintro v25 ⟨hnew, hS', hold1⟩
          have hlt1 : ga1 < v20.heap.size := Ha1.out.lt
          have hge0 : W.heap.size ≤ v20.heap.size := hS.size
          clear hS
          have hS := hS'
          clear hS'
          generalize v20.heap.size = ga0 at hnew hge0 hlt1 ⊢
          have Ha0 := Lib.hid hnew
          clear hnew
          replace Ha1 := Lib.hid hold1
          clear hold1
          have hne : ga0 ≠ ga1 := by omega
          refine alone 4 rfl (by kernel_rfl) (by rfl) ?_
          intro K hK
          go_simp
          refine (HSUM.out _ (HR.out.below (KB.out.trans (hS.mono (by omega))) (by omega))).mono ?_
          rintro e v26 ⟨rfl, hb⟩
          go_simp
          replace Ha0 := Lib.hid (Ha0.out.below hb Ha0.out.lt)
          replace Ha1 := Lib.hid (Ha1.out.below hb Ha1.out.lt)
          replace hS := below_trans hS hb
          refine hK.out _ _ hS ?_
          clear hK hb K
          try simp only [Act.put, List.setIfInBounds_toArray, List.set_cons_zero, List.set_cons_succ]
          refine alone 7 rfl (by kernel_rfl) (by rfl) ?_
          intro K hK
          refine wp_store_row 25 (.tmp 5) (.tmp 12) rfl ga0 (byteCells (D) 16).toArray (by rfl) (by rfl) 25 _ Ha0.out (by rw [List.size_toArray, byteCells_length]; kernel_rfl) (by rw [List.size_toArray, List.size_toArray, byteCells_length, byteCells_length]) (bytes_one _ _) ?_
          have hS2 := below_setRow hS hge0 (byteCells (D) 16).toArray
          refine hK.out _ _ hS2 ?_
          clear hK K
          refine cut_any (fun X => Whole X ga0 25 (byteCells (D) 16).toArray ∧ Whole X ga1 25 (byteCells (fun _ => 0) 16).toArray ∧ Below W.heap.size W X) ⟨setRow_heap _ _ _ _ _ _ Ha0.out, Whole.farRow Ha1.out (by omega) _, hS2⟩ ?_
          rintro v27 ⟨hnew, hold, hS3⟩
          clear hS hS2
          have hS := hS3
          clear hS3
          replace Ha0 := Lib.hid hnew
          replace Ha1 := Lib.hid hold
          clear hnew hold
          try simp only [Act.put]
          refine alone 8 rfl (by kernel_rfl) (by rfl) ?_
          intro K hK
          refine wp_store_row 25 (.tmp 6) (.tmp 15) rfl ga1 (byteCells (S) 16).toArray (by rfl) (by rfl) 25 _ Ha1.out (by rw [List.size_toArray, byteCells_length]; kernel_rfl) (by rw [List.size_toArray, List.size_toArray, byteCells_length, byteCells_length]) (bytes_one _ _) ?_
          have hS2 := below_setRow hS hge1 (byteCells (S) 16).toArray
          refine hK.out _ _ hS2 ?_
          clear hK K
          refine cut_any (fun X => Whole X ga1 25 (byteCells (S) 16).toArray ∧ Whole X ga0 25 (byteCells (D) 16).toArray ∧ Below W.heap.size W X) ⟨setRow_heap _ _ _ _ _ _ Ha1.out, Whole.farRow Ha0.out (by omega) _, hS2⟩ ?_
          rintro v28 ⟨hnew, hold, hS3⟩
          clear hS hS2
          have hS := hS3
          clear hS3
          replace Ha1 := Lib.hid hnew
          replace Ha0 := Lib.hid hold
          clear hnew hold
          try simp only [Act.put]
          refine region_end (by kernel_rfl) ?_
          go_wp2_with fail
          go_meet
          exact ⟨ga0, ga1, rfl, rfl, hge0, hge1, Ha0.out, Ha1.out, hS⟩
    · intro K hK
      go_simp
      refine hK.out _ _ (hS.alloc hS.size _) ?_
      clear hK K
      try simp only [Act.put, List.setIfInBounds_toArray, List.set_cons_zero, List.set_cons_succ]
      refine cut_any (fun X => Whole X w3.heap.size 25 (byteCells (fun _ => 0) 16).toArray ∧ Below W.heap.size W X) ⟨Whole.new _ _ _, hS.alloc hS.size _⟩ ?_
      rintro v29 ⟨hnew, hS'⟩
      have hge0 : W.heap.size ≤ w3.heap.size := hS.size
      clear hS
      have hS := hS'
      clear hS'
      generalize w3.heap.size = ga0 at hnew hge0 ⊢
      have Ha0 := Lib.hid hnew
      clear hnew
      refine ready_two 1 6 rfl rfl (by kernel_rfl) (by rfl) (by rfl) ?_ ?_
      · intro K hK
        go_simp
        refine (HCL.out _).mono ?_
        rintro e v30 ⟨rfl, hb⟩
        go_simp
        replace Ha0 := Lib.hid (Ha0.out.below hb Ha0.out.lt)
        replace hS := below_trans hS hb
        refine hK.out _ _ hS ?_
        clear hK hb K
        try simp only [Act.put, List.setIfInBounds_toArray, List.set_cons_zero, List.set_cons_succ]
        refine ready_two 4 6 rfl rfl (by kernel_rfl) (by rfl) (by rfl) ?_ ?_
        · intro K hK
          go_simp
          refine (HSUM.out _ (HR.out.below (KB.out.trans (hS.mono (by omega))) (by omega))).mono ?_
          rintro e v31 ⟨rfl, hb⟩
          go_simp
          replace Ha0 := Lib.hid (Ha0.out.below hb Ha0.out.lt)
          replace hS := below_trans hS hb
          refine hK.out _ _ hS ?_
          clear hK hb K
          try simp only [Act.put, List.setIfInBounds_toArray, List.set_cons_zero, List.set_cons_succ]
          refine alone 6 rfl (by kernel_rfl) (by rfl) ?_
          intro K hK
          go_simp
          refine hK.out _ _ (hS.alloc hS.size _) ?_
          clear hK K
          try simp only [Act.put, List.setIfInBounds_toArray, List.set_cons_zero, List.set_cons_succ]
          refine cut_any (fun X => Whole X v31.heap.size 25 (byteCells (fun _ => 0) 16).toArray ∧ Below W.heap.size W X ∧ Whole X ga0 25 (byteCells (fun _ => 0) 16).toArray) ⟨Whole.new _ _ _, hS.alloc hS.size _, Ha0.out.alloc _⟩ ?_
          rintro v32 ⟨hnew, hS', hold0⟩
          have hlt0 : ga0 < v31.heap.size := Ha0.out.lt
          have hge1 : W.heap.size ≤ v31.heap.size := hS.size
          clear hS
          have hS := hS'
          clear hS'
          generalize v31.heap.size = ga1 at hnew hge1 hlt0 ⊢
          have Ha1 := Lib.hid hnew
          clear hnew
          replace Ha0 := Lib.hid hold0
          clear hold0
          have hne : ga0 ≠ ga1 := by omega
          refine alone 7 rfl (by kernel_rfl) (by rfl) ?_
          intro K hK
          refine wp_store_row 25 (.tmp 5) (.tmp 12) rfl ga0 (byteCells (D) 16).toArray (by rfl) (by rfl) 25 _ Ha0.out (by rw [List.size_toArray, byteCells_length]; kernel_rfl) (by rw [List.size_toArray, List.size_toArray, byteCells_length, byteCells_length]) (bytes_one _ _) ?_
          have hS2 := below_setRow hS hge0 (byteCells (D) 16).toArray
          refine hK.out _ _ hS2 ?_
          clear hK K
          refine cut_any (fun X => Whole X ga0 25 (byteCells (D) 16).toArray ∧ Whole X ga1 25 (byteCells (fun _ => 0) 16).toArray ∧ Below W.heap.size W X) ⟨setRow_heap _ _ _ _ _ _ Ha0.out, Whole.farRow Ha1.out (by omega) _, hS2⟩ ?_
          rintro v33 ⟨hnew, hold, hS3⟩
          clear hS hS2
          have hS := hS3
          clear hS3
          replace Ha0 := Lib.hid hnew
          replace Ha1 := Lib.hid hold
          clear hnew hold
          try simp only [Act.put]
          refine alone 8 rfl (by kernel_rfl) (by rfl) ?_
          intro K hK
          refine wp_store_row 25 (.tmp 6) (.tmp 15) rfl ga1 (byteCells (S) 16).toArray (by rfl) (by rfl) 25 _ Ha1.out (by rw [List.size_toArray, byteCells_length]; kernel_rfl) (by rw [List.size_toArray, List.size_toArray, byteCells_length, byteCells_length]) (bytes_one _ _) ?_
          have hS2 := below_setRow hS hge1 (byteCells (S) 16).toArray
          refine hK.out _ _ hS2 ?_
          clear hK K
          refine cut_any (fun X => Whole X ga1 25 (byteCells (S) 16).toArray ∧ Whole X ga0 25 (byteCells (D) 16).toArray ∧ Below W.heap.size W X) ⟨setRow_heap _ _ _ _ _ _ Ha1.out, Whole.farRow Ha0.out (by omega) _, hS2⟩ ?_
          rintro v34 ⟨hnew, hold, hS3⟩
          clear hS hS2
          have hS := hS3
          clear hS3
          replace Ha1 := Lib.hid hnew
          replace Ha0 := Lib.hid hold
          clear hnew hold
          try simp only [Act.put]
          refine region_end (by kernel_rfl) ?_
          go_wp2_with fail
          go_meet
          exact ⟨ga0, ga1, rfl, rfl, hge0, hge1, Ha0.out, Ha1.out, hS⟩
        · intro K hK
          go_simp
          refine hK.out _ _ (hS.alloc hS.size _) ?_
          clear hK K
          try simp only [Act.put, List.setIfInBounds_toArray, List.set_cons_zero, List.set_cons_succ]
          refine cut_any (fun X => Whole X v30.heap.size 25 (byteCells (fun _ => 0) 16).toArray ∧ Below W.heap.size W X ∧ Whole X ga0 25 (byteCells (fun _ => 0) 16).toArray) ⟨Whole.new _ _ _, hS.alloc hS.size _, Ha0.out.alloc _⟩ ?_
          rintro v35 ⟨hnew, hS', hold0⟩
          have hlt0 : ga0 < v30.heap.size := Ha0.out.lt
          have hge1 : W.heap.size ≤ v30.heap.size := hS.size
          clear hS
          have hS := hS'
          clear hS'
          generalize v30.heap.size = ga1 at hnew hge1 hlt0 ⊢
          have Ha1 := Lib.hid hnew
          clear hnew
          replace Ha0 := Lib.hid hold0
          clear hold0
          have hne : ga0 ≠ ga1 := by omega
          refine alone 4 rfl (by kernel_rfl) (by rfl) ?_
          intro K hK
          go_simp
          refine (HSUM.out _ (HR.out.below (KB.out.trans (hS.mono (by omega))) (by omega))).mono ?_
          rintro e v36 ⟨rfl, hb⟩
          go_simp
          replace Ha0 := Lib.hid (Ha0.out.below hb Ha0.out.lt)
          replace Ha1 := Lib.hid (Ha1.out.below hb Ha1.out.lt)
          replace hS := below_trans hS hb
          refine hK.out _ _ hS ?_
          clear hK hb K
          try simp only [Act.put, List.setIfInBounds_toArray, List.set_cons_zero, List.set_cons_succ]
          refine alone 7 rfl (by kernel_rfl) (by rfl) ?_
          intro K hK
          refine wp_store_row 25 (.tmp 5) (.tmp 12) rfl ga0 (byteCells (D) 16).toArray (by rfl) (by rfl) 25 _ Ha0.out (by rw [List.size_toArray, byteCells_length]; kernel_rfl) (by rw [List.size_toArray, List.size_toArray, byteCells_length, byteCells_length]) (bytes_one _ _) ?_
          have hS2 := below_setRow hS hge0 (byteCells (D) 16).toArray
          refine hK.out _ _ hS2 ?_
          clear hK K
          refine cut_any (fun X => Whole X ga0 25 (byteCells (D) 16).toArray ∧ Whole X ga1 25 (byteCells (fun _ => 0) 16).toArray ∧ Below W.heap.size W X) ⟨setRow_heap _ _ _ _ _ _ Ha0.out, Whole.farRow Ha1.out (by omega) _, hS2⟩ ?_
          rintro v37 ⟨hnew, hold, hS3⟩
          clear hS hS2
          have hS := hS3
          clear hS3
          replace Ha0 := Lib.hid hnew
          replace Ha1 := Lib.hid hold
          clear hnew hold
          try simp only [Act.put]
          refine alone 8 rfl (by kernel_rfl) (by rfl) ?_
          intro K hK
          refine wp_store_row 25 (.tmp 6) (.tmp 15) rfl ga1 (byteCells (S) 16).toArray (by rfl) (by rfl) 25 _ Ha1.out (by rw [List.size_toArray, byteCells_length]; kernel_rfl) (by rw [List.size_toArray, List.size_toArray, byteCells_length, byteCells_length]) (bytes_one _ _) ?_
          have hS2 := below_setRow hS hge1 (byteCells (S) 16).toArray
          refine hK.out _ _ hS2 ?_
          clear hK K
          refine cut_any (fun X => Whole X ga1 25 (byteCells (S) 16).toArray ∧ Whole X ga0 25 (byteCells (D) 16).toArray ∧ Below W.heap.size W X) ⟨setRow_heap _ _ _ _ _ _ Ha1.out, Whole.farRow Ha0.out (by omega) _, hS2⟩ ?_
          rintro v38 ⟨hnew, hold, hS3⟩
          clear hS hS2
          have hS := hS3
          clear hS3
          replace Ha1 := Lib.hid hnew
          replace Ha0 := Lib.hid hold
          clear hnew hold
          try simp only [Act.put]
          refine region_end (by kernel_rfl) ?_
          go_wp2_with fail
          go_meet
          exact ⟨ga0, ga1, rfl, rfl, hge0, hge1, Ha0.out, Ha1.out, hS⟩
      · intro K hK
        go_simp
        refine hK.out _ _ (hS.alloc hS.size _) ?_
        clear hK K
        try simp only [Act.put, List.setIfInBounds_toArray, List.set_cons_zero, List.set_cons_succ]
        refine cut_any (fun X => Whole X v29.heap.size 25 (byteCells (fun _ => 0) 16).toArray ∧ Below W.heap.size W X ∧ Whole X ga0 25 (byteCells (fun _ => 0) 16).toArray) ⟨Whole.new _ _ _, hS.alloc hS.size _, Ha0.out.alloc _⟩ ?_
        rintro v39 ⟨hnew, hS', hold0⟩
        have hlt0 : ga0 < v29.heap.size := Ha0.out.lt
        have hge1 : W.heap.size ≤ v29.heap.size := hS.size
        clear hS
        have hS := hS'
        clear hS'
        generalize v29.heap.size = ga1 at hnew hge1 hlt0 ⊢
        have Ha1 := Lib.hid hnew
        clear hnew
        replace Ha0 := Lib.hid hold0
        clear hold0
        have hne : ga0 ≠ ga1 := by omega
        refine alone 1 rfl (by kernel_rfl) (by rfl) ?_
        intro K hK
        go_simp
        refine (HCL.out _).mono ?_
        rintro e v40 ⟨rfl, hb⟩
        go_simp
        replace Ha0 := Lib.hid (Ha0.out.below hb Ha0.out.lt)
        replace Ha1 := Lib.hid (Ha1.out.below hb Ha1.out.lt)
        replace hS := below_trans hS hb
        refine hK.out _ _ hS ?_
        clear hK hb K
        try simp only [Act.put, List.setIfInBounds_toArray, List.set_cons_zero, List.set_cons_succ]
        refine alone 4 rfl (by kernel_rfl) (by rfl) ?_
        intro K hK
        go_simp
        refine (HSUM.out _ (HR.out.below (KB.out.trans (hS.mono (by omega))) (by omega))).mono ?_
        rintro e v41 ⟨rfl, hb⟩
        go_simp
        replace Ha0 := Lib.hid (Ha0.out.below hb Ha0.out.lt)
        replace Ha1 := Lib.hid (Ha1.out.below hb Ha1.out.lt)
        replace hS := below_trans hS hb
        refine hK.out _ _ hS ?_
        clear hK hb K
        try simp only [Act.put, List.setIfInBounds_toArray, List.set_cons_zero, List.set_cons_succ]
        refine alone 7 rfl (by kernel_rfl) (by rfl) ?_
        intro K hK
        refine wp_store_row 25 (.tmp 5) (.tmp 12) rfl ga0 (byteCells (D) 16).toArray (by rfl) (by rfl) 25 _ Ha0.out (by rw [List.size_toArray, byteCells_length]; kernel_rfl) (by rw [List.size_toArray, List.size_toArray, byteCells_length, byteCells_length]) (bytes_one _ _) ?_
        have hS2 := below_setRow hS hge0 (byteCells (D) 16).toArray
        refine hK.out _ _ hS2 ?_
        clear hK K
        refine cut_any (fun X => Whole X ga0 25 (byteCells (D) 16).toArray ∧ Whole X ga1 25 (byteCells (fun _ => 0) 16).toArray ∧ Below W.heap.size W X) ⟨setRow_heap _ _ _ _ _ _ Ha0.out, Whole.farRow Ha1.out (by omega) _, hS2⟩ ?_
        rintro v42 ⟨hnew, hold, hS3⟩
        clear hS hS2
        have hS := hS3
        clear hS3
        replace Ha0 := Lib.hid hnew
        replace Ha1 := Lib.hid hold
        clear hnew hold
        try simp only [Act.put]
        refine alone 8 rfl (by kernel_rfl) (by rfl) ?_
        intro K hK
        refine wp_store_row 25 (.tmp 6) (.tmp 15) rfl ga1 (byteCells (S) 16).toArray (by rfl) (by rfl) 25 _ Ha1.out (by rw [List.size_toArray, byteCells_length]; kernel_rfl) (by rw [List.size_toArray, List.size_toArray, byteCells_length, byteCells_length]) (bytes_one _ _) ?_
        have hS2 := below_setRow hS hge1 (byteCells (S) 16).toArray
        refine hK.out _ _ hS2 ?_
        clear hK K
        refine cut_any (fun X => Whole X ga1 25 (byteCells (S) 16).toArray ∧ Whole X ga0 25 (byteCells (D) 16).toArray ∧ Below W.heap.size W X) ⟨setRow_heap _ _ _ _ _ _ Ha1.out, Whole.farRow Ha0.out (by omega) _, hS2⟩ ?_
        rintro v43 ⟨hnew, hold, hS3⟩
        clear hS hS2
        have hS := hS3
        clear hS3
        replace Ha1 := Lib.hid hnew
        replace Ha0 := Lib.hid hold
        clear hnew hold
        try simp only [Act.put]
        refine region_end (by kernel_rfl) ?_
        go_wp2_with fail
        go_meet
        exact ⟨ga0, ga1, rfl, rfl, hge0, hge1, Ha0.out, Ha1.out, hS⟩
    · intro K hK
      go_simp
      refine hK.out _ _ (hS.alloc hS.size _) ?_
      clear hK K
      try simp only [Act.put, List.setIfInBounds_toArray, List.set_cons_zero, List.set_cons_succ]
      refine cut_any (fun X => Whole X w3.heap.size 25 (byteCells (fun _ => 0) 16).toArray ∧ Below W.heap.size W X) ⟨Whole.new _ _ _, hS.alloc hS.size _⟩ ?_
      rintro v44 ⟨hnew, hS'⟩
      have hge1 : W.heap.size ≤ w3.heap.size := hS.size
      clear hS
      have hS := hS'
      clear hS'
      generalize w3.heap.size = ga1 at hnew hge1 ⊢
      have Ha1 := Lib.hid hnew
      clear hnew
      refine ready_two 1 5 rfl rfl (by kernel_rfl) (by rfl) (by rfl) ?_ ?_
      · intro K hK
        go_simp
        refine (HCL.out _).mono ?_
        rintro e v45 ⟨rfl, hb⟩
        go_simp
        replace Ha1 := Lib.hid (Ha1.out.below hb Ha1.out.lt)
        replace hS := below_trans hS hb
        refine hK.out _ _ hS ?_
        clear hK hb K
        try simp only [Act.put, List.setIfInBounds_toArray, List.set_cons_zero, List.set_cons_succ]
        refine ready_two 4 5 rfl rfl (by kernel_rfl) (by rfl) (by rfl) ?_ ?_
        · intro K hK
          go_simp
          refine (HSUM.out _ (HR.out.below (KB.out.trans (hS.mono (by omega))) (by omega))).mono ?_
          rintro e v46 ⟨rfl, hb⟩
          go_simp
          replace Ha1 := Lib.hid (Ha1.out.below hb Ha1.out.lt)
          replace hS := below_trans hS hb
          refine hK.out _ _ hS ?_
          clear hK hb K
          try simp only [Act.put, List.setIfInBounds_toArray, List.set_cons_zero, List.set_cons_succ]
          refine alone 5 rfl (by kernel_rfl) (by rfl) ?_
          intro K hK
          go_simp
          refine hK.out _ _ (hS.alloc hS.size _) ?_
          clear hK K
          try simp only [Act.put, List.setIfInBounds_toArray, List.set_cons_zero, List.set_cons_succ]
          refine cut_any (fun X => Whole X v46.heap.size 25 (byteCells (fun _ => 0) 16).toArray ∧ Below W.heap.size W X ∧ Whole X ga1 25 (byteCells (fun _ => 0) 16).toArray) ⟨Whole.new _ _ _, hS.alloc hS.size _, Ha1.out.alloc _⟩ ?_
          rintro v47 ⟨hnew, hS', hold1⟩
          have hlt1 : ga1 < v46.heap.size := Ha1.out.lt
          have hge0 : W.heap.size ≤ v46.heap.size := hS.size
          clear hS
          have hS := hS'
          clear hS'
          generalize v46.heap.size = ga0 at hnew hge0 hlt1 ⊢
          have Ha0 := Lib.hid hnew
          clear hnew
          replace Ha1 := Lib.hid hold1
          clear hold1
          have hne : ga0 ≠ ga1 := by omega
          refine alone 7 rfl (by kernel_rfl) (by rfl) ?_
          intro K hK
          refine wp_store_row 25 (.tmp 5) (.tmp 12) rfl ga0 (byteCells (D) 16).toArray (by rfl) (by rfl) 25 _ Ha0.out (by rw [List.size_toArray, byteCells_length]; kernel_rfl) (by rw [List.size_toArray, List.size_toArray, byteCells_length, byteCells_length]) (bytes_one _ _) ?_
          have hS2 := below_setRow hS hge0 (byteCells (D) 16).toArray
          refine hK.out _ _ hS2 ?_
          clear hK K
          refine cut_any (fun X => Whole X ga0 25 (byteCells (D) 16).toArray ∧ Whole X ga1 25 (byteCells (fun _ => 0) 16).toArray ∧ Below W.heap.size W X) ⟨setRow_heap _ _ _ _ _ _ Ha0.out, Whole.farRow Ha1.out (by omega) _, hS2⟩ ?_
          rintro v48 ⟨hnew, hold, hS3⟩
          clear hS hS2
          have hS := hS3
          clear hS3
          replace Ha0 := Lib.hid hnew
          replace Ha1 := Lib.hid hold
          clear hnew hold
          try simp only [Act.put]
          refine alone 8 rfl (by kernel_rfl) (by rfl) ?_
          intro K hK
          refine wp_store_row 25 (.tmp 6) (.tmp 15) rfl ga1 (byteCells (S) 16).toArray (by rfl) (by rfl) 25 _ Ha1.out (by rw [List.size_toArray, byteCells_length]; kernel_rfl) (by rw [List.size_toArray, List.size_toArray, byteCells_length, byteCells_length]) (bytes_one _ _) ?_
          have hS2 := below_setRow hS hge1 (byteCells (S) 16).toArray
          refine hK.out _ _ hS2 ?_
          clear hK K
          refine cut_any (fun X => Whole X ga1 25 (byteCells (S) 16).toArray ∧ Whole X ga0 25 (byteCells (D) 16).toArray ∧ Below W.heap.size W X) ⟨setRow_heap _ _ _ _ _ _ Ha1.out, Whole.farRow Ha0.out (by omega) _, hS2⟩ ?_
          rintro v49 ⟨hnew, hold, hS3⟩
          clear hS hS2
          have hS := hS3
          clear hS3
          replace Ha1 := Lib.hid hnew
          replace Ha0 := Lib.hid hold
          clear hnew hold
          try simp only [Act.put]
          refine region_end (by kernel_rfl) ?_
          go_wp2_with fail
          go_meet
          exact ⟨ga0, ga1, rfl, rfl, hge0, hge1, Ha0.out, Ha1.out, hS⟩
        · intro K hK
          go_simp
          refine hK.out _ _ (hS.alloc hS.size _) ?_
          clear hK K
          try simp only [Act.put, List.setIfInBounds_toArray, List.set_cons_zero, List.set_cons_succ]
          refine cut_any (fun X => Whole X v45.heap.size 25 (byteCells (fun _ => 0) 16).toArray ∧ Below W.heap.size W X ∧ Whole X ga1 25 (byteCells (fun _ => 0) 16).toArray) ⟨Whole.new _ _ _, hS.alloc hS.size _, Ha1.out.alloc _⟩ ?_
          rintro v50 ⟨hnew, hS', hold1⟩
          have hlt1 : ga1 < v45.heap.size := Ha1.out.lt
          have hge0 : W.heap.size ≤ v45.heap.size := hS.size
          clear hS
          have hS := hS'
          clear hS'
          generalize v45.heap.size = ga0 at hnew hge0 hlt1 ⊢
          have Ha0 := Lib.hid hnew
          clear hnew
          replace Ha1 := Lib.hid hold1
          clear hold1
          have hne : ga0 ≠ ga1 := by omega
          refine alone 4 rfl (by kernel_rfl) (by rfl) ?_
          intro K hK
          go_simp
          refine (HSUM.out _ (HR.out.below (KB.out.trans (hS.mono (by omega))) (by omega))).mono ?_
          rintro e v51 ⟨rfl, hb⟩
          go_simp
          replace Ha0 := Lib.hid (Ha0.out.below hb Ha0.out.lt)
          replace Ha1 := Lib.hid (Ha1.out.below hb Ha1.out.lt)
          replace hS := below_trans hS hb
          refine hK.out _ _ hS ?_
          clear hK hb K
          try simp only [Act.put, List.setIfInBounds_toArray, List.set_cons_zero, List.set_cons_succ]
          refine alone 7 rfl (by kernel_rfl) (by rfl) ?_
          intro K hK
          refine wp_store_row 25 (.tmp 5) (.tmp 12) rfl ga0 (byteCells (D) 16).toArray (by rfl) (by rfl) 25 _ Ha0.out (by rw [List.size_toArray, byteCells_length]; kernel_rfl) (by rw [List.size_toArray, List.size_toArray, byteCells_length, byteCells_length]) (bytes_one _ _) ?_
          have hS2 := below_setRow hS hge0 (byteCells (D) 16).toArray
          refine hK.out _ _ hS2 ?_
          clear hK K
          refine cut_any (fun X => Whole X ga0 25 (byteCells (D) 16).toArray ∧ Whole X ga1 25 (byteCells (fun _ => 0) 16).toArray ∧ Below W.heap.size W X) ⟨setRow_heap _ _ _ _ _ _ Ha0.out, Whole.farRow Ha1.out (by omega) _, hS2⟩ ?_
          rintro v52 ⟨hnew, hold, hS3⟩
          clear hS hS2
          have hS := hS3
          clear hS3
          replace Ha0 := Lib.hid hnew
          replace Ha1 := Lib.hid hold
          clear hnew hold
          try simp only [Act.put]
          refine alone 8 rfl (by kernel_rfl) (by rfl) ?_
          intro K hK
          refine wp_store_row 25 (.tmp 6) (.tmp 15) rfl ga1 (byteCells (S) 16).toArray (by rfl) (by rfl) 25 _ Ha1.out (by rw [List.size_toArray, byteCells_length]; kernel_rfl) (by rw [List.size_toArray, List.size_toArray, byteCells_length, byteCells_length]) (bytes_one _ _) ?_
          have hS2 := below_setRow hS hge1 (byteCells (S) 16).toArray
          refine hK.out _ _ hS2 ?_
          clear hK K
          refine cut_any (fun X => Whole X ga1 25 (byteCells (S) 16).toArray ∧ Whole X ga0 25 (byteCells (D) 16).toArray ∧ Below W.heap.size W X) ⟨setRow_heap _ _ _ _ _ _ Ha1.out, Whole.farRow Ha0.out (by omega) _, hS2⟩ ?_
          rintro v53 ⟨hnew, hold, hS3⟩
          clear hS hS2
          have hS := hS3
          clear hS3
          replace Ha1 := Lib.hid hnew
          replace Ha0 := Lib.hid hold
          clear hnew hold
          try simp only [Act.put]
          refine region_end (by kernel_rfl) ?_
          go_wp2_with fail
          go_meet
          exact ⟨ga0, ga1, rfl, rfl, hge0, hge1, Ha0.out, Ha1.out, hS⟩
      · intro K hK
        go_simp
        refine hK.out _ _ (hS.alloc hS.size _) ?_
        clear hK K
        try simp only [Act.put, List.setIfInBounds_toArray, List.set_cons_zero, List.set_cons_succ]
        refine cut_any (fun X => Whole X v44.heap.size 25 (byteCells (fun _ => 0) 16).toArray ∧ Below W.heap.size W X ∧ Whole X ga1 25 (byteCells (fun _ => 0) 16).toArray) ⟨Whole.new _ _ _, hS.alloc hS.size _, Ha1.out.alloc _⟩ ?_
        rintro v54 ⟨hnew, hS', hold1⟩
        have hlt1 : ga1 < v44.heap.size := Ha1.out.lt
        have hge0 : W.heap.size ≤ v44.heap.size := hS.size
        clear hS
        have hS := hS'
        clear hS'
        generalize v44.heap.size = ga0 at hnew hge0 hlt1 ⊢
        have Ha0 := Lib.hid hnew
        clear hnew
        replace Ha1 := Lib.hid hold1
        clear hold1
        have hne : ga0 ≠ ga1 := by omega
        refine alone 1 rfl (by kernel_rfl) (by rfl) ?_
        intro K hK
        go_simp
        refine (HCL.out _).mono ?_
        rintro e v55 ⟨rfl, hb⟩
        go_simp
        replace Ha0 := Lib.hid (Ha0.out.below hb Ha0.out.lt)
        replace Ha1 := Lib.hid (Ha1.out.below hb Ha1.out.lt)
        replace hS := below_trans hS hb
        refine hK.out _ _ hS ?_
        clear hK hb K
        try simp only [Act.put, List.setIfInBounds_toArray, List.set_cons_zero, List.set_cons_succ]
        refine alone 4 rfl (by kernel_rfl) (by rfl) ?_
        intro K hK
        go_simp
        refine (HSUM.out _ (HR.out.below (KB.out.trans (hS.mono (by omega))) (by omega))).mono ?_
        rintro e v56 ⟨rfl, hb⟩
        go_simp
        replace Ha0 := Lib.hid (Ha0.out.below hb Ha0.out.lt)
        replace Ha1 := Lib.hid (Ha1.out.below hb Ha1.out.lt)
        replace hS := below_trans hS hb
        refine hK.out _ _ hS ?_
        clear hK hb K
        try simp only [Act.put, List.setIfInBounds_toArray, List.set_cons_zero, List.set_cons_succ]
        refine alone 7 rfl (by kernel_rfl) (by rfl) ?_
        intro K hK
        refine wp_store_row 25 (.tmp 5) (.tmp 12) rfl ga0 (byteCells (D) 16).toArray (by rfl) (by rfl) 25 _ Ha0.out (by rw [List.size_toArray, byteCells_length]; kernel_rfl) (by rw [List.size_toArray, List.size_toArray, byteCells_length, byteCells_length]) (bytes_one _ _) ?_
        have hS2 := below_setRow hS hge0 (byteCells (D) 16).toArray
        refine hK.out _ _ hS2 ?_
        clear hK K
        refine cut_any (fun X => Whole X ga0 25 (byteCells (D) 16).toArray ∧ Whole X ga1 25 (byteCells (fun _ => 0) 16).toArray ∧ Below W.heap.size W X) ⟨setRow_heap _ _ _ _ _ _ Ha0.out, Whole.farRow Ha1.out (by omega) _, hS2⟩ ?_
        rintro v57 ⟨hnew, hold, hS3⟩
        clear hS hS2
        have hS := hS3
        clear hS3
        replace Ha0 := Lib.hid hnew
        replace Ha1 := Lib.hid hold
        clear hnew hold
        try simp only [Act.put]
        refine alone 8 rfl (by kernel_rfl) (by rfl) ?_
        intro K hK
        refine wp_store_row 25 (.tmp 6) (.tmp 15) rfl ga1 (byteCells (S) 16).toArray (by rfl) (by rfl) 25 _ Ha1.out (by rw [List.size_toArray, byteCells_length]; kernel_rfl) (by rw [List.size_toArray, List.size_toArray, byteCells_length, byteCells_length]) (bytes_one _ _) ?_
        have hS2 := below_setRow hS hge1 (byteCells (S) 16).toArray
        refine hK.out _ _ hS2 ?_
        clear hK K
        refine cut_any (fun X => Whole X ga1 25 (byteCells (S) 16).toArray ∧ Whole X ga0 25 (byteCells (D) 16).toArray ∧ Below W.heap.size W X) ⟨setRow_heap _ _ _ _ _ _ Ha1.out, Whole.farRow Ha0.out (by omega) _, hS2⟩ ?_
        rintro v58 ⟨hnew, hold, hS3⟩
        clear hS hS2
        have hS := hS3
        clear hS3
        replace Ha1 := Lib.hid hnew
        replace Ha0 := Lib.hid hold
        clear hnew hold
        try simp only [Act.put]
        refine region_end (by kernel_rfl) ?_
        go_wp2_with fail
        go_meet
        exact ⟨ga0, ga1, rfl, rfl, hge0, hge1, Ha0.out, Ha1.out, hS⟩
  case rest =>
    obtain ⟨g1, g2, rfl, rfl, hg1, hg2, h1, h2, hS⟩ := hcut
    have RK := Lib.hid (Rd.of_whole (K1.out.below hS K1.out.lt))
    have RG1 := Lib.hid (Rd.of_whole h1)
    have RG2 := Lib.hid (Rd.of_whole h2)
    have LB := Lib.hid (KB.out.trans (hS.mono (by omega)))
    have HRW := Lib.hid (HR.out.below LB.out (by omega))
    have hlc : B ≤ wc.heap.size := by have := LB.out.size; omega
    clear h1 h2 hS K1 KB HR
    go_wp2_with fail
    refine region_drew (fun x => Below wc.heap.size wc x) (by kernel_rfl) (Below.drew (Below.refl _ _)) ?_
    intro hS
    refine alone 0 rfl (by kernel_rfl) (by rfl) ?_
    intro K hK
    go_simp
    refine (alive_any _).mono ?_
    rintro e v1 ⟨rfl, hb⟩
    go_simp
    replace hS := below_trans hS hb
    refine hK.out _ _ hS ?_
    clear hK hb K
    try simp only [Act.put, List.setIfInBounds_toArray, List.set_cons_zero, List.set_cons_succ]
    refine take 1 _ rfl (by kernel_rfl) (by kernel_rfl) (by kernel_rfl) (fun _ _ _ h => h) (by rfl) hS (by intro w _; go_simp; with_reducible rfl) ?_
    try simp only [Act.put, List.setIfInBounds_toArray, List.set_cons_zero, List.set_cons_succ]
    refine take 2 _ rfl (by kernel_rfl) (by kernel_rfl) (by kernel_rfl) (fun _ _ _ h => h) (by rfl) hS (by intro w _; go_simp; with_reducible rfl) ?_
    try simp only [Act.put, List.setIfInBounds_toArray, List.set_cons_zero, List.set_cons_succ]
    refine take 3 _ rfl (by kernel_rfl) (by kernel_rfl) (by kernel_rfl) (fun _ _ _ h => h) (by rfl) hS (fun w hw => run_string_op 23 9 5 _ rfl rfl Try.underlying23 Try.underlying5 Try.underlying9 (RG1.out.below hw (Nat.le_refl _))) ?_
    try simp only [Act.put, List.setIfInBounds_toArray, List.set_cons_zero, List.set_cons_succ]
    refine take 4 _ rfl (by kernel_rfl) (by kernel_rfl) (by kernel_rfl) (fun _ _ _ h => h) (by rfl) hS (by intro w _; go_simp; with_reducible rfl) ?_
    try simp only [Act.put, List.setIfInBounds_toArray, List.set_cons_zero, List.set_cons_succ]
    refine alone 5 rfl (by kernel_rfl) (by rfl) ?_
    intro K hK
    go_simp
    refine (clamp_ref (some ⟨B, 0, none⟩) 32 32 key HK.out (by omega) (by omega) _ (RK.out.below hS (Nat.le_refl _))).mono ?_
    rintro e v2 ⟨AC, cc, rfl, oc, hb⟩
    rw [HDE.out] at oc
    have OC := Lib.hid oc.rd
    clear oc
    go_simp
    replace hS := below_trans hS hb
    refine hK.out _ _ hS ?_
    clear hK hb K
    try simp only [Act.put, List.setIfInBounds_toArray, List.set_cons_zero, List.set_cons_succ]
    refine alone_run 6 _ rfl (by kernel_rfl) (by rfl) hS (run_string_op 23 9 5 _ rfl rfl Try.underlying23 Try.underlying5 Try.underlying9 (OC.out)) ?_
    try simp only [Act.put, List.setIfInBounds_toArray, List.set_cons_zero, List.set_cons_succ]
    refine take 7 _ rfl (by kernel_rfl) (by kernel_rfl) (by kernel_rfl) (fun _ _ _ h => h) (by rfl) hS (by intro w _; go_simp; with_reducible rfl) ?_
    try simp only [Act.put, List.setIfInBounds_toArray, List.set_cons_zero, List.set_cons_succ]
    refine take 8 _ rfl (by kernel_rfl) (by kernel_rfl) (by kernel_rfl) (fun _ _ _ h => h) (by rfl) hS (by intro w _; go_simp; with_reducible rfl) ?_
    try simp only [Act.put, List.setIfInBounds_toArray, List.set_cons_zero, List.set_cons_succ]
    refine take 9 _ rfl (by kernel_rfl) (by kernel_rfl) (by kernel_rfl) (fun _ _ _ h => h) (by rfl) hS (by intro w _; go_simp; with_reducible rfl) ?_
    try simp only [Act.put, List.setIfInBounds_toArray, List.set_cons_zero, List.set_cons_succ]
    refine take 10 _ rfl (by kernel_rfl) (by kernel_rfl) (by kernel_rfl) (fun _ _ _ h => h) (by rfl) hS (by intro w _; go_simp; with_reducible rfl) ?_
    try simp only [Act.put, List.setIfInBounds_toArray, List.set_cons_zero, List.set_cons_succ]
    refine take 11 _ rfl (by kernel_rfl) (by kernel_rfl) (by kernel_rfl) (fun _ _ _ h => h) (by rfl) hS (fun w hw => run_string_op 23 9 5 _ rfl rfl Try.underlying23 Try.underlying5 Try.underlying9 (RG2.out.below hw (Nat.le_refl _))) ?_
    try simp only [Act.put, List.setIfInBounds_toArray, List.set_cons_zero, List.set_cons_succ]
    refine take 12 _ rfl (by kernel_rfl) (by kernel_rfl) (by kernel_rfl) (fun _ _ _ h => h) (by rfl) hS (by intro w _; go_simp; with_reducible rfl) ?_
    try simp only [Act.put, List.setIfInBounds_toArray, List.set_cons_zero, List.set_cons_succ]
    refine take 13 _ rfl (by kernel_rfl) (by kernel_rfl) (by kernel_rfl) (fun _ _ _ h => h) (by rfl) hS (by intro w _; go_simp; with_reducible rfl) ?_
    try simp only [Act.put, List.setIfInBounds_toArray, List.set_cons_zero, List.set_cons_succ]
    refine alone 14 rfl (by kernel_rfl) (by rfl) ?_
    intro K hK
    go_simp
    refine (sum_ref (some ⟨B, 0, none⟩) 32 32 key HK.out (by omega) (by omega) (by omega) (by omega) A n c f HF.out (by omega) hc hc2 _ (RK.out.below hS (Nat.le_refl _)) (HRW.out.below hS (Nat.le_refl _))).mono ?_
    rintro e v3 ⟨AS, cs, rfl, rs, _, hb⟩
    rw [HSE.out] at rs
    have RS := Lib.hid rs
    clear rs
    go_simp
    replace hS := below_trans hS hb
    refine hK.out _ _ hS ?_
    clear hK hb K
    try simp only [Act.put, List.setIfInBounds_toArray, List.set_cons_zero, List.set_cons_succ]
    refine alone_run 15 _ rfl (by kernel_rfl) (by rfl) hS (run_string_op 23 9 5 _ rfl rfl Try.underlying23 Try.underlying5 Try.underlying9 (RS.out)) ?_
    try simp only [Act.put, List.setIfInBounds_toArray, List.set_cons_zero, List.set_cons_succ]
    refine take 16 _ rfl (by kernel_rfl) (by kernel_rfl) (by kernel_rfl) (fun _ _ _ h => h) (by rfl) hS (by intro w _; go_simp; with_reducible rfl) ?_
    try simp only [Act.put, List.setIfInBounds_toArray, List.set_cons_zero, List.set_cons_succ]
    refine take 17 _ rfl (by kernel_rfl) (by kernel_rfl) (by kernel_rfl) (fun _ _ _ h => h) (by rfl) hS (by intro w _; go_simp; with_reducible rfl) ?_
    try simp only [Act.put, List.setIfInBounds_toArray, List.set_cons_zero, List.set_cons_succ]
    refine take 18 _ rfl (by kernel_rfl) (by kernel_rfl) (by kernel_rfl) (fun _ _ _ h => h) (by rfl) hS (by intro w _; go_simp; with_reducible rfl) ?_
    try simp only [Act.put, List.setIfInBounds_toArray, List.set_cons_zero, List.set_cons_succ]
    refine region_end (by kernel_rfl) ?_
    have HB9 := Lib.hid (LB.out.trans (hS.mono hlc))
    clear hS
    go_wp2_with fail
    go_ret
    exact ⟨rfl, by rw [hB]; exact HB9.out⟩

theorem walk (key : Nat → Nat) (a1 : Option Addr) (len1 cap1 : Nat) (z1 : List Int) (w : World) (w0 : ∀ i, key i < 256) (w1 : IsRow .u8 w a1 len1 cap1 z1) :
    Calls Try.prog 3 #[.agg (byteCells key 32).toArray, .slice a1 len1 cap1] w fun e w' => e = .returned (.bool true) ∧ Below w.heap.size w w' := by
  obtain ⟨f, hf, hr, hcap, hm⟩ := rd_of_row w1
  by_cases h1 : 300 < len1
  · exact big key a1 len1 cap1 h1 w
  · exact fits key w0 a1 len1 cap1 f hf (by omega) hcap hm w hr

end PolySums
end Go.Proofs.Ytdffbjlbhjppeaa
