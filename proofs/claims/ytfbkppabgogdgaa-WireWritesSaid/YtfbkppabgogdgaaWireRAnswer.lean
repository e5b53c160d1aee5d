/- ReadAnswer of package wire. -/
import Derived.Test.YtfbkppabgogdgaaWireOpen
import Derived.Test.YtfbkppabgogdgaaOps
import Derived.Test.YtfbkppabgogdgaaWireBuilt
namespace Go.Proofs.Ytfbkppabgogdgaa
namespace Wire
open Go.ChangeShapes Go.WideShapes Go.ChangeAt Go.RowKit
open Num Mem Words Ref Cuts Chacha Quiet

theorem answer_zero : Try.prog.built 31 [] = some (two 0 0 (fun _ => 0) 80).toArray := by kernel_rfl
theorem answer_built (x y : Int) : Try.prog.built 31 [(0, .int .u32 x), (1, .int .u32 y)] = some (([.int .u32 x, .int .u32 y] : List Value) ++ byteCells (fun _ => 0) 80).toArray := by kernel_rfl
theorem sizeAnswer {f : Nat → Nat} {n : Nat} (h : openE f n 2 = 0) : n = 92 := by
  have h0 : kindE f n = 0 := by
    cases e : kindE f n with
    | zero => rfl
    | succ m => unfold openE at h; rw [e, if_neg (by omega)] at h; cases h
  have hv : kindV f n = 2 := by
    by_cases e : kindV f n = 2
    · exact e
    · unfold openE at h; rw [if_pos h0, if_neg e] at h; cases h
  have hl : le f 0 4 = 2 := by unfold kindV at hv; rw [if_pos h0] at hv; exact hv
  unfold kindE at h0
  by_cases h4 : n < 4
  · rw [if_pos h4] at h0; cases h0
  rw [if_neg h4, hl, if_neg (by omega)] at h0
  by_cases hf : fitN 2 n = true
  · unfold fitN at hf
    simpa using hf
  · rw [if_neg hf] at h0; cases h0

set_option maxRecDepth 100000 in
set_option maxHeartbeats 4000000 in
theorem readAnswer_no (A : Option Addr) (n c : Nat) (f : Nat → Nat) (hf : ∀ i, f i < 256) (hn : n ≤ 9223372036854775807) (hE : openE f n 2 ≠ 0) (w : World) (hr : Rd w A n f) :
    Calls Try.prog 28 #[.slice A n c] w fun e w' => e = .returned (.tuple #[.agg (two 0 0 (fun _ => 0) 80).toArray, .int .i64 (openE f n 2 : Nat)]) ∧ Below w.heap.size w w' := by
  have CO := Lib.hid (fun w h => open_no A n c f hf hn 2 hE w h)
  have HR := Lib.hid hr
  obtain ⟨Z, hZ⟩ : ∃ Z, two 0 0 (fun _ => 0) 80 = Z := ⟨_, rfl⟩
  have HZE := Lib.hid hZ
  have HZL := Lib.hid (show Z.length = 82 by rw [← hZ, two_length])
  have HZS := Lib.hid (show Z.toArray.size = 82 by rw [List.size_toArray, HZL.out])
  have HZ1 := Lib.hid (show Z.toArray.all (·.oneCell') = true by rw [← hZ]; exact two_one _ _ _ _)
  have HZB := Lib.hid (show Try.prog.built 31 [] = some Z.toArray by rw [← hZ]; exact answer_zero)
  obtain ⟨e0, he0⟩ : ∃ e0, openE f n 2 = e0 := ⟨_, rfl⟩
  rw [he0] at CO hE ⊢
  rw [hZ]
  have d : ((e0 : Int) != 0) = true := by rw [bne_iff_ne]; omega
  clear he0 hE hZ hr hf
  go_enter Try.func28, Try.ntmps28
  go_upto_region 1 with fail
  refine cut_world (fun W => Whole W w.heap.size 31 Z.toArray ∧ Below w.heap.size w W) ⟨by rw [← HZE.out]; exact whole_new _ _ rfl, below_alloc (Below.refl _ _) _⟩ ?_
  rintro W ⟨k1, kb⟩
  have K1 := Lib.hid k1
  have KB := Lib.hid kb
  clear k1 kb
  have HRW := Lib.hid (HR.out.below KB.out (Nat.le_refl _))
  generalize hB : w.heap.size = B at K1 KB ⊢
  have HB := Lib.hid hB
  clear hB
  go_wp2_with (first | (go_at_call 59; refine (CO.out _ HRW.out).mono ?_; rintro e w1 ⟨rfl, rfl⟩) | (refine wpList_built0 rfl 31 rfl Z.toArray HZB.out ?_) | (refine wpList_store_row rfl 31 (.tmp 2) (.tmp 14) rfl B Z.toArray rfl rfl 31 _ K1.out (by rw [HZS.out]; kernel_rfl) rfl HZ1.out ?_))
  have hret := setRow_heap _ _ _ Z.toArray _ _ K1.out
  refine bodyPost_ret (Poly.results_cell_tmp rfl _ _ B 31 Z _ rfl hret rfl rfl (by rw [HZL.out]; kernel_rfl)) rfl ?_
  exact ⟨rfl, by rw [HB.out]; exact below_setRow KB.out (Nat.le_refl B) _⟩

set_option maxRecDepth 100000 in
set_option maxHeartbeats 4000000 in
theorem readAnswer_ok (rb off n c : Nat) (f : Nat → Nat) (hf : ∀ i, f i < 256) (hnc : n ≤ c) (hcm : c ≤ 9223372036854775807) (hE : openE f n 2 = 0) (w : World) (hr : Rd w (some ⟨rb, off, none⟩) n f) (hrl : rb < w.heap.size) :
    Calls Try.prog 28 #[.slice (some ⟨rb, off, none⟩) n c] w fun e w' => e = .returned (.tuple #[.agg (two (le f 4 4) (le f 8 4) (fun i => f (12 + i)) 80).toArray, .int .i64 0]) ∧ Below w.heap.size w w' := by
  obtain rfl : n = 92 := sizeAnswer hE
  have CO := Lib.hid (fun w h hl => open_ok rb off 92 c f hf hnc hcm 2 hE w h hl)
  have HR := Lib.hid hr
  have HF := Lib.hid hf
  obtain ⟨Z, hZ⟩ : ∃ Z, two 0 0 (fun _ => 0) 80 = Z := ⟨_, rfl⟩
  have HZE := Lib.hid hZ
  have HZL := Lib.hid (show Z.length = 82 by rw [← hZ, two_length])
  have HZS := Lib.hid (show Z.toArray.size = 82 by rw [List.size_toArray, HZL.out])
  have HZ1 := Lib.hid (show Z.toArray.all (·.oneCell') = true by rw [← hZ]; exact two_one _ _ _ _)
  clear hZ hr hf hE
  obtain ⟨x, hx⟩ : ∃ x, le f 4 4 = x := ⟨_, rfl⟩
  have HX := Lib.hid hx
  obtain ⟨y, hy⟩ : ∃ y, le f 8 4 = y := ⟨_, rfl⟩
  have HY := Lib.hid hy
  clear hx hy
  obtain ⟨R0, hR0⟩ : ∃ R0, two x y (fun _ => 0) 80 = R0 := ⟨_, rfl⟩
  have HR0 := Lib.hid hR0
  have HRS := Lib.hid (show R0.toArray.size = 82 by rw [List.size_toArray, ← hR0, two_length])
  have HR1 := Lib.hid (show R0.toArray.all (·.oneCell') = true by rw [← hR0]; exact two_one _ _ _ _)
  have HRB := Lib.hid (show Try.prog.built 31 [(0, .int .u32 (x : Nat)), (1, .int .u32 (y : Nat))] = some R0.toArray by rw [← hR0]; exact answer_built _ _)
  clear hR0
  go_enter Try.func28, Try.ntmps28
  go_upto_region 1 with fail
  refine cut_world (fun W => Whole W w.heap.size 31 Z.toArray ∧ Below w.heap.size w W) ⟨by rw [← HZE.out]; exact whole_new _ _ rfl, below_alloc (Below.refl _ _) _⟩ ?_
  rintro W ⟨k1, kb⟩
  have K1 := Lib.hid k1
  have KB := Lib.hid kb
  clear k1 kb
  have HRW := Lib.hid (HR.out.below KB.out (Nat.le_refl _))
  generalize hB : w.heap.size = B at K1 KB hrl ⊢
  have HB := Lib.hid hB
  clear hB
  have hBW := K1.out.lt
  go_upto_region 4 with (go_at_call 59; refine (CO.out _ HRW.out (by omega)).mono ?_; rintro e w1 ⟨cb, rfl, hcb, hcur, hb1⟩; have HC1 := Lib.hid hcur; have HB1 := Lib.hid hb1; clear hcur hb1)
  have L1 := Lib.hid (K1.out.below HB1.out hBW)
  have LB := Lib.hid (KB.out.trans (HB1.out.mono (Nat.le_of_lt hBW)))
  have hl1 := L1.out.lt
  have hc1 := HC1.out.lt
  have hrc : rb ≠ cb := by omega
  clear K1 KB HRW HB1
  have CN1 := Lib.hid (number32_any cb rb f HF.out 92 c 4 (by omega) hnc hcm hrc w1 HC1.out (by omega))
  rw [HX.out] at CN1
  go_wp2_with fail
  refine CN1.out.mono ?_
  rintro e w2 ⟨rfl, hc2, ho2, hb2⟩
  have HC2 := Lib.hid hc2
  have HO2 := Lib.hid ho2
  have HB2 := Lib.hid hb2
  have hs2 := hb2.size
  clear hc2 ho2 hb2
  have CN2 := Lib.hid (number32_any cb rb f HF.out 92 c 8 (by omega) hnc hcm hrc w2 HC2.out (by omega))
  rw [HY.out] at CN2
  go_wp2_with fail
  refine CN2.out.mono ?_
  rintro e w3 ⟨rfl, hc3, ho3, hb3⟩
  have HC3 := Lib.hid hc3
  have HO3 := Lib.hid (show ∀ k, k < w1.heap.size → k ≠ cb → w3.heap[k]? = w1.heap[k]? from fun k hk hk2 => (ho3 k (by omega) hk2).trans (HO2.out k hk hk2))
  have HB3 := Lib.hid (HB2.out.trans hb3)
  have hs3 : w1.heap.size ≤ w3.heap.size := Nat.le_trans hs2 hb3.size
  clear hc3 ho3 hb3
  go_upto_region 5 with (first
    | (refine wpList_built2 rfl 31 0 1 (.tmp 17) (.tmp 19) rfl _ _ rfl rfl R0.toArray HRB.out ?_)
    | (refine wpList_store_row rfl 31 (.tmp 6) (.tmp 20) rfl w3.heap.size R0.toArray rfl rfl 31 _ (Whole.new _ _ _) (by rw [HRS.out]; kernel_rfl) (by rw [HRS.out]; rfl) HR1.out ?_))
  have M1 := Lib.hid (show Whole w3 B 31 Z.toArray from (HO3.out B hl1 (by omega)).trans L1.out)
  have MB := Lib.hid (show Below B w w3 from LB.out.trans ⟨HB3.out.os, HB3.out.tape, HB3.out.output, HB3.out.size, fun k hk => HO3.out k (by omega) (by omega)⟩)
  have hwl := M1.out.lt
  have hcl := HC3.out.lt
  refine cut_world (fun X => Whole X B 31 Z.toArray ∧ Whole X w3.heap.size 31 R0.toArray ∧ Cur X cb rb f 92 c 12 ∧ Below B w X) ⟨?_, ?_, ?_, ?_⟩ ?_
  · exact Whole.farRow (M1.out.alloc _) (by omega) _
  · exact setRow_heap _ _ _ _ _ _ (Whole.new _ _ _)
  · exact HC3.out.below (below_setRow (below_alloc (Below.refl _ _) _) (Nat.le_refl _) _)
  · exact below_setRow (below_alloc' MB.out (by omega) _) (by omega) _
  rintro X ⟨q1, q2, q3, qb⟩
  generalize w3.heap.size = G at q2 hwl hcl ⊢
  have Q1 := Lib.hid q1
  have Q2 := Lib.hid q2
  have Q3 := Lib.hid q3
  have QB := Lib.hid qb
  clear q1 q2 q3 qb M1 MB L1 LB HC1 HC3 HO3 HB3 CN1
  refine region_drew (fun _ => True) (by kernel_rfl) trivial ?_
  intro hS
  refine take 0 _ rfl (by kernel_rfl) (by kernel_rfl) (by kernel_rfl) (fun _ _ _ h => h) (by rfl) hS (by intro w _; go_simp; with_reducible rfl) ?_
  try simp only [Act.put, List.setIfInBounds_toArray, List.set_cons_zero, List.set_cons_succ]
  refine take 1 _ rfl (by kernel_rfl) (by kernel_rfl) (by kernel_rfl) (fun _ _ _ h => h) (by rfl) hS (by intro w _; go_simp; with_reducible rfl) ?_
  try simp only [Act.put, List.setIfInBounds_toArray, List.set_cons_zero, List.set_cons_succ]
  refine take 2 _ rfl (by kernel_rfl) (by kernel_rfl) (by kernel_rfl) (fun _ _ _ h => h) (by rfl) hS (by intro w _; go_simp; with_reducible rfl) ?_
  try simp only [Act.put, List.setIfInBounds_toArray, List.set_cons_zero, List.set_cons_succ]
  refine take 3 _ rfl (by kernel_rfl) (by kernel_rfl) (by kernel_rfl) (fun _ _ _ h => h) (by rfl) hS (by intro w _; go_simp; with_reducible rfl) ?_
  try simp only [Act.put, List.setIfInBounds_toArray, List.set_cons_zero, List.set_cons_succ]
  refine take 4 _ rfl (by kernel_rfl) (by kernel_rfl) (by kernel_rfl) (fun _ _ _ h => h) (by rfl) hS (by intro w _; go_simp; with_reducible rfl) ?_
  try simp only [Act.put, List.setIfInBounds_toArray, List.set_cons_zero, List.set_cons_succ]
  refine take 5 _ rfl (by kernel_rfl) (by kernel_rfl) (by kernel_rfl) (fun _ _ _ h => h) (by rfl) hS (by intro w _; go_simp; with_reducible rfl) ?_
  try simp only [Act.put, List.setIfInBounds_toArray, List.set_cons_zero, List.set_cons_succ]
  refine take 6 _ rfl (by kernel_rfl) (by kernel_rfl) (by kernel_rfl) (fun _ _ _ h => h) (by rfl) hS (by intro w _; go_simp; with_reducible rfl) ?_
  try simp only [Act.put, List.setIfInBounds_toArray, List.set_cons_zero, List.set_cons_succ]
  refine take 7 _ rfl (by kernel_rfl) (by kernel_rfl) (by kernel_rfl) (fun _ _ _ h => h) (by rfl) hS (by intro w _; go_simp; with_reducible rfl) ?_
  try simp only [Act.put, List.setIfInBounds_toArray, List.set_cons_zero, List.set_cons_succ]
  refine take 8 _ rfl (by kernel_rfl) (by kernel_rfl) (by kernel_rfl) (fun _ _ _ h => h) (by rfl) hS (by intro w _; go_simp; with_reducible rfl) ?_
  try simp only [Act.put, List.setIfInBounds_toArray, List.set_cons_zero, List.set_cons_succ]
  refine alone 9 rfl (by kernel_rfl) (by rfl) ?_
  intro K hK
  go_simp
  refine hK.out _ _ trivial ?_
  clear hK K
  try simp only [Act.put, List.setIfInBounds_toArray, List.set_cons_zero, List.set_cons_succ]
  have hnb : Below X.heap.size X (X.drew.alloc (.cells #[.slice (some ⟨G, 2, none⟩) 32 32, .slice (some ⟨G, 34, none⟩) 16 16, .slice (some ⟨G, 50, none⟩) 16 16, .slice (some ⟨G, 66, none⟩) 16 16] 36)) := (below_drewN (Below.refl _ _) 1).alloc (Nat.le_refl _) _
  refine cut_any (fun Y => Whole Y B 31 Z.toArray ∧ Whole Y G 31 R0.toArray ∧ Cur Y cb rb f 92 c 12 ∧ Below B w Y ∧ Whole Y X.heap.size 36 #[.slice (some ⟨G, 2, none⟩) 32 32, .slice (some ⟨G, 34, none⟩) 16 16, .slice (some ⟨G, 50, none⟩) 16 16, .slice (some ⟨G, 66, none⟩) 16 16]) ⟨Q1.out.below hnb Q1.out.lt, Q2.out.below hnb Q2.out.lt, Q3.out.below hnb, QB.out.trans (hnb.mono (Nat.le_of_lt Q1.out.lt)), Whole.new X.drew _ _⟩ ?_
  have hGX := Q2.out.lt
  have hcX := Q3.out.lt
  rintro Y ⟨y1, y2, y3, yb, y4⟩
  generalize X.heap.size = h at y4 hGX hcX ⊢
  clear Q1 Q2 Q3 QB hnb
  obtain ⟨A, ha, hrd, hap⟩ := y3
  have CF : Calls Try.prog 61 #[.pointer (some ⟨cb, 0, none⟩), .slice (some ⟨h, 0, none⟩) 4 4] Y fun e w' => e = .returned (.tuple #[]) ∧ FillW Y cb 151 G 31 rb R0 2 (fun i => f (12 + i)) (92 - 12) (c - 12) 80 w' := by
    have := fill_any cb 151 G 31 rb R0 2 (fun i => f (12 + i)) A (92 - 12) (c - 12) (by omega) (by omega) h 0 4 [32, 16, 16, 16] (by simp) (by intro j m hj; have := List.mem_of_getElem? hj; simp at this; omega) (by simp only [sumL]; omega) (by simp only [sumL]; rw [← List.size_toArray, HRS.out]; omega) (by omega) (by omega) (by omega) hrc (by omega) hap Y ha hrd y2 y4.lt (by
      intro j m hj
      rcases j with _ | _ | _ | _ | j
      · simp at hj
        subst hj
        exact ⟨32, Nat.le_refl _, y4.cell 0⟩
      · simp at hj
        subst hj
        exact ⟨16, Nat.le_refl _, y4.cell 1⟩
      · simp at hj
        subst hj
        exact ⟨16, Nat.le_refl _, y4.cell 2⟩
      · simp at hj
        subst hj
        exact ⟨16, Nat.le_refl _, y4.cell 3⟩
      · simp at hj)
    exact this
  have HCF := Lib.hid CF
  have Y1 := Lib.hid y1
  have YB := Lib.hid yb
  have hYl := y1.lt
  clear CF y1 y2 y4 yb ha hrd hap
  refine alone 10 rfl (by kernel_rfl) (by rfl) ?_
  intro K hK
  go_simp
  refine HCF.out.mono ?_
  rintro e w5 ⟨rfl, hF⟩
  go_simp
  refine hK.out _ _ trivial ?_
  clear hK K
  try simp only [Act.put, List.setIfInBounds_toArray, List.set_cons_zero, List.set_cons_succ]
  refine region_end (by kernel_rfl) ?_
  have hd := hF.dst
  have hsp : splice R0 2 (byteCells (fun i => f (12 + i)) 80) = two x y (fun i => f (12 + i)) 80 := by
    rw [← HR0.out]
    exact splice_tail (pre := [.int .u32 (x : Nat), .int .u32 (y : Nat)]) (fun _ => 0) _ 80
  rw [hsp] at hd
  have P1 := Lib.hid (show Whole w5 B 31 Z.toArray from (hF.oth B hYl (by omega) (by omega)).trans Y1.out)
  have PB := Lib.hid (YB.out.trans (hF.below (B := B) (by omega) (by omega) (Nat.le_of_lt hYl)))
  obtain ⟨F, hFv⟩ : ∃ F, two x y (fun i => f (12 + i)) 80 = F := ⟨_, rfl⟩
  rw [hFv] at hd
  have HFV := Lib.hid hFv
  have HFL := Lib.hid (show F.length = 82 by rw [← hFv, two_length])
  have HFS := Lib.hid (show F.toArray.size = 82 by rw [List.size_toArray, HFL.out])
  have HF1 := Lib.hid (show F.toArray.all (·.oneCell') = true by rw [← hFv]; exact two_one _ _ _ _)
  have P2 := Lib.hid hd
  clear hF hd hsp hFv HCF Y1 YB
  go_wp2_with (first
    | (refine Poly.wpList_load_row_if (by rfl) 31 (.tmp 6) rfl G rfl 31 F _ P2.out rfl rfl (by rw [HFL.out]; kernel_rfl) ?_)
    | (refine wpList_store_row rfl 31 (.tmp 2) (.tmp 32) rfl B F.toArray rfl rfl 31 _ P1.out (by rw [HFS.out]; kernel_rfl) (by rw [HZS.out, HFS.out]) HF1.out ?_))
  have hret := setRow_heap _ _ _ F.toArray _ _ P1.out
  refine bodyPost_ret (Poly.results_cell_tmp rfl _ _ B 31 F _ rfl hret rfl rfl (by rw [HFL.out]; kernel_rfl)) rfl ?_
  refine ⟨?_, by rw [HB.out]; exact below_setRow PB.out (Nat.le_refl B) _⟩
  rw [HX.out, HY.out, HFV.out]
  rfl

end Wire
end Go.Proofs.Ytfbkppabgogdgaa
