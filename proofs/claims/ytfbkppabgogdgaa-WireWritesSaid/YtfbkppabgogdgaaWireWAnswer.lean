/- WriteAnswer of package wire. -/
import Derived.Test.YtfbkppabgogdgaaWireMsg
import Derived.Test.YtfbkppabgogdgaaFloatK
namespace Go.Proofs.Ytfbkppabgogdgaa
namespace Wire
open Go.ChangeShapes Go.WideShapes Go.ChangeAt Go.RowKit
open Num Mem Words Ref Cuts Chacha Quiet

set_option maxRecDepth 100000 in
theorem textAnswer (s r : Nat) (g : Nat → Nat) (g4 g5 B : Nat) (i : Nat) (h : i < 92) : msgF 2 (textOf [⟨some ⟨g4, 0, none⟩, 4, 4, byteAt s⟩, ⟨some ⟨g5, 0, none⟩, 4, 4, byteAt r⟩, ⟨some ⟨B, 2, none⟩, 32, 32, fun i => g (0 + i)⟩, ⟨some ⟨B, 34, none⟩, 16, 16, fun i => g (32 + i)⟩, ⟨some ⟨B, 50, none⟩, 16, 16, fun i => g (48 + i)⟩, ⟨some ⟨B, 66, none⟩, 16, 16, fun i => g (64 + i)⟩]) i = out2 2 s r g i := by
  unfold msgF out2
  by_cases h1 : i < 4
  · rw [if_pos h1, if_pos h1]
  rw [if_neg h1, if_neg h1]
  simp only [textOf]
  (repeat' split) <;> first | rfl | omega | (congr 1; omega)

set_option maxRecDepth 100000 in
set_option maxHeartbeats 4000000 in
theorem writeAnswer_any (s r : Nat) (g : Nat → Nat) (hs : s < 4294967296) (hr : r < 4294967296) (hg : ∀ i, g i < 256) (w : World) :
    Calls Try.prog 20 #[.agg (two s r g 80).toArray] w fun e w' => ∃ A c, e = .returned (.slice A 92 c) ∧ Own w' w.heap.size 5 A 92 c (out2 2 s r g) ∧ Below w.heap.size w w' := by
  have CP := Lib.hid (fun w => put32_any s hs w)
  have CR := Lib.hid (fun w => put32_any r hr w)
  have HG := Lib.hid hg
  obtain ⟨L, hL⟩ : ∃ L, (two s r g 80).toArray = L := ⟨_, rfl⟩
  have HL := Lib.hid hL
  have HL0 := Lib.hid (show L[0]? = some (.int .u32 (s : Nat)) by rw [← hL]; rfl)
  have HL1 := Lib.hid (show L[1]? = some (.int .u32 (r : Nat)) by rw [← hL]; rfl)
  obtain ⟨K4, hK4⟩ : ∃ K, (byteCells (byteAt s) 4).toArray = K := ⟨_, rfl⟩
  have HK4 := Lib.hid hK4
  have HK4S := Lib.hid (show K4.size = 4 by rw [← hK4, List.size_toArray, byteCells_length])
  have HK41 := Lib.hid (show K4.all (·.oneCell') = true by rw [← hK4]; exact bytes_one _ _)
  rw [hK4] at CP
  obtain ⟨K5, hK5⟩ : ∃ K, (byteCells (byteAt r) 4).toArray = K := ⟨_, rfl⟩
  have HK5 := Lib.hid hK5
  have HK5S := Lib.hid (show K5.size = 4 by rw [← hK5, List.size_toArray, byteCells_length])
  have HK51 := Lib.hid (show K5.all (·.oneCell') = true by rw [← hK5]; exact bytes_one _ _)
  rw [hK5] at CR
  rw [hL]
  clear hL hK4 hK5 hg hs hr
  go_enter Try.func20, Try.ntmps20
  go_upto_region 1 with fail
  refine cut_world (fun X => Whole X w.heap.size 31 L ∧ Below w.heap.size w X) ⟨whole_new _ _ rfl, below_alloc (Below.refl _ _) _⟩ ?_
  rintro W ⟨k1, kb⟩
  generalize hB : w.heap.size = B at k1 kb ⊢
  have HB := Lib.hid hB
  have hc0 : W.cell? ⟨B, 0, none⟩ = some (.int .u32 (s : Nat)) := (k1.cell 0).trans HL0.out
  have hc1 : W.cell? ⟨B, 1, none⟩ = some (.int .u32 (r : Nat)) := (k1.cell 1).trans HL1.out
  have K1 := Lib.hid k1
  have KB := Lib.hid kb
  clear k1 kb hB
  refine region_start (fun X => Below W.heap.size W X) (by kernel_rfl) (below_drewN (Below.refl _ _) 1) ?_
  intro w0 hS
  refine take 0 _ rfl (by kernel_rfl) (by kernel_rfl) (by kernel_rfl) (fun _ _ _ h => h) (by rfl) hS (by intro w _; go_simp; with_reducible rfl) ?_
  try simp only [Act.put, List.setIfInBounds_toArray, List.set_cons_zero, List.set_cons_succ]
  refine take 1 _ rfl (by kernel_rfl) (by kernel_rfl) (by kernel_rfl) (fun _ _ _ h => h) (by rfl) hS (by intro w hw; have hcl := (hw.cell (p := ⟨B, 0, none⟩) K1.out.lt).trans hc0; go_simp; with_reducible rfl) ?_
  try simp only [Act.put, List.setIfInBounds_toArray, List.set_cons_zero, List.set_cons_succ]
  refine take 3 _ rfl (by kernel_rfl) (by kernel_rfl) (by kernel_rfl) (fun _ _ _ h => h) (by rfl) hS (by intro w _; go_simp; with_reducible rfl) ?_
  try simp only [Act.put, List.setIfInBounds_toArray, List.set_cons_zero, List.set_cons_succ]
  refine take 4 _ rfl (by kernel_rfl) (by kernel_rfl) (by kernel_rfl) (fun _ _ _ h => h) (by rfl) hS (by intro w hw; have hcl := (hw.cell (p := ⟨B, 1, none⟩) K1.out.lt).trans hc1; go_simp; with_reducible rfl) ?_
  try simp only [Act.put, List.setIfInBounds_toArray, List.set_cons_zero, List.set_cons_succ]
  refine Float.float (W := W) [(2, 7, .is (.agg K4)), (5, 10, .is (.agg K5)), (6, 3, .row 109 (byteCells (fun _ => 0) 4).toArray), (7, 4, .row 109 (byteCells (fun _ => 0) 4).toArray)] [2, 5, 6, 7] 2 rfl (by rfl) (by kernel_rfl) (by kernel_rfl) (by kernel_rfl) (by kernel_rfl) (by kernel_rfl) (fun γ => rfl) hS (fun _ h => h) ?_ ?_
  · intro γ
    simp only [Float.puts, Act.put, List.setIfInBounds_toArray, List.set_cons_zero, List.set_cons_succ]
    refine ⟨?_, ?_, ?_, ?_, trivial⟩
    · exact ⟨_, _, rfl, Float.does_call 53 (#[.int .u32 s]) (by intro w; go_simp; try with_reducible rfl) (fun w hw => CP.out w)⟩
    · exact ⟨_, _, rfl, Float.does_call 53 (#[.int .u32 r]) (by intro w; go_simp; try with_reducible rfl) (fun w hw => CR.out w)⟩
    · exact ⟨_, _, rfl, fun w => by go_simp; try rfl⟩
    · exact ⟨_, _, rfl, fun w => by go_simp; try rfl⟩
  · intro γ v hS hrows hne
    simp only [Float.puts, Act.put, List.setIfInBounds_toArray, List.set_cons_zero, List.set_cons_succ]
    obtain ⟨⟨hge3, hg3⟩, ⟨hge4, hg4⟩, -⟩ := hrows
    have hne3_4 := hne 6 7 rfl rfl (by decide) (by decide) (by decide)
    clear hne
    generalize γ 6 = b3 at *
    have Hg3 := Lib.hid hg3
    clear hg3
    generalize γ 7 = b4 at *
    have Hg4 := Lib.hid hg4
    clear hg4
    clear γ
    have HZ := Lib.hid (show (byteCells (fun _ => 0) 4).toArray.size = 4 by rw [List.size_toArray, byteCells_length])
    refine alone 8 rfl (by kernel_rfl) (by rfl) ?_
    intro K hK
    refine wp_store_row 109 (.tmp 3) (.tmp 7) rfl b3 K4 (by rfl) (by rfl) 109 _ Hg3.out (by rw [HK4S.out]; kernel_rfl) (by rw [HK4S.out, HZ.out]) HK41.out ?_
    refine hK.out _ _ (below_setRow hS hge3 _) ?_
    clear hK K
    try simp only [Act.put]
    refine alone 9 rfl (by kernel_rfl) (by rfl) ?_
    intro K hK
    refine wp_store_row 109 (.tmp 4) (.tmp 10) rfl b4 K5 (by rfl) (by rfl) 109 _ (Whole.farRow Hg4.out (g := b3) (by omega) _) (by rw [HK5S.out]; kernel_rfl) (by rw [HK5S.out, HZ.out]) HK51.out ?_
    refine hK.out _ _ (below_setRow (below_setRow hS hge3 _) hge4 _) ?_
    clear hK K
    try simp only [Act.put]
    refine region_end (by kernel_rfl) ?_
    have hlw := K1.out.lt
    refine cut_post (F := Exit.then _ _) (fun X => Whole X B 31 L ∧ Whole X b3 109 (byteCells (byteAt s) 4).toArray ∧ Whole X b4 109 (byteCells (byteAt r) 4).toArray ∧ Below B w X ∧ B < b3 ∧ B < b4) ⟨?_, ?_, ?_, ?_, by omega, by omega⟩ ?_
    · exact Whole.farRow (Whole.farRow (K1.out.below hS K1.out.lt) (by omega) _) (by omega) _
    · rw [HK4.out]
      exact Whole.farRow (setRow_heap _ _ _ _ _ _ Hg3.out) (by omega) _
    · rw [HK5.out]
      exact setRow_heap _ _ _ _ _ _ (Whole.farRow Hg4.out (g := b3) (by omega) _)
    · exact below_setRow (below_setRow (KB.out.trans (hS.mono (Nat.le_of_lt hlw))) (by omega) _) (by omega) _
    clear Hg3 Hg4 hge3 hge4 hS hc0 hc1
    rintro X ⟨q1, q2, q3, qb, hlt, hlt5⟩
    generalize b3 = g4 at q2 hlt ⊢
    generalize b4 = g5 at q3 hlt5 ⊢
    have Q1 := Lib.hid (show Whole X B 31 (two s r g 80).toArray by rw [HL.out]; exact q1)
    have Q2 := Lib.hid q2
    have Q3 := Lib.hid q3
    have QB := Lib.hid qb
    clear q1 q2 q3 qb K1 KB
    go_upto_region 2 with fail
    refine region_start (fun Y => Below X.heap.size X Y) (by kernel_rfl) (below_drewN (Below.refl _ _) 1) ?_
    intro w2 hS
    refine take 0 _ rfl (by kernel_rfl) (by kernel_rfl) (by kernel_rfl) (fun _ _ _ h => h) (by rfl) hS (by intro w _; go_simp; with_reducible rfl) ?_
    try simp only [Act.put, List.setIfInBounds_toArray, List.set_cons_zero, List.set_cons_succ]
    refine take 1 _ rfl (by kernel_rfl) (by kernel_rfl) (by kernel_rfl) (fun _ _ _ h => h) (by rfl) hS (by intro w _; go_simp; with_reducible rfl) ?_
    try simp only [Act.put, List.setIfInBounds_toArray, List.set_cons_zero, List.set_cons_succ]
    refine take 2 _ rfl (by kernel_rfl) (by kernel_rfl) (by kernel_rfl) (fun _ _ _ h => h) (by rfl) hS (by intro w _; go_simp; with_reducible rfl) ?_
    try simp only [Act.put, List.setIfInBounds_toArray, List.set_cons_zero, List.set_cons_succ]
    refine take 3 _ rfl (by kernel_rfl) (by kernel_rfl) (by kernel_rfl) (fun _ _ _ h => h) (by rfl) hS (by intro w _; go_simp; with_reducible rfl) ?_
    try simp only [Act.put, List.setIfInBounds_toArray, List.set_cons_zero, List.set_cons_succ]
    refine take 4 _ rfl (by kernel_rfl) (by kernel_rfl) (by kernel_rfl) (fun _ _ _ h => h) (by rfl) hS (by intro w _; go_simp; with_reducible rfl) ?_
    try simp only [Act.put, List.setIfInBounds_toArray, List.set_cons_zero, List.set_cons_succ]
    refine take 5 _ rfl (by kernel_rfl) (by kernel_rfl) (by kernel_rfl) (fun _ _ _ h => h) (by rfl) hS (by intro w _; go_simp; with_reducible rfl) ?_
    try simp only [Act.put, List.setIfInBounds_toArray, List.set_cons_zero, List.set_cons_succ]
    refine take 6 _ rfl (by kernel_rfl) (by kernel_rfl) (by kernel_rfl) (fun _ _ _ h => h) (by rfl) hS (by intro w _; go_simp; with_reducible rfl) ?_
    try simp only [Act.put, List.setIfInBounds_toArray, List.set_cons_zero, List.set_cons_succ]
    refine take 7 _ rfl (by kernel_rfl) (by kernel_rfl) (by kernel_rfl) (fun _ _ _ h => h) (by rfl) hS (by intro w _; go_simp; with_reducible rfl) ?_
    try simp only [Act.put, List.setIfInBounds_toArray, List.set_cons_zero, List.set_cons_succ]
    refine take 8 _ rfl (by kernel_rfl) (by kernel_rfl) (by kernel_rfl) (fun _ _ _ h => h) (by rfl) hS (by intro w _; go_simp; with_reducible rfl) ?_
    try simp only [Act.put, List.setIfInBounds_toArray, List.set_cons_zero, List.set_cons_succ]
    refine take 9 _ rfl (by kernel_rfl) (by kernel_rfl) (by kernel_rfl) (fun _ _ _ h => h) (by rfl) hS (by intro w _; go_simp; with_reducible rfl) ?_
    try simp only [Act.put, List.setIfInBounds_toArray, List.set_cons_zero, List.set_cons_succ]
    refine alone 10 rfl (by kernel_rfl) (by rfl) ?_
    intro K hK
    go_simp
    refine hK.out _ _ (hS.alloc hS.size _) ?_
    clear hK K
    try simp only [Act.put, List.setIfInBounds_toArray, List.set_cons_zero, List.set_cons_succ]
    refine cut_any (fun Y => Whole Y w2.heap.size 36 (List.map Part.val [(⟨some ⟨g4, 0, none⟩, 4, 4, byteAt s⟩ : Part), (⟨some ⟨g5, 0, none⟩, 4, 4, byteAt r⟩ : Part), (⟨some ⟨B, 2, none⟩, 32, 32, fun i => g (0 + i)⟩ : Part), (⟨some ⟨B, 34, none⟩, 16, 16, fun i => g (32 + i)⟩ : Part), (⟨some ⟨B, 50, none⟩, 16, 16, fun i => g (48 + i)⟩ : Part), (⟨some ⟨B, 66, none⟩, 16, 16, fun i => g (64 + i)⟩ : Part)]).toArray ∧ Below X.heap.size X Y) ⟨Whole.new _ _ _, hS.alloc hS.size _⟩ ?_
    rintro w3 ⟨p1, p2⟩
    generalize w2.heap.size = h at p1 ⊢
    have HPA := parts_of p1 (by
      intro p hp
      simp only [List.mem_cons, List.not_mem_nil, or_false] at hp
      rcases hp with rfl | rfl | rfl | rfl | rfl | rfl
      · exact ⟨Nat.le_refl _, Rd.of_whole (Q2.out.below p2 Q2.out.lt), fun i => byteAt_lt _ _⟩
      · exact ⟨Nat.le_refl _, Rd.of_whole (Q3.out.below p2 Q3.out.lt), fun i => byteAt_lt _ _⟩
      · exact ⟨Nat.le_refl _, rd_tail (pre := [.int .u32 (s : Nat), .int .u32 (r : Nat)]) (Q1.out.below p2 Q1.out.lt) _ 0 32 rfl (by omega), fun i => HG.out _⟩
      · exact ⟨Nat.le_refl _, rd_tail (pre := [.int .u32 (s : Nat), .int .u32 (r : Nat)]) (Q1.out.below p2 Q1.out.lt) _ 32 16 rfl (by omega), fun i => HG.out _⟩
      · exact ⟨Nat.le_refl _, rd_tail (pre := [.int .u32 (s : Nat), .int .u32 (r : Nat)]) (Q1.out.below p2 Q1.out.lt) _ 48 16 rfl (by omega), fun i => HG.out _⟩
      · exact ⟨Nat.le_refl _, rd_tail (pre := [.int .u32 (s : Nat), .int .u32 (r : Nat)]) (Q1.out.below p2 Q1.out.lt) _ 64 16 rfl (by omega), fun i => HG.out _⟩
      )
    have CX : Calls Try.prog 55 #[.int .u32 2, .slice (some ⟨h, 0, none⟩) 6 6] w3 fun e w' => ∃ A c, e = .returned (.slice A 92 c) ∧ Own w' w3.heap.size 5 A 92 c (msgF 2 (textOf [(⟨some ⟨g4, 0, none⟩, 4, 4, byteAt s⟩ : Part), (⟨some ⟨g5, 0, none⟩, 4, 4, byteAt r⟩ : Part), (⟨some ⟨B, 2, none⟩, 32, 32, fun i => g (0 + i)⟩ : Part), (⟨some ⟨B, 34, none⟩, 16, 16, fun i => g (32 + i)⟩ : Part), (⟨some ⟨B, 50, none⟩, 16, 16, fun i => g (48 + i)⟩ : Part), (⟨some ⟨B, 66, none⟩, 16, 16, fun i => g (64 + i)⟩ : Part)])) ∧ Below w3.heap.size w3 w' :=
      put_any 2 (by omega) h 0 6 [(⟨some ⟨g4, 0, none⟩, 4, 4, byteAt s⟩ : Part), (⟨some ⟨g5, 0, none⟩, 4, 4, byteAt r⟩ : Part), (⟨some ⟨B, 2, none⟩, 32, 32, fun i => g (0 + i)⟩ : Part), (⟨some ⟨B, 34, none⟩, 16, 16, fun i => g (32 + i)⟩ : Part), (⟨some ⟨B, 50, none⟩, 16, 16, fun i => g (48 + i)⟩ : Part), (⟨some ⟨B, 66, none⟩, 16, 16, fun i => g (64 + i)⟩ : Part)] (by simp only [lenAll]; omega) (by simp only [List.length_cons, List.length_nil]; omega) (no_nil (by intro p hp; simp only [List.mem_cons, List.not_mem_nil, or_false] at hp; rcases hp with rfl | rfl | rfl | rfl | rfl | rfl <;> simp)) w3 HPA
    have HCX := Lib.hid CX
    clear CX HPA hS p1
    have hS := p2
    clear p2
    refine alone 11 rfl (by kernel_rfl) (by rfl) ?_
    intro K hK
    go_simp
    refine HCX.out.mono ?_
    rintro e w4 ⟨A, c, rfl, ho, hb⟩
    go_simp
    have hsz := Nat.le_trans (Nat.le_of_lt Q1.out.lt) hS.size
    replace hS := below_trans hS hb
    refine hK.out _ _ hS ?_
    clear hK hb K
    try simp only [Act.put, List.setIfInBounds_toArray, List.set_cons_zero, List.set_cons_succ]
    refine alone 12 rfl (by kernel_rfl) (by rfl) ?_
    intro K hK
    go_simp
    refine hK.out _ _ hS ?_
    clear hK K
    try simp only [Act.put, List.setIfInBounds_toArray, List.set_cons_zero, List.set_cons_succ]
    refine region_end (by kernel_rfl) ?_
    have HO := Lib.hid ((ho.more hsz).congr (textAnswer s r g g4 g5 B))
    have HS := Lib.hid (QB.out.trans (hS.mono (Nat.le_of_lt Q1.out.lt)))
    clear ho hS HCX
    go_wp2_with fail
    go_ret
    exact ⟨A, c, rfl, by rw [HB.out]; exact HO.out, by rw [HB.out]; exact HS.out⟩

end Wire
end Go.Proofs.Ytfbkppabgogdgaa
