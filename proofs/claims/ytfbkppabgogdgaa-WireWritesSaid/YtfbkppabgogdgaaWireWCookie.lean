/- WriteCookie of package wire. -/
import Derived.Test.YtfbkppabgogdgaaWireMsg
import Derived.Test.YtfbkppabgogdgaaFloatK
namespace Go.Proofs.Ytfbkppabgogdgaa
namespace Wire
open Go.ChangeShapes Go.WideShapes Go.ChangeAt Go.RowKit
open Num Mem Words Ref Cuts Chacha Quiet

set_option maxRecDepth 100000 in
theorem textCookie (s : Nat) (g : Nat → Nat) (g4 B : Nat) (i : Nat) (h : i < 64) : msgF 3 (textOf [⟨some ⟨g4, 0, none⟩, 4, 4, byteAt s⟩, ⟨some ⟨B, 1, none⟩, 24, 24, fun i => g (0 + i)⟩, ⟨some ⟨B, 25, none⟩, 32, 32, fun i => g (24 + i)⟩]) i = out1 3 s g i := by
  unfold msgF out1
  by_cases h1 : i < 4
  · rw [if_pos h1, if_pos h1]
  rw [if_neg h1, if_neg h1]
  simp only [textOf]
  (repeat' split) <;> first | rfl | omega | (congr 1; omega)

set_option maxRecDepth 100000 in
set_option maxHeartbeats 4000000 in
theorem writeCookie_any (s : Nat) (g : Nat → Nat) (hs : s < 4294967296) (hg : ∀ i, g i < 256) (w : World) :
    Calls Try.prog 22 #[.agg (one s g 56).toArray] w fun e w' => ∃ A c, e = .returned (.slice A 64 c) ∧ Own w' w.heap.size 5 A 64 c (out1 3 s g) ∧ Below w.heap.size w w' := by
  have CP := Lib.hid (fun w => put32_any s hs w)
  have HG := Lib.hid hg
  obtain ⟨L, hL⟩ : ∃ L, (one s g 56).toArray = L := ⟨_, rfl⟩
  have HL := Lib.hid hL
  have HL0 := Lib.hid (show L[0]? = some (.int .u32 (s : Nat)) by rw [← hL]; rfl)
  obtain ⟨K4, hK4⟩ : ∃ K, (byteCells (byteAt s) 4).toArray = K := ⟨_, rfl⟩
  have HK4 := Lib.hid hK4
  have HK4S := Lib.hid (show K4.size = 4 by rw [← hK4, List.size_toArray, byteCells_length])
  have HK41 := Lib.hid (show K4.all (·.oneCell') = true by rw [← hK4]; exact bytes_one _ _)
  rw [hK4] at CP
  rw [hL]
  clear hL hK4 hg hs
  go_enter Try.func22, Try.ntmps22
  go_upto_region 1 with fail
  refine cut_world (fun X => Whole X w.heap.size 34 L ∧ Below w.heap.size w X) ⟨whole_new _ _ rfl, below_alloc (Below.refl _ _) _⟩ ?_
  rintro W ⟨k1, kb⟩
  generalize hB : w.heap.size = B at k1 kb ⊢
  have HB := Lib.hid hB
  have hc0 : W.cell? ⟨B, 0, none⟩ = some (.int .u32 (s : Nat)) := (k1.cell 0).trans HL0.out
  have K1 := Lib.hid k1
  have KB := Lib.hid kb
  clear k1 kb hB
  go_upto_region 2 with (first
    | (go_at_call 53; refine (CP.out _).mono ?_; rintro e w1 ⟨rfl, hb1⟩; have HB1 := Lib.hid hb1; clear hb1)
    | (refine wpList_store_row rfl 109 (.tmp 3) (.tmp 6) rfl w1.heap.size K4 rfl rfl 109 _ (Whole.new _ _ _) (by rw [HK4S.out]; kernel_rfl) (by rw [HK4S.out]; rfl) HK41.out ?_))
  have hlt := (K1.out.below HB1.out K1.out.lt).lt
  refine cut_world (fun X => Whole X B 34 L ∧ Whole X w1.heap.size 109 (byteCells (byteAt s) 4).toArray ∧ Below B w X) ⟨?_, ?_, ?_⟩ ?_
  · exact Whole.farRow ((K1.out.below HB1.out K1.out.lt).alloc _) (by omega) _
  · rw [HK4.out]
    exact setRow_heap _ _ _ _ _ _ (Whole.new _ _ _)
  · exact below_setRow (below_alloc' (KB.out.trans (HB1.out.mono (Nat.le_of_lt K1.out.lt))) (Nat.le_of_lt hlt) _) (Nat.le_of_lt hlt) _
  rintro X ⟨q1, q2, qb⟩
  generalize w1.heap.size = g4 at q2 hlt ⊢
  clear hc0 HB1
  have Q1 := Lib.hid (show Whole X B 34 (one s g 56).toArray by rw [HL.out]; exact q1)
  have Q2 := Lib.hid q2
  have QB := Lib.hid qb
  clear q1 q2 qb K1 KB
  refine region_start (fun Y => Below X.heap.size X Y) (by kernel_rfl) (below_drewN (Below.refl _ _) 1) ?_
  intro w2 hS
  refine take 0 _ rfl (by kernel_rfl) (by kernel_rfl) (by kernel_rfl) (fun _ _ _ h => h) (by rfl) hS (by intro w _; go_simp; with_reducible rfl) ?_
  try simp only [Act.put, List.setIfInBounds_toArray, List.set_cons_zero, List.set_cons_succ]
  refine take 1 _ rfl (by kernel_rfl) (by kernel_rfl) (by kernel_rfl) (fun _ _ _ h => h) (by rfl) hS (by intro w _; go_simp; with_reducible rfl) ?_
  try simp only [Act.put, List.setIfInBounds_toArray, List.set_cons_zero, List.set_cons_succ]
  refine take 2 _ rfl (by kernel_rfl) (by kernel_rfl) (by kernel_rfl) (fun _ _ _ h => h) (by rfl) hS (by intro w _; go_simp; with_reducible rfl) ?_
  try simp only [Act.put, List.setIfInBounds_toArray, List.set_cons_zero, List.set_cons_succ]
  refine take 3 _ rfl (by kernel_rfl) (by kernel_rfl) (by kernel_rfl) (fun _ _ _ h => h) (by rfl) hS (by intro w _; go_simp; with_reducible rfl) ?_
  try simp only [Act.put, List.setIfInBounds_toArray, List.set_cons_zero, List.set_cons_succ]
  refine take 4 _ rfl (by kernel_rfl) (by kernel_rfl) (by kernel_rfl) (fun _ _ _ h => h) (by rfl) hS (by intro w _; go_simp; with_reducible rfl) ?_
  try simp only [Act.put, List.setIfInBounds_toArray, List.set_cons_zero, List.set_cons_succ]
  refine alone 5 rfl (by kernel_rfl) (by rfl) ?_
  intro K hK
  go_simp
  refine hK.out _ _ (hS.alloc hS.size _) ?_
  clear hK K
  try simp only [Act.put, List.setIfInBounds_toArray, List.set_cons_zero, List.set_cons_succ]
  refine cut_any (fun Y => Whole Y w2.heap.size 36 (List.map Part.val [(⟨some ⟨g4, 0, none⟩, 4, 4, byteAt s⟩ : Part), (⟨some ⟨B, 1, none⟩, 24, 24, fun i => g (0 + i)⟩ : Part), (⟨some ⟨B, 25, none⟩, 32, 32, fun i => g (24 + i)⟩ : Part)]).toArray ∧ Below X.heap.size X Y) ⟨Whole.new _ _ _, hS.alloc hS.size _⟩ ?_
  rintro w3 ⟨p1, p2⟩
  generalize w2.heap.size = h at p1 ⊢
  have HPA := parts_of p1 (by
    intro p hp
    simp only [List.mem_cons, List.not_mem_nil, or_false] at hp
    rcases hp with rfl | rfl | rfl
    · exact ⟨Nat.le_refl _, Rd.of_whole (Q2.out.below p2 Q2.out.lt), fun i => byteAt_lt _ _⟩
    · exact ⟨Nat.le_refl _, rd_tail (pre := [.int .u32 (s : Nat)]) (Q1.out.below p2 Q1.out.lt) _ 0 24 rfl (by omega), fun i => HG.out _⟩
    · exact ⟨Nat.le_refl _, rd_tail (pre := [.int .u32 (s : Nat)]) (Q1.out.below p2 Q1.out.lt) _ 24 32 rfl (by omega), fun i => HG.out _⟩
    )
  have CX : Calls Try.prog 55 #[.int .u32 3, .slice (some ⟨h, 0, none⟩) 3 3] w3 fun e w' => ∃ A c, e = .returned (.slice A 64 c) ∧ Own w' w3.heap.size 5 A 64 c (msgF 3 (textOf [(⟨some ⟨g4, 0, none⟩, 4, 4, byteAt s⟩ : Part), (⟨some ⟨B, 1, none⟩, 24, 24, fun i => g (0 + i)⟩ : Part), (⟨some ⟨B, 25, none⟩, 32, 32, fun i => g (24 + i)⟩ : Part)])) ∧ Below w3.heap.size w3 w' :=
    put_any 3 (by omega) h 0 3 [(⟨some ⟨g4, 0, none⟩, 4, 4, byteAt s⟩ : Part), (⟨some ⟨B, 1, none⟩, 24, 24, fun i => g (0 + i)⟩ : Part), (⟨some ⟨B, 25, none⟩, 32, 32, fun i => g (24 + i)⟩ : Part)] (by simp only [lenAll]; omega) (by simp only [List.length_cons, List.length_nil]; omega) (no_nil (by intro p hp; simp only [List.mem_cons, List.not_mem_nil, or_false] at hp; rcases hp with rfl | rfl | rfl <;> simp)) w3 HPA
  have HCX := Lib.hid CX
  clear CX HPA hS p1
  have hS := p2
  clear p2
  refine alone 6 rfl (by kernel_rfl) (by rfl) ?_
  intro K hK
  go_simp
  refine HCX.out.mono ?_
  rintro e w4 ⟨A, c, rfl, ho, hb⟩
  go_simp
  have hsz := Nat.le_trans (Nat.le_of_lt Q1.out.lt) hS.size
  replace hS := below_trans hS hb
  refine hK.out _ _ hS ?_
  clear hK hb K
  try simp only [Act.put, List.setIfInBounds_toArray, List.set_cons_zero, List.set_cons_succ]
  refine alone 7 rfl (by kernel_rfl) (by rfl) ?_
  intro K hK
  go_simp
  refine hK.out _ _ hS ?_
  clear hK K
  try simp only [Act.put, List.setIfInBounds_toArray, List.set_cons_zero, List.set_cons_succ]
  refine region_end (by kernel_rfl) ?_
  have HO := Lib.hid ((ho.more hsz).congr (textCookie s g g4 B))
  have HS := Lib.hid (QB.out.trans (hS.mono (Nat.le_of_lt Q1.out.lt)))
  clear ho hS HCX
  go_wp2_with fail
  go_ret
  exact ⟨A, c, rfl, by rw [HB.out]; exact HO.out, by rw [HB.out]; exact HS.out⟩

end Wire
end Go.Proofs.Ytfbkppabgogdgaa
