/- RestHello, RestAnswer, RestCookie of the law's package of wire. -/
import Derived.Test.YtfbkppabgogdgaaWireMsg
import Derived.Test.YtfbkppabgogdgaaWireJoin
namespace Go.Proofs.Ytfbkppabgogdgaa
namespace RefW
open Go.ChangeShapes Go.WideShapes Go.ChangeAt Go.RowKit
open Num Mem Words Ref Cuts Chacha Quiet Wire

set_option maxRecDepth 100000 in
theorem restHelloText (g : Nat → Nat) (B : Nat) (i : Nat) (h : i < 140) : textOf [(⟨some ⟨B, 1, none⟩, 32, 32, fun i => g (0 + i)⟩ : Part), (⟨some ⟨B, 33, none⟩, 48, 48, fun i => g (32 + i)⟩ : Part), (⟨some ⟨B, 81, none⟩, 28, 28, fun i => g (80 + i)⟩ : Part), (⟨some ⟨B, 109, none⟩, 16, 16, fun i => g (108 + i)⟩ : Part), (⟨some ⟨B, 125, none⟩, 16, 16, fun i => g (124 + i)⟩ : Part)] i = g i := by
  simp only [textOf]
  (repeat' split) <;> first | rfl | omega | (congr 1; omega)

set_option maxRecDepth 100000 in
set_option maxHeartbeats 4000000 in
theorem restHello_any (s : Nat) (g : Nat → Nat) (hg : ∀ i, g i < 256) (w : World) :
    Calls Try.prog 19 #[.agg (one s g 140).toArray] w fun e w' => ∃ A c, e = .returned (.slice A 140 c) ∧ Own w' w.heap.size 5 A 140 c g ∧ Below w.heap.size w w' := by
  have HG := Lib.hid hg
  obtain ⟨L, hL⟩ : ∃ L, (one s g 140).toArray = L := ⟨_, rfl⟩
  have HL := Lib.hid hL
  rw [hL]
  clear hL hg
  go_enter Try.func19, Try.ntmps19
  go_upto_region 1 with fail
  refine cut_world (fun X => Whole X w.heap.size 29 L ∧ Below w.heap.size w X) ⟨whole_new _ _ rfl, below_alloc (Below.refl _ _) _⟩ ?_
  rintro X ⟨k1, kb⟩
  generalize hB : w.heap.size = B at k1 kb ⊢
  have HB := Lib.hid hB
  have Q1 := Lib.hid (show Whole X B 29 (one s g 140).toArray by rw [HL.out]; exact k1)
  have QB := Lib.hid kb
  clear k1 kb hB
  refine region_start (fun Y => Below X.heap.size X Y) (by kernel_rfl) (below_drewN (Below.refl _ _) 1) ?_
  intro w2 hS
  refine take 0 _ rfl (by kernel_rfl) (by kernel_rfl) (by kernel_rfl) (fun _ _ _ h => h) (by rfl) hS (by intro w _; go_simp; with_reducible rfl) ?_
  try simp only [Act.put, List.setIfInBounds_toArray, List.set_cons_zero, List.set_cons_succ]
  refine take 1 _ rfl (by kernel_rfl) (by kernel_rfl) (by kernel_rfl) (fun _ _ _ h => h) (by rfl) hS (by intro w _; go_simp; with_reducible rfl) ?_
  try simp only [Act.put, List.setIfInBounds_toArray, List.set_cons_zero, List.set_cons_succ]
  refine take 2 _ rfl (by kernel_rfl) (by kernel_rfl) (by kernel_rfl) (fun _ _ _ h => h) (by rfl) hS (by intro w _; go_simp; with_reducible rfl) ?_
  try simp only [Act.put, List.setIfInBounds_toArray, List.set_cons_zero, List.set_cons_succ]
  refine take 3 _ rfl (by kernel_rfl) (by kernel_rfl) (by kernel_rfl) (fun _ _ _ h => h) (by rfl) hS (by intro w _; go_simp; with_reducible rfl) ?_
  try simp only [Act.put, List.setIfInBounds_toArray, List.set_cons_zero, List.set_cons_succ]
  refine take 4 _ rfl (by kernel_rfl) (by kernel_rfl) (by kernel_rfl) (fun _ _ _ h => h) (by rfl) hS (by intro w _; go_simp; with_reducible rfl) ?_
  try simp only [Act.put, List.setIfInBounds_toArray, List.set_cons_zero, List.set_cons_succ]
  refine take 5 _ rfl (by kernel_rfl) (by kernel_rfl) (by kernel_rfl) (fun _ _ _ h => h) (by rfl) hS (by intro w _; go_simp; with_reducible rfl) ?_
  try simp only [Act.put, List.setIfInBounds_toArray, List.set_cons_zero, List.set_cons_succ]
  refine take 6 _ rfl (by kernel_rfl) (by kernel_rfl) (by kernel_rfl) (fun _ _ _ h => h) (by rfl) hS (by intro w _; go_simp; with_reducible rfl) ?_
  try simp only [Act.put, List.setIfInBounds_toArray, List.set_cons_zero, List.set_cons_succ]
  refine take 7 _ rfl (by kernel_rfl) (by kernel_rfl) (by kernel_rfl) (fun _ _ _ h => h) (by rfl) hS (by intro w _; go_simp; with_reducible rfl) ?_
  try simp only [Act.put, List.setIfInBounds_toArray, List.set_cons_zero, List.set_cons_succ]
  refine take 8 _ rfl (by kernel_rfl) (by kernel_rfl) (by kernel_rfl) (fun _ _ _ h => h) (by rfl) hS (by intro w _; go_simp; with_reducible rfl) ?_
  try simp only [Act.put, List.setIfInBounds_toArray, List.set_cons_zero, List.set_cons_succ]
  refine take 9 _ rfl (by kernel_rfl) (by kernel_rfl) (by kernel_rfl) (fun _ _ _ h => h) (by rfl) hS (by intro w _; go_simp; with_reducible rfl) ?_
  try simp only [Act.put, List.setIfInBounds_toArray, List.set_cons_zero, List.set_cons_succ]
  refine alone 10 rfl (by kernel_rfl) (by rfl) ?_
  intro K hK
  go_simp
  refine hK.out _ _ (hS.alloc hS.size _) ?_
  clear hK K
  try simp only [Act.put, List.setIfInBounds_toArray, List.set_cons_zero, List.set_cons_succ]
  refine cut_any (fun Y => Whole Y w2.heap.size 36 (List.map Part.val [(⟨some ⟨B, 1, none⟩, 32, 32, fun i => g (0 + i)⟩ : Part), (⟨some ⟨B, 33, none⟩, 48, 48, fun i => g (32 + i)⟩ : Part), (⟨some ⟨B, 81, none⟩, 28, 28, fun i => g (80 + i)⟩ : Part), (⟨some ⟨B, 109, none⟩, 16, 16, fun i => g (108 + i)⟩ : Part), (⟨some ⟨B, 125, none⟩, 16, 16, fun i => g (124 + i)⟩ : Part)]).toArray ∧ Below X.heap.size X Y) ⟨Whole.new _ _ _, hS.alloc hS.size _⟩ ?_
  rintro w3 ⟨p1, p2⟩
  generalize w2.heap.size = h at p1 ⊢
  have HPA := parts_of p1 (by
    intro p hp
    simp only [List.mem_cons, List.not_mem_nil, or_false] at hp
    rcases hp with rfl | rfl | rfl | rfl | rfl
    · exact ⟨Nat.le_refl _, rd_tail (pre := [.int .u32 (s : Nat)]) (Q1.out.below p2 Q1.out.lt) _ 0 32 rfl (by omega), fun i => HG.out _⟩
    · exact ⟨Nat.le_refl _, rd_tail (pre := [.int .u32 (s : Nat)]) (Q1.out.below p2 Q1.out.lt) _ 32 48 rfl (by omega), fun i => HG.out _⟩
    · exact ⟨Nat.le_refl _, rd_tail (pre := [.int .u32 (s : Nat)]) (Q1.out.below p2 Q1.out.lt) _ 80 28 rfl (by omega), fun i => HG.out _⟩
    · exact ⟨Nat.le_refl _, rd_tail (pre := [.int .u32 (s : Nat)]) (Q1.out.below p2 Q1.out.lt) _ 108 16 rfl (by omega), fun i => HG.out _⟩
    · exact ⟨Nat.le_refl _, rd_tail (pre := [.int .u32 (s : Nat)]) (Q1.out.below p2 Q1.out.lt) _ 124 16 rfl (by omega), fun i => HG.out _⟩
    )
  have CX : Calls Try.prog 56 #[.slice (some ⟨h, 0, none⟩) 5 5] w3 fun e w' => ∃ A c, e = .returned (.slice A 140 c) ∧ Own w' w3.heap.size 5 A 140 c (textOf [(⟨some ⟨B, 1, none⟩, 32, 32, fun i => g (0 + i)⟩ : Part), (⟨some ⟨B, 33, none⟩, 48, 48, fun i => g (32 + i)⟩ : Part), (⟨some ⟨B, 81, none⟩, 28, 28, fun i => g (80 + i)⟩ : Part), (⟨some ⟨B, 109, none⟩, 16, 16, fun i => g (108 + i)⟩ : Part), (⟨some ⟨B, 125, none⟩, 16, 16, fun i => g (124 + i)⟩ : Part)]) ∧ Below w3.heap.size w3 w' :=
    join_any h 0 5 [(⟨some ⟨B, 1, none⟩, 32, 32, fun i => g (0 + i)⟩ : Part), (⟨some ⟨B, 33, none⟩, 48, 48, fun i => g (32 + i)⟩ : Part), (⟨some ⟨B, 81, none⟩, 28, 28, fun i => g (80 + i)⟩ : Part), (⟨some ⟨B, 109, none⟩, 16, 16, fun i => g (108 + i)⟩ : Part), (⟨some ⟨B, 125, none⟩, 16, 16, fun i => g (124 + i)⟩ : Part)] (by simp only [lenAll]; omega) (by simp only [List.length_cons, List.length_nil]; omega) (no_nil (by intro p hp; simp only [List.mem_cons, List.not_mem_nil, or_false] at hp; rcases hp with rfl | rfl | rfl | rfl | rfl <;> simp)) w3 HPA
  have HCX := Lib.hid CX
  clear CX HPA hS p1
  have hS := p2
  clear p2
  refine alone 11 rfl (by kernel_rfl) (by rfl) ?_
  intro K hK
  go_simp
  refine HCX.out.mono ?_
  rintro e w4 ⟨A, c, rfl, ho, hb⟩
  go_simp
  have hsz := Nat.le_trans (Nat.le_of_lt Q1.out.lt) hS.size
  replace hS := below_trans hS hb
  refine hK.out _ _ hS ?_
  clear hK hb K
  try simp only [Act.put, List.setIfInBounds_toArray, List.set_cons_zero, List.set_cons_succ]
  refine alone 12 rfl (by kernel_rfl) (by rfl) ?_
  intro K hK
  go_simp
  refine hK.out _ _ hS ?_
  clear hK K
  try simp only [Act.put, List.setIfInBounds_toArray, List.set_cons_zero, List.set_cons_succ]
  refine region_end (by kernel_rfl) ?_
  have HO := Lib.hid ((ho.more hsz).congr (restHelloText g B))
  have HS := Lib.hid (QB.out.trans (hS.mono (Nat.le_of_lt Q1.out.lt)))
  clear ho hS HCX
  go_wp2_with fail
  go_ret
  exact ⟨A, c, rfl, by rw [HB.out]; exact HO.out, by rw [HB.out]; exact HS.out⟩

set_option maxRecDepth 100000 in
theorem restAnswerText (g : Nat → Nat) (B : Nat) (i : Nat) (h : i < 80) : textOf [(⟨some ⟨B, 2, none⟩, 32, 32, fun i => g (0 + i)⟩ : Part), (⟨some ⟨B, 34, none⟩, 16, 16, fun i => g (32 + i)⟩ : Part), (⟨some ⟨B, 50, none⟩, 16, 16, fun i => g (48 + i)⟩ : Part), (⟨some ⟨B, 66, none⟩, 16, 16, fun i => g (64 + i)⟩ : Part)] i = g i := by
  simp only [textOf]
  (repeat' split) <;> first | rfl | omega | (congr 1; omega)

set_option maxRecDepth 100000 in
set_option maxHeartbeats 4000000 in
theorem restAnswer_any (s r : Nat) (g : Nat → Nat) (hg : ∀ i, g i < 256) (w : World) :
    Calls Try.prog 21 #[.agg (two s r g 80).toArray] w fun e w' => ∃ A c, e = .returned (.slice A 80 c) ∧ Own w' w.heap.size 5 A 80 c g ∧ Below w.heap.size w w' := by
  have HG := Lib.hid hg
  obtain ⟨L, hL⟩ : ∃ L, (two s r g 80).toArray = L := ⟨_, rfl⟩
  have HL := Lib.hid hL
  rw [hL]
  clear hL hg
  go_enter Try.func21, Try.ntmps21
  go_upto_region 1 with fail
  refine cut_world (fun X => Whole X w.heap.size 31 L ∧ Below w.heap.size w X) ⟨whole_new _ _ rfl, below_alloc (Below.refl _ _) _⟩ ?_
  rintro X ⟨k1, kb⟩
  generalize hB : w.heap.size = B at k1 kb ⊢
  have HB := Lib.hid hB
  have Q1 := Lib.hid (show Whole X B 31 (two s r g 80).toArray by rw [HL.out]; exact k1)
  have QB := Lib.hid kb
  clear k1 kb hB
  refine region_start (fun Y => Below X.heap.size X Y) (by kernel_rfl) (below_drewN (Below.refl _ _) 1) ?_
  intro w2 hS
  refine take 0 _ rfl (by kernel_rfl) (by kernel_rfl) (by kernel_rfl) (fun _ _ _ h => h) (by rfl) hS (by intro w _; go_simp; with_reducible rfl) ?_
  try simp only [Act.put, List.setIfInBounds_toArray, List.set_cons_zero, List.set_cons_succ]
  refine take 1 _ rfl (by kernel_rfl) (by kernel_rfl) (by kernel_rfl) (fun _ _ _ h => h) (by rfl) hS (by intro w _; go_simp; with_reducible rfl) ?_
  try simp only [Act.put, List.setIfInBounds_toArray, List.set_cons_zero, List.set_cons_succ]
  refine take 2 _ rfl (by kernel_rfl) (by kernel_rfl) (by kernel_rfl) (fun _ _ _ h => h) (by rfl) hS (by intro w _; go_simp; with_reducible rfl) ?_
  try simp only [Act.put, List.setIfInBounds_toArray, List.set_cons_zero, List.set_cons_succ]
  refine take 3 _ rfl (by kernel_rfl) (by kernel_rfl) (by kernel_rfl) (fun _ _ _ h => h) (by rfl) hS (by intro w _; go_simp; with_reducible rfl) ?_
  try simp only [Act.put, List.setIfInBounds_toArray, List.set_cons_zero, List.set_cons_succ]
  refine take 4 _ rfl (by kernel_rfl) (by kernel_rfl) (by kernel_rfl) (fun _ _ _ h => h) (by rfl) hS (by intro w _; go_simp; with_reducible rfl) ?_
  try simp only [Act.put, List.setIfInBounds_toArray, List.set_cons_zero, List.set_cons_succ]
  refine take 5 _ rfl (by kernel_rfl) (by kernel_rfl) (by kernel_rfl) (fun _ _ _ h => h) (by rfl) hS (by intro w _; go_simp; with_reducible rfl) ?_
  try simp only [Act.put, List.setIfInBounds_toArray, List.set_cons_zero, List.set_cons_succ]
  refine take 6 _ rfl (by kernel_rfl) (by kernel_rfl) (by kernel_rfl) (fun _ _ _ h => h) (by rfl) hS (by intro w _; go_simp; with_reducible rfl) ?_
  try simp only [Act.put, List.setIfInBounds_toArray, List.set_cons_zero, List.set_cons_succ]
  refine take 7 _ rfl (by kernel_rfl) (by kernel_rfl) (by kernel_rfl) (fun _ _ _ h => h) (by rfl) hS (by intro w _; go_simp; with_reducible rfl) ?_
  try simp only [Act.put, List.setIfInBounds_toArray, List.set_cons_zero, List.set_cons_succ]
  refine alone 8 rfl (by kernel_rfl) (by rfl) ?_
  intro K hK
  go_simp
  refine hK.out _ _ (hS.alloc hS.size _) ?_
  clear hK K
  try simp only [Act.put, List.setIfInBounds_toArray, List.set_cons_zero, List.set_cons_succ]
  refine cut_any (fun Y => Whole Y w2.heap.size 36 (List.map Part.val [(⟨some ⟨B, 2, none⟩, 32, 32, fun i => g (0 + i)⟩ : Part), (⟨some ⟨B, 34, none⟩, 16, 16, fun i => g (32 + i)⟩ : Part), (⟨some ⟨B, 50, none⟩, 16, 16, fun i => g (48 + i)⟩ : Part), (⟨some ⟨B, 66, none⟩, 16, 16, fun i => g (64 + i)⟩ : Part)]).toArray ∧ Below X.heap.size X Y) ⟨Whole.new _ _ _, hS.alloc hS.size _⟩ ?_
  rintro w3 ⟨p1, p2⟩
  generalize w2.heap.size = h at p1 ⊢
  have HPA := parts_of p1 (by
    intro p hp
    simp only [List.mem_cons, List.not_mem_nil, or_false] at hp
    rcases hp with rfl | rfl | rfl | rfl
    · exact ⟨Nat.le_refl _, rd_tail (pre := [.int .u32 (s : Nat), .int .u32 (r : Nat)]) (Q1.out.below p2 Q1.out.lt) _ 0 32 rfl (by omega), fun i => HG.out _⟩
    · exact ⟨Nat.le_refl _, rd_tail (pre := [.int .u32 (s : Nat), .int .u32 (r : Nat)]) (Q1.out.below p2 Q1.out.lt) _ 32 16 rfl (by omega), fun i => HG.out _⟩
    · exact ⟨Nat.le_refl _, rd_tail (pre := [.int .u32 (s : Nat), .int .u32 (r : Nat)]) (Q1.out.below p2 Q1.out.lt) _ 48 16 rfl (by omega), fun i => HG.out _⟩
    · exact ⟨Nat.le_refl _, rd_tail (pre := [.int .u32 (s : Nat), .int .u32 (r : Nat)]) (Q1.out.below p2 Q1.out.lt) _ 64 16 rfl (by omega), fun i => HG.out _⟩
    )
  have CX : Calls Try.prog 56 #[.slice (some ⟨h, 0, none⟩) 4 4] w3 fun e w' => ∃ A c, e = .returned (.slice A 80 c) ∧ Own w' w3.heap.size 5 A 80 c (textOf [(⟨some ⟨B, 2, none⟩, 32, 32, fun i => g (0 + i)⟩ : Part), (⟨some ⟨B, 34, none⟩, 16, 16, fun i => g (32 + i)⟩ : Part), (⟨some ⟨B, 50, none⟩, 16, 16, fun i => g (48 + i)⟩ : Part), (⟨some ⟨B, 66, none⟩, 16, 16, fun i => g (64 + i)⟩ : Part)]) ∧ Below w3.heap.size w3 w' :=
    join_any h 0 4 [(⟨some ⟨B, 2, none⟩, 32, 32, fun i => g (0 + i)⟩ : Part), (⟨some ⟨B, 34, none⟩, 16, 16, fun i => g (32 + i)⟩ : Part), (⟨some ⟨B, 50, none⟩, 16, 16, fun i => g (48 + i)⟩ : Part), (⟨some ⟨B, 66, none⟩, 16, 16, fun i => g (64 + i)⟩ : Part)] (by simp only [lenAll]; omega) (by simp only [List.length_cons, List.length_nil]; omega) (no_nil (by intro p hp; simp only [List.mem_cons, List.not_mem_nil, or_false] at hp; rcases hp with rfl | rfl | rfl | rfl <;> simp)) w3 HPA
  have HCX := Lib.hid CX
  clear CX HPA hS p1
  have hS := p2
  clear p2
  refine alone 9 rfl (by kernel_rfl) (by rfl) ?_
  intro K hK
  go_simp
  refine HCX.out.mono ?_
  rintro e w4 ⟨A, c, rfl, ho, hb⟩
  go_simp
  have hsz := Nat.le_trans (Nat.le_of_lt Q1.out.lt) hS.size
  replace hS := below_trans hS hb
  refine hK.out _ _ hS ?_
  clear hK hb K
  try simp only [Act.put, List.setIfInBounds_toArray, List.set_cons_zero, List.set_cons_succ]
  refine alone 10 rfl (by kernel_rfl) (by rfl) ?_
  intro K hK
  go_simp
  refine hK.out _ _ hS ?_
  clear hK K
  try simp only [Act.put, List.setIfInBounds_toArray, List.set_cons_zero, List.set_cons_succ]
  refine region_end (by kernel_rfl) ?_
  have HO := Lib.hid ((ho.more hsz).congr (restAnswerText g B))
  have HS := Lib.hid (QB.out.trans (hS.mono (Nat.le_of_lt Q1.out.lt)))
  clear ho hS HCX
  go_wp2_with fail
  go_ret
  exact ⟨A, c, rfl, by rw [HB.out]; exact HO.out, by rw [HB.out]; exact HS.out⟩

set_option maxRecDepth 100000 in
theorem restCookieText (g : Nat → Nat) (B : Nat) (i : Nat) (h : i < 56) : textOf [(⟨some ⟨B, 1, none⟩, 24, 24, fun i => g (0 + i)⟩ : Part), (⟨some ⟨B, 25, none⟩, 32, 32, fun i => g (24 + i)⟩ : Part)] i = g i := by
  simp only [textOf]
  (repeat' split) <;> first | rfl | omega | (congr 1; omega)

set_option maxRecDepth 100000 in
set_option maxHeartbeats 4000000 in
theorem restCookie_any (s : Nat) (g : Nat → Nat) (hg : ∀ i, g i < 256) (w : World) :
    Calls Try.prog 23 #[.agg (one s g 56).toArray] w fun e w' => ∃ A c, e = .returned (.slice A 56 c) ∧ Own w' w.heap.size 5 A 56 c g ∧ Below w.heap.size w w' := by
  have HG := Lib.hid hg
  obtain ⟨L, hL⟩ : ∃ L, (one s g 56).toArray = L := ⟨_, rfl⟩
  have HL := Lib.hid hL
  rw [hL]
  clear hL hg
  go_enter Try.func23, Try.ntmps23
  go_upto_region 1 with fail
  refine cut_world (fun X => Whole X w.heap.size 34 L ∧ Below w.heap.size w X) ⟨whole_new _ _ rfl, below_alloc (Below.refl _ _) _⟩ ?_
  rintro X ⟨k1, kb⟩
  generalize hB : w.heap.size = B at k1 kb ⊢
  have HB := Lib.hid hB
  have Q1 := Lib.hid (show Whole X B 34 (one s g 56).toArray by rw [HL.out]; exact k1)
  have QB := Lib.hid kb
  clear k1 kb hB
  refine region_start (fun Y => Below X.heap.size X Y) (by kernel_rfl) (below_drewN (Below.refl _ _) 1) ?_
  intro w2 hS
  refine take 0 _ rfl (by kernel_rfl) (by kernel_rfl) (by kernel_rfl) (fun _ _ _ h => h) (by rfl) hS (by intro w _; go_simp; with_reducible rfl) ?_
  try simp only [Act.put, List.setIfInBounds_toArray, List.set_cons_zero, List.set_cons_succ]
  refine take 1 _ rfl (by kernel_rfl) (by kernel_rfl) (by kernel_rfl) (fun _ _ _ h => h) (by rfl) hS (by intro w _; go_simp; with_reducible rfl) ?_
  try simp only [Act.put, List.setIfInBounds_toArray, List.set_cons_zero, List.set_cons_succ]
  refine take 2 _ rfl (by kernel_rfl) (by kernel_rfl) (by kernel_rfl) (fun _ _ _ h => h) (by rfl) hS (by intro w _; go_simp; with_reducible rfl) ?_
  try simp only [Act.put, List.setIfInBounds_toArray, List.set_cons_zero, List.set_cons_succ]
  refine take 3 _ rfl (by kernel_rfl) (by kernel_rfl) (by kernel_rfl) (fun _ _ _ h => h) (by rfl) hS (by intro w _; go_simp; with_reducible rfl) ?_
  try simp only [Act.put, List.setIfInBounds_toArray, List.set_cons_zero, List.set_cons_succ]
  refine alone 4 rfl (by kernel_rfl) (by rfl) ?_
  intro K hK
  go_simp
  refine hK.out _ _ (hS.alloc hS.size _) ?_
  clear hK K
  try simp only [Act.put, List.setIfInBounds_toArray, List.set_cons_zero, List.set_cons_succ]
  refine cut_any (fun Y => Whole Y w2.heap.size 36 (List.map Part.val [(⟨some ⟨B, 1, none⟩, 24, 24, fun i => g (0 + i)⟩ : Part), (⟨some ⟨B, 25, none⟩, 32, 32, fun i => g (24 + i)⟩ : Part)]).toArray ∧ Below X.heap.size X Y) ⟨Whole.new _ _ _, hS.alloc hS.size _⟩ ?_
  rintro w3 ⟨p1, p2⟩
  generalize w2.heap.size = h at p1 ⊢
  have HPA := parts_of p1 (by
    intro p hp
    simp only [List.mem_cons, List.not_mem_nil, or_false] at hp
    rcases hp with rfl | rfl
    · exact ⟨Nat.le_refl _, rd_tail (pre := [.int .u32 (s : Nat)]) (Q1.out.below p2 Q1.out.lt) _ 0 24 rfl (by omega), fun i => HG.out _⟩
    · exact ⟨Nat.le_refl _, rd_tail (pre := [.int .u32 (s : Nat)]) (Q1.out.below p2 Q1.out.lt) _ 24 32 rfl (by omega), fun i => HG.out _⟩
    )
  have CX : Calls Try.prog 56 #[.slice (some ⟨h, 0, none⟩) 2 2] w3 fun e w' => ∃ A c, e = .returned (.slice A 56 c) ∧ Own w' w3.heap.size 5 A 56 c (textOf [(⟨some ⟨B, 1, none⟩, 24, 24, fun i => g (0 + i)⟩ : Part), (⟨some ⟨B, 25, none⟩, 32, 32, fun i => g (24 + i)⟩ : Part)]) ∧ Below w3.heap.size w3 w' :=
    join_any h 0 2 [(⟨some ⟨B, 1, none⟩, 24, 24, fun i => g (0 + i)⟩ : Part), (⟨some ⟨B, 25, none⟩, 32, 32, fun i => g (24 + i)⟩ : Part)] (by simp only [lenAll]; omega) (by simp only [List.length_cons, List.length_nil]; omega) (no_nil (by intro p hp; simp only [List.mem_cons, List.not_mem_nil, or_false] at hp; rcases hp with rfl | rfl <;> simp)) w3 HPA
  have HCX := Lib.hid CX
  clear CX HPA hS p1
  have hS := p2
  clear p2
  refine alone 5 rfl (by kernel_rfl) (by rfl) ?_
  intro K hK
  go_simp
  refine HCX.out.mono ?_
  rintro e w4 ⟨A, c, rfl, ho, hb⟩
  go_simp
  have hsz := Nat.le_trans (Nat.le_of_lt Q1.out.lt) hS.size
  replace hS := below_trans hS hb
  refine hK.out _ _ hS ?_
  clear hK hb K
  try simp only [Act.put, List.setIfInBounds_toArray, List.set_cons_zero, List.set_cons_succ]
  refine alone 6 rfl (by kernel_rfl) (by rfl) ?_
  intro K hK
  go_simp
  refine hK.out _ _ hS ?_
  clear hK K
  try simp only [Act.put, List.setIfInBounds_toArray, List.set_cons_zero, List.set_cons_succ]
  refine region_end (by kernel_rfl) ?_
  have HO := Lib.hid ((ho.more hsz).congr (restCookieText g B))
  have HS := Lib.hid (QB.out.trans (hS.mono (Nat.le_of_lt Q1.out.lt)))
  clear ho hS HCX
  go_wp2_with fail
  go_ret
  exact ⟨A, c, rfl, by rw [HB.out]; exact HO.out, by rw [HB.out]; exact HS.out⟩

end RefW
end Go.Proofs.Ytfbkppabgogdgaa
