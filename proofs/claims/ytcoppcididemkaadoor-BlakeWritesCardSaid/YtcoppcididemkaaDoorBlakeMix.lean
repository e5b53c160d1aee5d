/- The call mix of package blake. -/
import Derived.Test.YtcoppcididemkaaDoorBlakeNum
import Derived.Test.YtcoppcididemkaaDoorTurn
import Derived.Test.YtcoppcididemkaaDoorWords
import Derived.Test.YtcoppcididemkaaDoorQuietB
import Derived.Test.YtcoppcididemkaaDoorFirst
import Derived.Test.YtcoppcididemkaaDoorFloat
import Derived.StillTailTactics
namespace Go.Proofs.YtcoppcididemkaaDoor
namespace Blake
open Go.ChangeShapes Go.WideShapes Go.ChangeAt Go.RowKit
open Num Mem Words State Chacha Quiet

theorem cell_at {s : List Nat} {g T : Nat} {W : World} (h : Whole W g T (wcells s).toArray) {X : World} (hb : Below W.heap.size W X) (i : Nat) (hi : i < s.length) : X.cell? ⟨g, i, none⟩ = some (.int .u32 (s.getD i 0 : Nat)) := by
  have := (h.below hb h.lt).cell i
  rwa [List.getElem?_toArray, wcells_get _ _ hi] at this
theorem cut_post {F : Exit → Act → World → Prop} {e : Exit} {a : Act} {w : World} (R : World → Prop) (hR : R w) (h : ∀ w', R w' → F e a w') : F e a w := h w hR
theorem grown_below {w w' : World} {g : Nat} (h : Below w.heap.size w w') : w.grownBy w' (some g) := ⟨h.os, h.tape, h.output, h.size, fun i hi _ => h.block i hi⟩

set_option maxRecDepth 100000 in
set_option maxHeartbeats 4000000 in
theorem mix_any (g a b c d x y : Nat) (s : List Nat) (hl : s.length = 16) (hf : Fits s) (ha : a < 16) (hb : b < 16) (hc : c < 16) (hd : d < 16) (w : World) (hw : Whole w g 53 (wcells s).toArray) :
    Calls Tryd.prog 27 #[.pointer (some ⟨g, 0, none⟩), .int .i64 a, .int .i64 b, .int .i64 c, .int .i64 d, .int .u32 x, .int .u32 y] w fun e w' => e = .returned (.tuple #[]) ∧ Whole w' g 53 (wcells (mixL s a b c d x y)).toArray ∧ w.grownBy w' (some g) := by
  have ia : (a : Int) < 16 := by omega
  have ib : (b : Int) < 16 := by omega
  have ic : (c : Int) < 16 := by omega
  have id : (d : Int) < 16 := by omega
  have HW := Lib.hid hw
  have HL := Lib.hid hl
  have HF := Lib.hid hf
  have HG := Lib.hid (World.grownBy.refl w (some g))
  clear hw hl hf
  go_enter Tryd.func27, Tryd.ntmps27
  have HZ := Lib.hid (wrap_three (s.getD a 0) (s.getD b 0) x)
  have hf1 : Fits (add3 s a b x) := add3_fits HF.out _ _ _
  have hl1 : (add3 s a b x).length = 16 := by rw [add3_length]; exact HL.out
  have hr : s.set a ((s.getD a 0 + (s.getD b 0 + x) % 4294967296) % 4294967296) = add3 s a b x := rfl
  have b1 := HF.out a
  have b2 := HF.out b
  have c1 := HW.out.cell a
  have c2 := HW.out.cell b
  rw [List.getElem?_toArray, wcells_get _ _ (by rw [HL.out]; omega)] at c1 c2
  have f1 := HW.out.free a
  have hw1 := (HW.out.put a (.int .u32 (((s.getD a 0 + (s.getD b 0 + x) % 4294967296) % 4294967296) : Nat))).drew
  rw [wcells_set, hr] at hw1
  have hg1 := grown_trans HG.out (grown_trans (grown_set w g a (.int .u32 (((s.getD a 0 + (s.getD b 0 + x) % 4294967296) % 4294967296) : Nat))) (grown_drewN _ g 1))
  clear HW HG HF HL hr
  generalize hs : add3 s a b x = s1 at hw1 hf1 hl1
  have HS1 := Lib.hid hs
  have HF := Lib.hid hf1
  have HL := Lib.hid hl1
  clear hs hf1 hl1
  have HW1 := Lib.hid hw1
  have HG1 := Lib.hid hg1
  clear hw1 hg1
  generalize ((s.getD a 0 + (s.getD b 0 + x) % 4294967296) % 4294967296) = z at *
  generalize s.getD a 0 = p at *
  generalize s.getD b 0 = q at *
  go_wp2_with fail
  refine wp_region_still_tail 15 (by kernel_rfl) (by kernel_rfl) ?_
  simp only [List.take_succ_cons, List.take_zero, List.drop_succ_cons, List.drop_zero]
  repeat still_step
  refine wpStill_nil ?_
  change wpList _ _ _ _ _ w.drew
  rw [HZ.out]
  go_wp2_with fail
  refine cut_world (fun X => Whole X g 53 (wcells s1).toArray ∧ w.grownBy X (some g)) ⟨HW1.out, HG1.out⟩ ?_
  clear HW1 HG1 c1 c2 f1 b1 b2 HZ
  rintro w1 ⟨hw1, hg1⟩
  have HW := Lib.hid hw1
  have HG := Lib.hid hg1
  clear hw1 hg1
  have hf1 : Fits (xr s1 d a 16) := xr_fits HF.out _ _ _ (by omega)
  have hl1 : (xr s1 d a 16).length = 16 := by rw [xr_length]; exact HL.out
  have hr : s1.set d (rotl (s1.getD d 0 ^^^ s1.getD a 0) 16) = xr s1 d a 16 := rfl
  have b1 := HF.out d
  have b2 := HF.out a
  have C1 := Lib.hid (fun X (hb : Below w1.heap.size w1 X) => cell_at HW.out hb d (by rw [HL.out]; omega))
  have C2 := Lib.hid (fun X (hb : Below w1.heap.size w1 X) => cell_at HW.out hb a (by rw [HL.out]; omega))
  have hx32 : s1.getD d 0 ^^^ s1.getD a 0 < 2 ^ 32 := Nat.xor_lt_two_pow b1 b2
  have hxor := u32_xor_nat (s1.getD d 0) (s1.getD a 0) b1 b2
  have hput := fun X (hb : Below w1.heap.size w1 X) => (HW.out.below hb HW.out.lt).put d (.int .u32 ((rotl (s1.getD d 0 ^^^ s1.getD a 0) 16) : Nat))
  rw [wcells_set, hr] at hput
  have HFR := Lib.hid (fun X (hb : Below w1.heap.size w1 X) => (HW.out.below hb HW.out.lt).free d)
  clear HW HF HL hr
  generalize hs : xr s1 d a 16 = s2 at hput hf1 hl1
  have HP := Lib.hid hput
  clear hput
  have HS2 := Lib.hid hs
  have HF := Lib.hid hf1
  have HL := Lib.hid hl1
  clear hs hf1 hl1
  generalize s1.getD d 0 = p at *
  generalize s1.getD a 0 = q at *
  go_wp2_with fail
  refine region_drew (fun _ => True) (by kernel_rfl) trivial ?_
  intro _
  have hS : Below w1.heap.size w1 w1.drew := below_drewN (Below.refl _ _) 1
  refine Float.float (W := w1) [(0, 29, .is (.pointer (some ⟨g, 0, none⟩))), (1, 30, .is (.int .i64 (d : Nat))), (2, 31, .is (.pointer (some ⟨g, 0, none⟩))), (3, 32, .is (.int .i64 (d : Nat))), (4, 33, .is (.pointer (some ⟨g, 0, none⟩))), (5, 34, .is (.pointer (some ⟨g, d, none⟩))), (6, 35, .is (.int .u32 (p : Nat))), (7, 36, .is (.pointer (some ⟨g, 0, none⟩))), (8, 37, .is (.int .i64 (a : Nat))), (9, 38, .is (.pointer (some ⟨g, 0, none⟩))), (10, 39, .is (.pointer (some ⟨g, a, none⟩))), (11, 40, .is (.int .u32 (q : Nat))), (12, 41, .is (.int .u32 (p ^^^ q : Nat))), (13, 42, .is (.int .u32 (rotl (p ^^^ q) 16 : Nat))), (14, 43, .is (.pointer (some ⟨g, 0, none⟩))), (15, 44, .is (.pointer (some ⟨g, d, none⟩)))] [0, 1, 2, 3, 4, 5, 6, 7, 8, 9, 10, 11, 12, 13, 14, 15] 1 rfl (by rfl) (by kernel_rfl) (by kernel_rfl) (by kernel_rfl) (by kernel_rfl) (by kernel_rfl) (fun γ => rfl) hS (fun _ _ => trivial) ?_ ?_
  · intro γ
    simp only [Float.puts, Act.put, List.setIfInBounds_toArray, List.set_cons_zero, List.set_cons_succ]
    refine ⟨?_, ?_, ?_, ?_, ?_, ?_, ?_, ?_, ?_, ?_, ?_, ?_, ?_, ?_, ?_, ?_, trivial⟩
    · exact ⟨_, _, rfl, Float.does_take (by intro w _; go_simp; try with_reducible rfl)⟩
    · exact ⟨_, _, rfl, Float.does_take (by intro w _; go_simp; try with_reducible rfl)⟩
    · exact ⟨_, _, rfl, Float.does_take (by intro w _; go_simp; try with_reducible rfl)⟩
    · exact ⟨_, _, rfl, Float.does_take (by intro w _; go_simp; try with_reducible rfl)⟩
    · exact ⟨_, _, rfl, Float.does_take (by intro w _; go_simp; try with_reducible rfl)⟩
    · exact ⟨_, _, rfl, Float.does_take (by intro w _; go_simp; try with_reducible rfl)⟩
    · exact ⟨_, _, rfl, Float.does_take (by intro w hw; have hcl := C1.out w hw; go_simp; try with_reducible rfl)⟩
    · exact ⟨_, _, rfl, Float.does_take (by intro w _; go_simp; try with_reducible rfl)⟩
    · exact ⟨_, _, rfl, Float.does_take (by intro w _; go_simp; try with_reducible rfl)⟩
    · exact ⟨_, _, rfl, Float.does_take (by intro w _; go_simp; try with_reducible rfl)⟩
    · exact ⟨_, _, rfl, Float.does_take (by intro w _; go_simp; try with_reducible rfl)⟩
    · exact ⟨_, _, rfl, Float.does_take (by intro w hw; have hcl := C2.out w hw; go_simp; try with_reducible rfl)⟩
    · exact ⟨_, _, rfl, Float.does_take (by intro w _; go_simp; try with_reducible rfl)⟩
    · exact ⟨_, _, rfl, Float.does_call 30 (#[.int .u32 (p ^^^ q : Nat), .int .i64 (-16)]) (by intro w; go_simp; try with_reducible rfl) (fun w hw => (rotate_any (p ^^^ q) 16 (-16) (by decide) hx32 _).mono fun e w' h => ⟨h.1, by obtain ⟨k, h2⟩ := h.2; rw [h2]; exact below_drewN (Below.refl _ _) k⟩)⟩
    · exact ⟨_, _, rfl, Float.does_take (by intro w _; go_simp; try with_reducible rfl)⟩
    · exact ⟨_, _, rfl, Float.does_take (by intro w _; go_simp; try with_reducible rfl)⟩
  · intro γ v hS hrows hne
    simp only [Float.puts, Act.put, List.setIfInBounds_toArray, List.set_cons_zero, List.set_cons_succ]
    clear hne hrows
    clear γ
    have hcl := C1.out v hS
    have hfr := HFR.out v hS
    refine alone 16 rfl (by kernel_rfl) (by rfl) ?_
    intro K hK
    go_simp
    refine hK.out _ _ trivial ?_
    clear hK K
    try simp only [Act.put]
    refine region_end (by kernel_rfl) ?_
    refine cut_post (F := Exit.then _ _) (fun X => Whole X g 53 (wcells s2).toArray ∧ w.grownBy X (some g)) ⟨HP.out v hS, grown_trans HG.out (grown_trans (grown_below hS) (grown_set v g d (.int .u32 (rotl (p ^^^ q) 16 : Nat))))⟩ ?_
    clear hcl hfr hS HG C1 C2 HP HFR hx32 hxor b1 b2
    rintro w2 ⟨hw1, hg1⟩
    have HW := Lib.hid hw1
    have HG := Lib.hid hg1
    clear hw1 hg1
    go_wp2_with fail
    have HZ := Lib.hid (wrap_two (s2.getD c 0) (s2.getD d 0))
    have hf1 : Fits (add2 s2 c d) := add2_fits HF.out _ _
    have hl1 : (add2 s2 c d).length = 16 := by rw [add2_length]; exact HL.out
    have hr : s2.set c ((s2.getD c 0 + s2.getD d 0) % 4294967296) = add2 s2 c d := rfl
    have b1 := HF.out c
    have b2 := HF.out d
    have c1 := HW.out.cell c
    have c2 := HW.out.cell d
    rw [List.getElem?_toArray, wcells_get _ _ (by rw [HL.out]; omega)] at c1 c2
    have f1 := HW.out.free c
    have hw1 := (HW.out.put c (.int .u32 (((s2.getD c 0 + s2.getD d 0) % 4294967296) : Nat))).drew
    rw [wcells_set, hr] at hw1
    have hg1 := grown_trans HG.out (grown_trans (grown_set w2 g c (.int .u32 (((s2.getD c 0 + s2.getD d 0) % 4294967296) : Nat))) (grown_drewN _ g 1))
    clear HW HG HF HL hr
    generalize hs : add2 s2 c d = s3 at hw1 hf1 hl1
    have HS3 := Lib.hid hs
    have HF := Lib.hid hf1
    have HL := Lib.hid hl1
    clear hs hf1 hl1
    have HW1 := Lib.hid hw1
    have HG1 := Lib.hid hg1
    clear hw1 hg1
    generalize ((s2.getD c 0 + s2.getD d 0) % 4294967296) = z at *
    generalize s2.getD c 0 = p at *
    generalize s2.getD d 0 = q at *
    refine wp_region_still_tail 13 (by kernel_rfl) (by kernel_rfl) ?_
    simp only [List.take_succ_cons, List.take_zero, List.drop_succ_cons, List.drop_zero]
    repeat still_step
    refine wpStill_nil ?_
    change wpList _ _ _ _ _ w2.drew
    rw [HZ.out]
    go_wp2_with fail
    refine cut_world (fun X => Whole X g 53 (wcells s3).toArray ∧ w.grownBy X (some g)) ⟨HW1.out, HG1.out⟩ ?_
    clear HW1 HG1 c1 c2 f1 b1 b2 HZ
    rintro w3 ⟨hw1, hg1⟩
    have HW := Lib.hid hw1
    have HG := Lib.hid hg1
    clear hw1 hg1
    have hf1 : Fits (xr s3 b c 20) := xr_fits HF.out _ _ _ (by omega)
    have hl1 : (xr s3 b c 20).length = 16 := by rw [xr_length]; exact HL.out
    have hr : s3.set b (rotl (s3.getD b 0 ^^^ s3.getD c 0) 20) = xr s3 b c 20 := rfl
    have b1 := HF.out b
    have b2 := HF.out c
    have C1 := Lib.hid (fun X (hb : Below w3.heap.size w3 X) => cell_at HW.out hb b (by rw [HL.out]; omega))
    have C2 := Lib.hid (fun X (hb : Below w3.heap.size w3 X) => cell_at HW.out hb c (by rw [HL.out]; omega))
    have hx32 : s3.getD b 0 ^^^ s3.getD c 0 < 2 ^ 32 := Nat.xor_lt_two_pow b1 b2
    have hxor := u32_xor_nat (s3.getD b 0) (s3.getD c 0) b1 b2
    have hput := fun X (hb : Below w3.heap.size w3 X) => (HW.out.below hb HW.out.lt).put b (.int .u32 ((rotl (s3.getD b 0 ^^^ s3.getD c 0) 20) : Nat))
    rw [wcells_set, hr] at hput
    have HFR := Lib.hid (fun X (hb : Below w3.heap.size w3 X) => (HW.out.below hb HW.out.lt).free b)
    clear HW HF HL hr
    generalize hs : xr s3 b c 20 = s4 at hput hf1 hl1
    have HP := Lib.hid hput
    clear hput
    have HS4 := Lib.hid hs
    have HF := Lib.hid hf1
    have HL := Lib.hid hl1
    clear hs hf1 hl1
    generalize s3.getD b 0 = p at *
    generalize s3.getD c 0 = q at *
    go_wp2_with fail
    refine region_drew (fun _ => True) (by kernel_rfl) trivial ?_
    intro _
    have hS : Below w3.heap.size w3 w3.drew := below_drewN (Below.refl _ _) 1
    refine Float.float (W := w3) [(0, 58, .is (.pointer (some ⟨g, 0, none⟩))), (1, 59, .is (.int .i64 (b : Nat))), (2, 60, .is (.pointer (some ⟨g, 0, none⟩))), (3, 61, .is (.int .i64 (b : Nat))), (4, 62, .is (.pointer (some ⟨g, 0, none⟩))), (5, 63, .is (.pointer (some ⟨g, b, none⟩))), (6, 64, .is (.int .u32 (p : Nat))), (7, 65, .is (.pointer (some ⟨g, 0, none⟩))), (8, 66, .is (.int .i64 (c : Nat))), (9, 67, .is (.pointer (some ⟨g, 0, none⟩))), (10, 68, .is (.pointer (some ⟨g, c, none⟩))), (11, 69, .is (.int .u32 (q : Nat))), (12, 70, .is (.int .u32 (p ^^^ q : Nat))), (13, 71, .is (.int .u32 (rotl (p ^^^ q) 20 : Nat))), (14, 72, .is (.pointer (some ⟨g, 0, none⟩))), (15, 73, .is (.pointer (some ⟨g, b, none⟩)))] [0, 1, 2, 3, 4, 5, 6, 7, 8, 9, 10, 11, 12, 13, 14, 15] 1 rfl (by rfl) (by kernel_rfl) (by kernel_rfl) (by kernel_rfl) (by kernel_rfl) (by kernel_rfl) (fun γ => rfl) hS (fun _ _ => trivial) ?_ ?_
    · intro γ
      simp only [Float.puts, Act.put, List.setIfInBounds_toArray, List.set_cons_zero, List.set_cons_succ]
      refine ⟨?_, ?_, ?_, ?_, ?_, ?_, ?_, ?_, ?_, ?_, ?_, ?_, ?_, ?_, ?_, ?_, trivial⟩
      · exact ⟨_, _, rfl, Float.does_take (by intro w _; go_simp; try with_reducible rfl)⟩
      · exact ⟨_, _, rfl, Float.does_take (by intro w _; go_simp; try with_reducible rfl)⟩
      · exact ⟨_, _, rfl, Float.does_take (by intro w _; go_simp; try with_reducible rfl)⟩
      · exact ⟨_, _, rfl, Float.does_take (by intro w _; go_simp; try with_reducible rfl)⟩
      · exact ⟨_, _, rfl, Float.does_take (by intro w _; go_simp; try with_reducible rfl)⟩
      · exact ⟨_, _, rfl, Float.does_take (by intro w _; go_simp; try with_reducible rfl)⟩
      · exact ⟨_, _, rfl, Float.does_take (by intro w hw; have hcl := C1.out w hw; go_simp; try with_reducible rfl)⟩
      · exact ⟨_, _, rfl, Float.does_take (by intro w _; go_simp; try with_reducible rfl)⟩
      · exact ⟨_, _, rfl, Float.does_take (by intro w _; go_simp; try with_reducible rfl)⟩
      · exact ⟨_, _, rfl, Float.does_take (by intro w _; go_simp; try with_reducible rfl)⟩
      · exact ⟨_, _, rfl, Float.does_take (by intro w _; go_simp; try with_reducible rfl)⟩
      · exact ⟨_, _, rfl, Float.does_take (by intro w hw; have hcl := C2.out w hw; go_simp; try with_reducible rfl)⟩
      · exact ⟨_, _, rfl, Float.does_take (by intro w _; go_simp; try with_reducible rfl)⟩
      · exact ⟨_, _, rfl, Float.does_call 30 (#[.int .u32 (p ^^^ q : Nat), .int .i64 (-12)]) (by intro w; go_simp; try with_reducible rfl) (fun w hw => (rotate_any (p ^^^ q) 20 (-12) (by decide) hx32 _).mono fun e w' h => ⟨h.1, by obtain ⟨k, h2⟩ := h.2; rw [h2]; exact below_drewN (Below.refl _ _) k⟩)⟩
      · exact ⟨_, _, rfl, Float.does_take (by intro w _; go_simp; try with_reducible rfl)⟩
      · exact ⟨_, _, rfl, Float.does_take (by intro w _; go_simp; try with_reducible rfl)⟩
    · intro γ v hS hrows hne
      simp only [Float.puts, Act.put, List.setIfInBounds_toArray, List.set_cons_zero, List.set_cons_succ]
      clear hne hrows
      clear γ
      have hcl := C1.out v hS
      have hfr := HFR.out v hS
      refine alone 16 rfl (by kernel_rfl) (by rfl) ?_
      intro K hK
      go_simp
      refine hK.out _ _ trivial ?_
      clear hK K
      try simp only [Act.put]
      refine region_end (by kernel_rfl) ?_
      refine cut_post (F := Exit.then _ _) (fun X => Whole X g 53 (wcells s4).toArray ∧ w.grownBy X (some g)) ⟨HP.out v hS, grown_trans HG.out (grown_trans (grown_below hS) (grown_set v g b (.int .u32 (rotl (p ^^^ q) 20 : Nat))))⟩ ?_
      clear hcl hfr hS HG C1 C2 HP HFR hx32 hxor b1 b2
      rintro w4 ⟨hw1, hg1⟩
      have HW := Lib.hid hw1
      have HG := Lib.hid hg1
      clear hw1 hg1
      go_wp2_with fail
      have HZ := Lib.hid (wrap_three (s4.getD a 0) (s4.getD b 0) y)
      have hf1 : Fits (add3 s4 a b y) := add3_fits HF.out _ _ _
      have hl1 : (add3 s4 a b y).length = 16 := by rw [add3_length]; exact HL.out
      have hr : s4.set a ((s4.getD a 0 + (s4.getD b 0 + y) % 4294967296) % 4294967296) = add3 s4 a b y := rfl
      have b1 := HF.out a
      have b2 := HF.out b
      have c1 := HW.out.cell a
      have c2 := HW.out.cell b
      rw [List.getElem?_toArray, wcells_get _ _ (by rw [HL.out]; omega)] at c1 c2
      have f1 := HW.out.free a
      have hw1 := (HW.out.put a (.int .u32 (((s4.getD a 0 + (s4.getD b 0 + y) % 4294967296) % 4294967296) : Nat))).drew
      rw [wcells_set, hr] at hw1
      have hg1 := grown_trans HG.out (grown_trans (grown_set w4 g a (.int .u32 (((s4.getD a 0 + (s4.getD b 0 + y) % 4294967296) % 4294967296) : Nat))) (grown_drewN _ g 1))
      clear HW HG HF HL hr
      generalize hs : add3 s4 a b y = s5 at hw1 hf1 hl1
      have HS5 := Lib.hid hs
      have HF := Lib.hid hf1
      have HL := Lib.hid hl1
      clear hs hf1 hl1
      have HW1 := Lib.hid hw1
      have HG1 := Lib.hid hg1
      clear hw1 hg1
      generalize ((s4.getD a 0 + (s4.getD b 0 + y) % 4294967296) % 4294967296) = z at *
      generalize s4.getD a 0 = p at *
      generalize s4.getD b 0 = q at *
      refine wp_region_still_tail 15 (by kernel_rfl) (by kernel_rfl) ?_
      simp only [List.take_succ_cons, List.take_zero, List.drop_succ_cons, List.drop_zero]
      repeat still_step
      refine wpStill_nil ?_
      change wpList _ _ _ _ _ w4.drew
      rw [HZ.out]
      go_wp2_with fail
      refine cut_world (fun X => Whole X g 53 (wcells s5).toArray ∧ w.grownBy X (some g)) ⟨HW1.out, HG1.out⟩ ?_
      clear HW1 HG1 c1 c2 f1 b1 b2 HZ
      rintro w5 ⟨hw1, hg1⟩
      have HW := Lib.hid hw1
      have HG := Lib.hid hg1
      clear hw1 hg1
      have hf1 : Fits (xr s5 d a 24) := xr_fits HF.out _ _ _ (by omega)
      have hl1 : (xr s5 d a 24).length = 16 := by rw [xr_length]; exact HL.out
      have hr : s5.set d (rotl (s5.getD d 0 ^^^ s5.getD a 0) 24) = xr s5 d a 24 := rfl
      have b1 := HF.out d
      have b2 := HF.out a
      have C1 := Lib.hid (fun X (hb : Below w5.heap.size w5 X) => cell_at HW.out hb d (by rw [HL.out]; omega))
      have C2 := Lib.hid (fun X (hb : Below w5.heap.size w5 X) => cell_at HW.out hb a (by rw [HL.out]; omega))
      have hx32 : s5.getD d 0 ^^^ s5.getD a 0 < 2 ^ 32 := Nat.xor_lt_two_pow b1 b2
      have hxor := u32_xor_nat (s5.getD d 0) (s5.getD a 0) b1 b2
      have hput := fun X (hb : Below w5.heap.size w5 X) => (HW.out.below hb HW.out.lt).put d (.int .u32 ((rotl (s5.getD d 0 ^^^ s5.getD a 0) 24) : Nat))
      rw [wcells_set, hr] at hput
      have HFR := Lib.hid (fun X (hb : Below w5.heap.size w5 X) => (HW.out.below hb HW.out.lt).free d)
      clear HW HF HL hr
      generalize hs : xr s5 d a 24 = s6 at hput hf1 hl1
      have HP := Lib.hid hput
      clear hput
      have HS6 := Lib.hid hs
      have HF := Lib.hid hf1
      have HL := Lib.hid hl1
      clear hs hf1 hl1
      generalize s5.getD d 0 = p at *
      generalize s5.getD a 0 = q at *
      go_wp2_with fail
      refine region_drew (fun _ => True) (by kernel_rfl) trivial ?_
      intro _
      have hS : Below w5.heap.size w5 w5.drew := below_drewN (Below.refl _ _) 1
      refine Float.float (W := w5) [(0, 89, .is (.pointer (some ⟨g, 0, none⟩))), (1, 90, .is (.int .i64 (d : Nat))), (2, 91, .is (.pointer (some ⟨g, 0, none⟩))), (3, 92, .is (.int .i64 (d : Nat))), (4, 93, .is (.pointer (some ⟨g, 0, none⟩))), (5, 94, .is (.pointer (some ⟨g, d, none⟩))), (6, 95, .is (.int .u32 (p : Nat))), (7, 96, .is (.pointer (some ⟨g, 0, none⟩))), (8, 97, .is (.int .i64 (a : Nat))), (9, 98, .is (.pointer (some ⟨g, 0, none⟩))), (10, 99, .is (.pointer (some ⟨g, a, none⟩))), (11, 100, .is (.int .u32 (q : Nat))), (12, 101, .is (.int .u32 (p ^^^ q : Nat))), (13, 102, .is (.int .u32 (rotl (p ^^^ q) 24 : Nat))), (14, 103, .is (.pointer (some ⟨g, 0, none⟩))), (15, 104, .is (.pointer (some ⟨g, d, none⟩)))] [0, 1, 2, 3, 4, 5, 6, 7, 8, 9, 10, 11, 12, 13, 14, 15] 1 rfl (by rfl) (by kernel_rfl) (by kernel_rfl) (by kernel_rfl) (by kernel_rfl) (by kernel_rfl) (fun γ => rfl) hS (fun _ _ => trivial) ?_ ?_
      · intro γ
        simp only [Float.puts, Act.put, List.setIfInBounds_toArray, List.set_cons_zero, List.set_cons_succ]
        refine ⟨?_, ?_, ?_, ?_, ?_, ?_, ?_, ?_, ?_, ?_, ?_, ?_, ?_, ?_, ?_, ?_, trivial⟩
        · exact ⟨_, _, rfl, Float.does_take (by intro w _; go_simp; try with_reducible rfl)⟩
        · exact ⟨_, _, rfl, Float.does_take (by intro w _; go_simp; try with_reducible rfl)⟩
        · exact ⟨_, _, rfl, Float.does_take (by intro w _; go_simp; try with_reducible rfl)⟩
        · exact ⟨_, _, rfl, Float.does_take (by intro w _; go_simp; try with_reducible rfl)⟩
        · exact ⟨_, _, rfl, Float.does_take (by intro w _; go_simp; try with_reducible rfl)⟩
        · exact ⟨_, _, rfl, Float.does_take (by intro w _; go_simp; try with_reducible rfl)⟩
        · exact ⟨_, _, rfl, Float.does_take (by intro w hw; have hcl := C1.out w hw; go_simp; try with_reducible rfl)⟩
        · exact ⟨_, _, rfl, Float.does_take (by intro w _; go_simp; try with_reducible rfl)⟩
        · exact ⟨_, _, rfl, Float.does_take (by intro w _; go_simp; try with_reducible rfl)⟩
        · exact ⟨_, _, rfl, Float.does_take (by intro w _; go_simp; try with_reducible rfl)⟩
        · exact ⟨_, _, rfl, Float.does_take (by intro w _; go_simp; try with_reducible rfl)⟩
        · exact ⟨_, _, rfl, Float.does_take (by intro w hw; have hcl := C2.out w hw; go_simp; try with_reducible rfl)⟩
        · exact ⟨_, _, rfl, Float.does_take (by intro w _; go_simp; try with_reducible rfl)⟩
        · exact ⟨_, _, rfl, Float.does_call 30 (#[.int .u32 (p ^^^ q : Nat), .int .i64 (-8)]) (by intro w; go_simp; try with_reducible rfl) (fun w hw => (rotate_any (p ^^^ q) 24 (-8) (by decide) hx32 _).mono fun e w' h => ⟨h.1, by obtain ⟨k, h2⟩ := h.2; rw [h2]; exact below_drewN (Below.refl _ _) k⟩)⟩
        · exact ⟨_, _, rfl, Float.does_take (by intro w _; go_simp; try with_reducible rfl)⟩
        · exact ⟨_, _, rfl, Float.does_take (by intro w _; go_simp; try with_reducible rfl)⟩
      · intro γ v hS hrows hne
        simp only [Float.puts, Act.put, List.setIfInBounds_toArray, List.set_cons_zero, List.set_cons_succ]
        clear hne hrows
        clear γ
        have hcl := C1.out v hS
        have hfr := HFR.out v hS
        refine alone 16 rfl (by kernel_rfl) (by rfl) ?_
        intro K hK
        go_simp
        refine hK.out _ _ trivial ?_
        clear hK K
        try simp only [Act.put]
        refine region_end (by kernel_rfl) ?_
        refine cut_post (F := Exit.then _ _) (fun X => Whole X g 53 (wcells s6).toArray ∧ w.grownBy X (some g)) ⟨HP.out v hS, grown_trans HG.out (grown_trans (grown_below hS) (grown_set v g d (.int .u32 (rotl (p ^^^ q) 24 : Nat))))⟩ ?_
        clear hcl hfr hS HG C1 C2 HP HFR hx32 hxor b1 b2
        rintro w6 ⟨hw1, hg1⟩
        have HW := Lib.hid hw1
        have HG := Lib.hid hg1
        clear hw1 hg1
        go_wp2_with fail
        have HZ := Lib.hid (wrap_two (s6.getD c 0) (s6.getD d 0))
        have hf1 : Fits (add2 s6 c d) := add2_fits HF.out _ _
        have hl1 : (add2 s6 c d).length = 16 := by rw [add2_length]; exact HL.out
        have hr : s6.set c ((s6.getD c 0 + s6.getD d 0) % 4294967296) = add2 s6 c d := rfl
        have b1 := HF.out c
        have b2 := HF.out d
        have c1 := HW.out.cell c
        have c2 := HW.out.cell d
        rw [List.getElem?_toArray, wcells_get _ _ (by rw [HL.out]; omega)] at c1 c2
        have f1 := HW.out.free c
        have hw1 := (HW.out.put c (.int .u32 (((s6.getD c 0 + s6.getD d 0) % 4294967296) : Nat))).drew
        rw [wcells_set, hr] at hw1
        have hg1 := grown_trans HG.out (grown_trans (grown_set w6 g c (.int .u32 (((s6.getD c 0 + s6.getD d 0) % 4294967296) : Nat))) (grown_drewN _ g 1))
        clear HW HG HF HL hr
        generalize hs : add2 s6 c d = s7 at hw1 hf1 hl1
        have HS7 := Lib.hid hs
        have HF := Lib.hid hf1
        have HL := Lib.hid hl1
        clear hs hf1 hl1
        have HW1 := Lib.hid hw1
        have HG1 := Lib.hid hg1
        clear hw1 hg1
        generalize ((s6.getD c 0 + s6.getD d 0) % 4294967296) = z at *
        generalize s6.getD c 0 = p at *
        generalize s6.getD d 0 = q at *
        refine wp_region_still_tail 13 (by kernel_rfl) (by kernel_rfl) ?_
        simp only [List.take_succ_cons, List.take_zero, List.drop_succ_cons, List.drop_zero]
        repeat still_step
        refine wpStill_nil ?_
        change wpList _ _ _ _ _ w6.drew
        rw [HZ.out]
        go_wp2_with fail
        refine cut_world (fun X => Whole X g 53 (wcells s7).toArray ∧ w.grownBy X (some g)) ⟨HW1.out, HG1.out⟩ ?_
        clear HW1 HG1 c1 c2 f1 b1 b2 HZ
        rintro w7 ⟨hw1, hg1⟩
        have HW := Lib.hid hw1
        have HG := Lib.hid hg1
        clear hw1 hg1
        have hf1 : Fits (xr s7 b c 25) := xr_fits HF.out _ _ _ (by omega)
        have hl1 : (xr s7 b c 25).length = 16 := by rw [xr_length]; exact HL.out
        have hr : s7.set b (rotl (s7.getD b 0 ^^^ s7.getD c 0) 25) = xr s7 b c 25 := rfl
        have b1 := HF.out b
        have b2 := HF.out c
        have C1 := Lib.hid (fun X (hb : Below w7.heap.size w7 X) => cell_at HW.out hb b (by rw [HL.out]; omega))
        have C2 := Lib.hid (fun X (hb : Below w7.heap.size w7 X) => cell_at HW.out hb c (by rw [HL.out]; omega))
        have hx32 : s7.getD b 0 ^^^ s7.getD c 0 < 2 ^ 32 := Nat.xor_lt_two_pow b1 b2
        have hxor := u32_xor_nat (s7.getD b 0) (s7.getD c 0) b1 b2
        have hput := fun X (hb : Below w7.heap.size w7 X) => (HW.out.below hb HW.out.lt).put b (.int .u32 ((rotl (s7.getD b 0 ^^^ s7.getD c 0) 25) : Nat))
        rw [wcells_set, hr] at hput
        have HFR := Lib.hid (fun X (hb : Below w7.heap.size w7 X) => (HW.out.below hb HW.out.lt).free b)
        clear HW HF HL hr
        generalize hs : xr s7 b c 25 = s8 at hput hf1 hl1
        have HP := Lib.hid hput
        clear hput
        have HS8 := Lib.hid hs
        have HF := Lib.hid hf1
        have HL := Lib.hid hl1
        clear hs hf1 hl1
        generalize s7.getD b 0 = p at *
        generalize s7.getD c 0 = q at *
        go_wp2_with fail
        refine region_drew (fun _ => True) (by kernel_rfl) trivial ?_
        intro _
        have hS : Below w7.heap.size w7 w7.drew := below_drewN (Below.refl _ _) 1
        refine Float.float (W := w7) [(0, 118, .is (.pointer (some ⟨g, 0, none⟩))), (1, 119, .is (.int .i64 (b : Nat))), (2, 120, .is (.pointer (some ⟨g, 0, none⟩))), (3, 121, .is (.int .i64 (b : Nat))), (4, 122, .is (.pointer (some ⟨g, 0, none⟩))), (5, 123, .is (.pointer (some ⟨g, b, none⟩))), (6, 124, .is (.int .u32 (p : Nat))), (7, 125, .is (.pointer (some ⟨g, 0, none⟩))), (8, 126, .is (.int .i64 (c : Nat))), (9, 127, .is (.pointer (some ⟨g, 0, none⟩))), (10, 128, .is (.pointer (some ⟨g, c, none⟩))), (11, 129, .is (.int .u32 (q : Nat))), (12, 130, .is (.int .u32 (p ^^^ q : Nat))), (13, 131, .is (.int .u32 (rotl (p ^^^ q) 25 : Nat))), (14, 132, .is (.pointer (some ⟨g, 0, none⟩))), (15, 133, .is (.pointer (some ⟨g, b, none⟩)))] [0, 1, 2, 3, 4, 5, 6, 7, 8, 9, 10, 11, 12, 13, 14, 15] 1 rfl (by rfl) (by kernel_rfl) (by kernel_rfl) (by kernel_rfl) (by kernel_rfl) (by kernel_rfl) (fun γ => rfl) hS (fun _ _ => trivial) ?_ ?_
        · intro γ
          simp only [Float.puts, Act.put, List.setIfInBounds_toArray, List.set_cons_zero, List.set_cons_succ]
          refine ⟨?_, ?_, ?_, ?_, ?_, ?_, ?_, ?_, ?_, ?_, ?_, ?_, ?_, ?_, ?_, ?_, trivial⟩
          · exact ⟨_, _, rfl, Float.does_take (by intro w _; go_simp; try with_reducible rfl)⟩
          · exact ⟨_, _, rfl, Float.does_take (by intro w _; go_simp; try with_reducible rfl)⟩
          · exact ⟨_, _, rfl, Float.does_take (by intro w _; go_simp; try with_reducible rfl)⟩
          · exact ⟨_, _, rfl, Float.does_take (by intro w _; go_simp; try with_reducible rfl)⟩
          · exact ⟨_, _, rfl, Float.does_take (by intro w _; go_simp; try with_reducible rfl)⟩
          · exact ⟨_, _, rfl, Float.does_take (by intro w _; go_simp; try with_reducible rfl)⟩
          · exact ⟨_, _, rfl, Float.does_take (by intro w hw; have hcl := C1.out w hw; go_simp; try with_reducible rfl)⟩
          · exact ⟨_, _, rfl, Float.does_take (by intro w _; go_simp; try with_reducible rfl)⟩
          · exact ⟨_, _, rfl, Float.does_take (by intro w _; go_simp; try with_reducible rfl)⟩
          · exact ⟨_, _, rfl, Float.does_take (by intro w _; go_simp; try with_reducible rfl)⟩
          · exact ⟨_, _, rfl, Float.does_take (by intro w _; go_simp; try with_reducible rfl)⟩
          · exact ⟨_, _, rfl, Float.does_take (by intro w hw; have hcl := C2.out w hw; go_simp; try with_reducible rfl)⟩
          · exact ⟨_, _, rfl, Float.does_take (by intro w _; go_simp; try with_reducible rfl)⟩
          · exact ⟨_, _, rfl, Float.does_call 30 (#[.int .u32 (p ^^^ q : Nat), .int .i64 (-7)]) (by intro w; go_simp; try with_reducible rfl) (fun w hw => (rotate_any (p ^^^ q) 25 (-7) (by decide) hx32 _).mono fun e w' h => ⟨h.1, by obtain ⟨k, h2⟩ := h.2; rw [h2]; exact below_drewN (Below.refl _ _) k⟩)⟩
          · exact ⟨_, _, rfl, Float.does_take (by intro w _; go_simp; try with_reducible rfl)⟩
          · exact ⟨_, _, rfl, Float.does_take (by intro w _; go_simp; try with_reducible rfl)⟩
        · intro γ v hS hrows hne
          simp only [Float.puts, Act.put, List.setIfInBounds_toArray, List.set_cons_zero, List.set_cons_succ]
          clear hne hrows
          clear γ
          have hcl := C1.out v hS
          have hfr := HFR.out v hS
          refine alone 16 rfl (by kernel_rfl) (by rfl) ?_
          intro K hK
          go_simp
          refine hK.out _ _ trivial ?_
          clear hK K
          try simp only [Act.put]
          refine region_end (by kernel_rfl) ?_
          have HW := Lib.hid (HP.out v hS)
          have HG2 := Lib.hid (grown_trans HG.out (grown_trans (grown_below hS) (grown_set v g b (.int .u32 (rotl (p ^^^ q) 25 : Nat)))))
          clear hcl hfr hS C1 C2 HP HFR hx32 hxor b1 b2
          go_end0
          exact ⟨rfl, by rw [mixL, HS1.out, HS2.out, HS3.out, HS4.out, HS5.out, HS6.out, HS7.out, HS8.out]; exact HW.out, HG2.out⟩

end Blake
end Go.Proofs.YtcoppcididemkaaDoor
