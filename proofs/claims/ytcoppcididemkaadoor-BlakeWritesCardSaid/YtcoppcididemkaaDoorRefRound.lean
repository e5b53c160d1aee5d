/- The document's own answers of layer 7 (package aditref07): round. -/
import Derived.Test.YtcoppcididemkaaDoorRefOrder
import Derived.Test.YtcoppcididemkaaDoorBlakeMix
import Derived.Test.YtcoppcididemkaaDoorCat
import Derived.Test.YtcoppcididemkaaDoorWordsTwo
namespace Go.Proofs.YtcoppcididemkaaDoor
namespace RefB
open Go.ChangeShapes Go.WideShapes Go.ChangeAt Go.RowKit
open Num Mem Words State Blake Ref Chacha

theorem info_u32 : (Tryd.prog.info? 36).map (fun i => (i.zero, i.size, i.bytes)) = some (some (.int .u32 0), 1, 4) := by kernel_rfl
theorem wcells_append (s t : List Nat) : wcells (s ++ t) = wcells s ++ wcells t := by simp [wcells]
theorem wcells_each (s : List Nat) : ∀ v ∈ wcells s, v.oneCell' = true := by
  intro v hv
  obtain ⟨x, _, rfl⟩ := List.mem_map.1 hv
  rfl
theorem grown_cell {w w' : World} {g gl i : Nat} {v : Value} (h : w.grownBy w' (some g)) (hlt : gl < w.heap.size) (hne : gl ≠ g) (hc : w.cell? ⟨gl, i, none⟩ = some v) : w'.cell? ⟨gl, i, none⟩ = some v := by
  rw [← hc]
  simp only [World.cell?, h.block gl hlt (by simpa using hne)]
/-- the first k numbers of a round, in its order -/
def inOrder (n : Nat) (m : List Nat) (k : Nat) : List Nat := (List.range k).map fun i => m.getD (orders.getD (n * 16 + i) 0) 0
theorem inOrder_length (n : Nat) (m : List Nat) (k : Nat) : (inOrder n m k).length = k := by simp [inOrder]
theorem inOrder_snoc (n : Nat) (m : List Nat) (k : Nat) : inOrder n m k ++ [m.getD (orders.getD (n * 16 + k) 0) 0] = inOrder n m (k + 1) := by
  unfold inOrder
  rw [List.range_succ, List.map_append]
  rfl
theorem inOrder_get (n : Nat) (m : List Nat) (k i : Nat) (h : i < k) : (inOrder n m k).getD i 0 = m.getD (orders.getD (n * 16 + i) 0) 0 := by
  simp [inOrder, List.getD, h]
theorem wcells_push (n : Nat) (m : List Nat) (k : Nat) : wcells (inOrder n m k) ++ [.int .u32 ((m.getD (orders.getD (n * 16 + k) 0) 0 : Nat) : Int)] = wcells (inOrder n m (k + 1)) := by
  rw [← inOrder_snoc, wcells_append]
  rfl
theorem round_is (n : Nat) (m s : List Nat) : mixL (mixL (mixL (mixL (mixL (mixL (mixL (mixL s 0 4 8 12 (m.getD (orders.getD (n * 16 + 0) 0) 0) (m.getD (orders.getD (n * 16 + 1) 0) 0))
    1 5 9 13 (m.getD (orders.getD (n * 16 + 2) 0) 0) (m.getD (orders.getD (n * 16 + 3) 0) 0)) 2 6 10 14 (m.getD (orders.getD (n * 16 + 4) 0) 0) (m.getD (orders.getD (n * 16 + 5) 0) 0))
    3 7 11 15 (m.getD (orders.getD (n * 16 + 6) 0) 0) (m.getD (orders.getD (n * 16 + 7) 0) 0)) 0 5 10 15 (m.getD (orders.getD (n * 16 + 8) 0) 0) (m.getD (orders.getD (n * 16 + 9) 0) 0))
    1 6 11 12 (m.getD (orders.getD (n * 16 + 10) 0) 0) (m.getD (orders.getD (n * 16 + 11) 0) 0)) 2 7 8 13 (m.getD (orders.getD (n * 16 + 12) 0) 0) (m.getD (orders.getD (n * 16 + 13) 0) 0))
    3 4 9 14 (m.getD (orders.getD (n * 16 + 14) 0) 0) (m.getD (orders.getD (n * 16 + 15) 0) 0) = roundL n m s := rfl

set_option maxRecDepth 100000 in
set_option maxHeartbeats 4000000 in
theorem round_ref (g c gm cm n B : Nat) (s m : List Nat) (hl : s.length = 16) (hf : Fits s) (hn : n < 10) (w : World) (hw : OwnW w B g c s) (hc : ∀ i, i < 16 → w.cell? ⟨gm, i, none⟩ = some (.int .u32 (m.getD i 0 : Nat))) (hmf : Fits m) (hgm : gm < w.heap.size) :
    Calls Tryd.prog 20 #[.slice (some ⟨g, 0, none⟩) 16 c, .slice (some ⟨gm, 0, none⟩) 16 cm, .string (ordS n)] w fun e w' => e = .returned (.tuple #[]) ∧ OwnW w' B g c (roundL n m s) ∧ w.grownBy w' (some g) := by
  have HO := Lib.hid hw
  have HF := Lib.hid hf
  have HL := Lib.hid hl
  have HC := Lib.hid hc
  have HMF := Lib.hid hmf
  have hgw := hw.lt
  clear hw hf hl hc hmf
  have hos := ordS_size n hn
  go_enter Tryd.func20, Tryd.ntmps20
  go_wp2_with fail
  go_loopw [6, 7] (fun o i wr => ∃ (k : Nat) (A : Option Addr) (c' : Nat), k ≤ 16 ∧ i = .int .i64 k ∧ o = .slice A k c' ∧ wr.ownsRow w.heap.size 36 1 (.slice A k c') k (wcells (inOrder n m k)) ∧ Below w.heap.size w wr) (fun _ i _ => 16 - (intOf i).toNat)
  case atStart => exact ⟨0, none, 0, Nat.zero_le _, rfl, rfl, World.ownsRow_nil _ _ _ _, Below.refl _ _⟩
  case round =>
    obtain ⟨k, A, c', hk, rfl, rfl, hown, hbel⟩ := hrel
    have HR := Lib.hid hown
    have HB := Lib.hid hbel
    have hsz := hbel.size
    clear hown hbel
    by_cases hlt : k < 16
    · have hks : k < (ordS n).size := by omega
      have hch := chr_get (ordS n) k hks
      have hch2 := ordS_chr n k hn hlt
      have hr16 := orders_lt (n * 16 + k) (by omega)
      have hcell := (HB.out.cell (p := ⟨gm, orders.getD (n * 16 + k) 0, none⟩) hgm).trans (HC.out _ hr16)
      have HE := Lib.hid (wcells_push n m k)
      have hvf := HMF.out (orders.getD (n * 16 + k) 0)
      rw [hch2] at hch
      clear hch2
      generalize orders.getD (n * 16 + k) 0 = r at hch hr16 hcell HE hvf
      generalize m.getD r 0 = v at hcell HE hvf
      have i1 : (k : Int) < 16 := by omega
      have i2 : ((k : Int) : Int) < ((ordS n).size : Int) := by omega
      go_wp2_with (first
        | (at_builtin; refine wpList_cat rfl _ _ 42 36 (.int .u32 0) 4 Tryd.underlying42 info_u32 rfl rfl rfl (World.ownsRow.alloc HR.out _) (HB.out.alloc hsz _) (by simp; omega) _ 1 1 rfl [.int .u32 (v : Nat)] rfl (one_at _ _ _) (by intro u hu; simp at hu; subst hu; rfl) (by omega) (by omega) ?_; intro A' c'' w2 hown2 hbel2 hsz2 _; rw [HE.out] at hown2; have HO2 := Lib.hid hown2; have HL2 := Lib.hid hbel2; clear hown2 hbel2))
      go_roundw
      case rel => exact ⟨k + 1, A', c'', by omega, by go_num, rfl, HO2.out, HL2.out⟩
      case measure => simp [intOf]; omega
    · obtain rfl : k = 16 := by omega
      obtain ⟨gl, rfl, hgl, hgl'⟩ := owns_some HR.out (by omega)
      have hne : gl ≠ g := by omega
      obtain ⟨f, hf⟩ : ∃ f : Nat → Nat, ∀ i, m.getD (orders.getD (n * 16 + i) 0) 0 = f i := ⟨_, fun _ => rfl⟩
      have HK := Lib.hid (show ∀ i, i < 16 → wr.cell? ⟨gl, i, none⟩ = some (.int .u32 (f i : Nat)) from fun i hi => by
        rw [World.ownsRow.cellAt HR.out i (by omega), wcells_get _ i (by rw [inOrder_length]; exact hi), inOrder_get _ _ _ _ hi, hf])
      have HFI := Lib.hid hf
      have HG := Lib.hid (World.grownBy.refl wr (some g))
      have HG0 := Lib.hid (grown_below (g := g) HB.out)
      have ho := HO.out.below HB.out hgw
      clear hf HO HR HC HMF HB hos
      have HO := Lib.hid ho
      clear ho
      have c1 := grown_cell HG.out hgl' hne (HK.out 0 (by omega))
      have c2 := grown_cell HG.out hgl' hne (HK.out 1 (by omega))
      generalize ex0 : f 0 = x0 at c1
      generalize ey0 : f 1 = y0 at c2
      have HX0 := Lib.hid ex0
      have HY0 := Lib.hid ey0
      clear ex0 ey0
      go_wp2_with fail
      refine wp_region_still_tail 7 (by kernel_rfl) (by kernel_rfl) ?_
      simp only [List.take_succ_cons, List.take_zero, List.drop_succ_cons, List.drop_zero]
      repeat still_step
      refine wpStill_nil ?_
      change wpList _ _ _ _ _ wr.drew
      go_wp2_with fail
      clear c1 c2
      refine (mix_ref g c 0 4 8 12 x0 y0 B s HL.out HF.out (by omega) (by omega) (by omega) (by omega) _ HO.out.drew).mono ?_
      rintro e w0 ⟨rfl, ho, hg⟩
      have hf1 : Fits (mixL s 0 4 8 12 x0 y0) := mixL_fits HF.out _ _ _ _ _ _
      have hl1 : (mixL s 0 4 8 12 x0 y0).length = 16 := by rw [mixL_length]; exact HL.out
      have hg1 := grown_trans HG.out (grown_trans (grown_drewN wr g 1) hg)
      clear HF HL HO HG hg
      generalize hs : mixL s 0 4 8 12 x0 y0 = s0 at ho hf1 hl1
      have HS0 := Lib.hid hs
      have HF := Lib.hid hf1
      have HL := Lib.hid hl1
      have HO := Lib.hid ho
      have HG := Lib.hid hg1
      clear hs hf1 hl1 ho hg1
      have c1 := grown_cell HG.out hgl' hne (HK.out 2 (by omega))
      have c2 := grown_cell HG.out hgl' hne (HK.out 3 (by omega))
      generalize ex1 : f 2 = x1 at c1
      generalize ey1 : f 3 = y1 at c2
      have HX1 := Lib.hid ex1
      have HY1 := Lib.hid ey1
      clear ex1 ey1
      go_wp2_with fail
      refine wp_region_still_tail 7 (by kernel_rfl) (by kernel_rfl) ?_
      simp only [List.take_succ_cons, List.take_zero, List.drop_succ_cons, List.drop_zero]
      repeat still_step
      refine wpStill_nil ?_
      change wpList _ _ _ _ _ w0.drew
      go_wp2_with fail
      clear c1 c2
      refine (mix_ref g c 1 5 9 13 x1 y1 B s0 HL.out HF.out (by omega) (by omega) (by omega) (by omega) _ HO.out.drew).mono ?_
      rintro e w1 ⟨rfl, ho, hg⟩
      have hf1 : Fits (mixL s0 1 5 9 13 x1 y1) := mixL_fits HF.out _ _ _ _ _ _
      have hl1 : (mixL s0 1 5 9 13 x1 y1).length = 16 := by rw [mixL_length]; exact HL.out
      have hg1 := grown_trans HG.out (grown_trans (grown_drewN w0 g 1) hg)
      clear HF HL HO HG hg
      generalize hs : mixL s0 1 5 9 13 x1 y1 = s1 at ho hf1 hl1
      have HS1 := Lib.hid hs
      have HF := Lib.hid hf1
      have HL := Lib.hid hl1
      have HO := Lib.hid ho
      have HG := Lib.hid hg1
      clear hs hf1 hl1 ho hg1
      have c1 := grown_cell HG.out hgl' hne (HK.out 4 (by omega))
      have c2 := grown_cell HG.out hgl' hne (HK.out 5 (by omega))
      generalize ex2 : f 4 = x2 at c1
      generalize ey2 : f 5 = y2 at c2
      have HX2 := Lib.hid ex2
      have HY2 := Lib.hid ey2
      clear ex2 ey2
      go_wp2_with fail
      refine wp_region_still_tail 7 (by kernel_rfl) (by kernel_rfl) ?_
      simp only [List.take_succ_cons, List.take_zero, List.drop_succ_cons, List.drop_zero]
      repeat still_step
      refine wpStill_nil ?_
      change wpList _ _ _ _ _ w1.drew
      go_wp2_with fail
      clear c1 c2
      refine (mix_ref g c 2 6 10 14 x2 y2 B s1 HL.out HF.out (by omega) (by omega) (by omega) (by omega) _ HO.out.drew).mono ?_
      rintro e w2 ⟨rfl, ho, hg⟩
      have hf1 : Fits (mixL s1 2 6 10 14 x2 y2) := mixL_fits HF.out _ _ _ _ _ _
      have hl1 : (mixL s1 2 6 10 14 x2 y2).length = 16 := by rw [mixL_length]; exact HL.out
      have hg1 := grown_trans HG.out (grown_trans (grown_drewN w1 g 1) hg)
      clear HF HL HO HG hg
      generalize hs : mixL s1 2 6 10 14 x2 y2 = s2 at ho hf1 hl1
      have HS2 := Lib.hid hs
      have HF := Lib.hid hf1
      have HL := Lib.hid hl1
      have HO := Lib.hid ho
      have HG := Lib.hid hg1
      clear hs hf1 hl1 ho hg1
      have c1 := grown_cell HG.out hgl' hne (HK.out 6 (by omega))
      have c2 := grown_cell HG.out hgl' hne (HK.out 7 (by omega))
      generalize ex3 : f 6 = x3 at c1
      generalize ey3 : f 7 = y3 at c2
      have HX3 := Lib.hid ex3
      have HY3 := Lib.hid ey3
      clear ex3 ey3
      go_wp2_with fail
      refine wp_region_still_tail 7 (by kernel_rfl) (by kernel_rfl) ?_
      simp only [List.take_succ_cons, List.take_zero, List.drop_succ_cons, List.drop_zero]
      repeat still_step
      refine wpStill_nil ?_
      change wpList _ _ _ _ _ w2.drew
      go_wp2_with fail
      clear c1 c2
      refine (mix_ref g c 3 7 11 15 x3 y3 B s2 HL.out HF.out (by omega) (by omega) (by omega) (by omega) _ HO.out.drew).mono ?_
      rintro e w3 ⟨rfl, ho, hg⟩
      have hf1 : Fits (mixL s2 3 7 11 15 x3 y3) := mixL_fits HF.out _ _ _ _ _ _
      have hl1 : (mixL s2 3 7 11 15 x3 y3).length = 16 := by rw [mixL_length]; exact HL.out
      have hg1 := grown_trans HG.out (grown_trans (grown_drewN w2 g 1) hg)
      clear HF HL HO HG hg
      generalize hs : mixL s2 3 7 11 15 x3 y3 = s3 at ho hf1 hl1
      have HS3 := Lib.hid hs
      have HF := Lib.hid hf1
      have HL := Lib.hid hl1
      have HO := Lib.hid ho
      have HG := Lib.hid hg1
      clear hs hf1 hl1 ho hg1
      have c1 := grown_cell HG.out hgl' hne (HK.out 8 (by omega))
      have c2 := grown_cell HG.out hgl' hne (HK.out 9 (by omega))
      generalize ex4 : f 8 = x4 at c1
      generalize ey4 : f 9 = y4 at c2
      have HX4 := Lib.hid ex4
      have HY4 := Lib.hid ey4
      clear ex4 ey4
      go_wp2_with fail
      refine wp_region_still_tail 7 (by kernel_rfl) (by kernel_rfl) ?_
      simp only [List.take_succ_cons, List.take_zero, List.drop_succ_cons, List.drop_zero]
      repeat still_step
      refine wpStill_nil ?_
      change wpList _ _ _ _ _ w3.drew
      go_wp2_with fail
      clear c1 c2
      refine (mix_ref g c 0 5 10 15 x4 y4 B s3 HL.out HF.out (by omega) (by omega) (by omega) (by omega) _ HO.out.drew).mono ?_
      rintro e w4 ⟨rfl, ho, hg⟩
      have hf1 : Fits (mixL s3 0 5 10 15 x4 y4) := mixL_fits HF.out _ _ _ _ _ _
      have hl1 : (mixL s3 0 5 10 15 x4 y4).length = 16 := by rw [mixL_length]; exact HL.out
      have hg1 := grown_trans HG.out (grown_trans (grown_drewN w3 g 1) hg)
      clear HF HL HO HG hg
      generalize hs : mixL s3 0 5 10 15 x4 y4 = s4 at ho hf1 hl1
      have HS4 := Lib.hid hs
      have HF := Lib.hid hf1
      have HL := Lib.hid hl1
      have HO := Lib.hid ho
      have HG := Lib.hid hg1
      clear hs hf1 hl1 ho hg1
      have c1 := grown_cell HG.out hgl' hne (HK.out 10 (by omega))
      have c2 := grown_cell HG.out hgl' hne (HK.out 11 (by omega))
      generalize ex5 : f 10 = x5 at c1
      generalize ey5 : f 11 = y5 at c2
      have HX5 := Lib.hid ex5
      have HY5 := Lib.hid ey5
      clear ex5 ey5
      go_wp2_with fail
      refine wp_region_still_tail 7 (by kernel_rfl) (by kernel_rfl) ?_
      simp only [List.take_succ_cons, List.take_zero, List.drop_succ_cons, List.drop_zero]
      repeat still_step
      refine wpStill_nil ?_
      change wpList _ _ _ _ _ w4.drew
      go_wp2_with fail
      clear c1 c2
      refine (mix_ref g c 1 6 11 12 x5 y5 B s4 HL.out HF.out (by omega) (by omega) (by omega) (by omega) _ HO.out.drew).mono ?_
      rintro e w5 ⟨rfl, ho, hg⟩
      have hf1 : Fits (mixL s4 1 6 11 12 x5 y5) := mixL_fits HF.out _ _ _ _ _ _
      have hl1 : (mixL s4 1 6 11 12 x5 y5).length = 16 := by rw [mixL_length]; exact HL.out
      have hg1 := grown_trans HG.out (grown_trans (grown_drewN w4 g 1) hg)
      clear HF HL HO HG hg
      generalize hs : mixL s4 1 6 11 12 x5 y5 = s5 at ho hf1 hl1
      have HS5 := Lib.hid hs
      have HF := Lib.hid hf1
      have HL := Lib.hid hl1
      have HO := Lib.hid ho
      have HG := Lib.hid hg1
      clear hs hf1 hl1 ho hg1
      have c1 := grown_cell HG.out hgl' hne (HK.out 12 (by omega))
      have c2 := grown_cell HG.out hgl' hne (HK.out 13 (by omega))
      generalize ex6 : f 12 = x6 at c1
      generalize ey6 : f 13 = y6 at c2
      have HX6 := Lib.hid ex6
      have HY6 := Lib.hid ey6
      clear ex6 ey6
      go_wp2_with fail
      refine wp_region_still_tail 7 (by kernel_rfl) (by kernel_rfl) ?_
      simp only [List.take_succ_cons, List.take_zero, List.drop_succ_cons, List.drop_zero]
      repeat still_step
      refine wpStill_nil ?_
      change wpList _ _ _ _ _ w5.drew
      go_wp2_with fail
      clear c1 c2
      refine (mix_ref g c 2 7 8 13 x6 y6 B s5 HL.out HF.out (by omega) (by omega) (by omega) (by omega) _ HO.out.drew).mono ?_
      rintro e w6 ⟨rfl, ho, hg⟩
      have hf1 : Fits (mixL s5 2 7 8 13 x6 y6) := mixL_fits HF.out _ _ _ _ _ _
      have hl1 : (mixL s5 2 7 8 13 x6 y6).length = 16 := by rw [mixL_length]; exact HL.out
      have hg1 := grown_trans HG.out (grown_trans (grown_drewN w5 g 1) hg)
      clear HF HL HO HG hg
      generalize hs : mixL s5 2 7 8 13 x6 y6 = s6 at ho hf1 hl1
      have HS6 := Lib.hid hs
      have HF := Lib.hid hf1
      have HL := Lib.hid hl1
      have HO := Lib.hid ho
      have HG := Lib.hid hg1
      clear hs hf1 hl1 ho hg1
      have c1 := grown_cell HG.out hgl' hne (HK.out 14 (by omega))
      have c2 := grown_cell HG.out hgl' hne (HK.out 15 (by omega))
      generalize ex7 : f 14 = x7 at c1
      generalize ey7 : f 15 = y7 at c2
      have HX7 := Lib.hid ex7
      have HY7 := Lib.hid ey7
      clear ex7 ey7
      go_wp2_with fail
      refine wp_region_still_tail 7 (by kernel_rfl) (by kernel_rfl) ?_
      simp only [List.take_succ_cons, List.take_zero, List.drop_succ_cons, List.drop_zero]
      repeat still_step
      refine wpStill_nil ?_
      change wpList _ _ _ _ _ w6.drew
      go_wp2_with fail
      clear c1 c2
      refine (mix_ref g c 3 4 9 14 x7 y7 B s6 HL.out HF.out (by omega) (by omega) (by omega) (by omega) _ HO.out.drew).mono ?_
      rintro e w7 ⟨rfl, ho, hg⟩
      have hf1 : Fits (mixL s6 3 4 9 14 x7 y7) := mixL_fits HF.out _ _ _ _ _ _
      have hl1 : (mixL s6 3 4 9 14 x7 y7).length = 16 := by rw [mixL_length]; exact HL.out
      have hg1 := grown_trans HG.out (grown_trans (grown_drewN w6 g 1) hg)
      clear HF HL HO HG hg
      generalize hs : mixL s6 3 4 9 14 x7 y7 = s7 at ho hf1 hl1
      have HS7 := Lib.hid hs
      have HF := Lib.hid hf1
      have HL := Lib.hid hl1
      have HO := Lib.hid ho
      have HG := Lib.hid hg1
      clear hs hf1 hl1 ho hg1
      go_wp2_with fail
      go_end0
      refine ⟨rfl, ?_, grown_trans HG0.out HG.out⟩
      rw [← round_is]
      rw [HFI.out 0, HFI.out 1, HFI.out 2, HFI.out 3, HFI.out 4, HFI.out 5, HFI.out 6, HFI.out 7, HFI.out 8, HFI.out 9, HFI.out 10, HFI.out 11, HFI.out 12, HFI.out 13, HFI.out 14, HFI.out 15]
      rw [HX0.out, HY0.out, HS0.out, HX1.out, HY1.out, HS1.out, HX2.out, HY2.out, HS2.out, HX3.out, HY3.out, HS3.out, HX4.out, HY4.out, HS4.out, HX5.out, HY5.out, HS5.out, HX6.out, HY6.out, HS6.out, HX7.out, HY7.out, HS7.out]
      exact HO.out
end RefB
end Go.Proofs.YtcoppcididemkaaDoor
