/- The call take of package blake: a block is taken in. -/
import Derived.Test.YtcoppcididemkaaDoorBlakeCells
import Derived.Laws.BitsAllLaws
import Derived.Deep.DeepCutAuto
namespace Go.Proofs.YtcoppcididemkaaDoor
namespace Blake
open Go.ChangeShapes Go.WideShapes Go.ChangeAt Go.RowKit
open Num Mem Words State Chacha Quiet

structure TakeW (w : World) (g V size : Nat) (S : List Nat) (b : Nat → Nat) (filled count : Nat) (s : List Nat) (X : World) : Prop where
  mem : Whole X V 53 (wcells s).toArray
  hash : HashAt X g size S b filled count
  laid : Laid X
  grown : w.grownBy X (some g)

def fillV (S : List Nat) (k : Nat) : List Nat := (List.range 16).map fun i => if i < k then S.getD i 0 else if 8 ≤ i ∧ i < 8 + k then eight.getD (i - 8) 0 else 0
theorem fillV_length (S : List Nat) (k : Nat) : (fillV S k).length = 16 := by simp [fillV]
theorem fillV_none (S : List Nat) : fillV S 0 = List.replicate 16 0 := by simp [fillV, List.range_succ, List.replicate]
theorem fillV_set (S : List Nat) (k : Nat) (h : k < 8) : ((fillV S k).set k (S.getD k 0)).set (8 + k) (eight.getD k 0) = fillV S (k + 1) := by
  apply List.ext_getElem?
  intro i
  by_cases hi : i < 16
  · rw [List.getElem?_set, List.getElem?_set]
    simp only [List.length_set, fillV_length]
    unfold fillV
    simp only [List.getElem?_map, List.getElem?_range hi, Option.map_some]
    by_cases e : 8 + k = i
    · subst e
      rw [if_pos rfl, if_pos (by omega), if_neg (by omega), if_pos (by omega), Nat.add_sub_cancel_left]
    · rw [if_neg e]
      by_cases e2 : k = i
      · subst e2
        rw [if_pos rfl, if_pos (by omega), if_pos (by omega)]
      · rw [if_neg e2]
        by_cases l : i < k
        · rw [if_pos l, if_pos (by omega)]
        · rw [if_neg l, if_neg (show ¬ i < k + 1 by omega)]
          by_cases l2 : 8 ≤ i ∧ i < 8 + k
          · rw [if_pos l2, if_pos (by omega)]
          · rw [if_neg l2, if_neg (by omega)]
  · rw [List.getElem?_eq_none (by simp [fillV_length]; omega), List.getElem?_eq_none (by rw [fillV_length]; omega)]
theorem fillV_all {S : List Nat} (hS : S.length = 8) : fillV S 8 = S ++ eight := by
  apply List.ext_getElem?
  intro i
  by_cases hi : i < 16
  · unfold fillV
    simp only [List.getElem?_map, List.getElem?_range hi, Option.map_some]
    by_cases l : i < 8
    · rw [if_pos l, List.getElem?_append_left (by omega), List.getD, List.getElem?_eq_getElem (by omega)]
      rfl
    · rw [if_neg l, if_pos ⟨by omega, by omega⟩, List.getElem?_append_right (by omega), hS, List.getD, List.getElem?_eq_getElem (by simp [eight]; omega)]
      rfl
  · rw [List.getElem?_eq_none (by rw [fillV_length]; omega), List.getElem?_eq_none (by simp [hS, eight]; omega)]
theorem behind_get {S l : List Nat} (hS : S.length = 8) (i : Nat) : (S ++ l).getD (8 + i) 0 = l.getD i 0 := by
  rw [List.getD, List.getD, List.getElem?_append_right (by omega), hS, Nat.add_sub_cancel_left]
theorem behind_set {S l : List Nat} (hS : S.length = 8) (i v : Nat) : (S ++ l).set (8 + i) v = S ++ l.set i v := by
  rw [List.set_append_right _ _ (by omega), hS, Nat.add_sub_cancel_left]
def one12 (S : List Nat) (c : Nat) : List Nat := S ++ [1779033703, 3144134277, 1013904242, 2773480762, 1359893119 ^^^ (c % 4294967296), 2600822924, 528734635, 1541459225]
theorem step12 {S : List Nat} (hS : S.length = 8) (c : Nat) : (S ++ eight).set 12 (1359893119 ^^^ (c % 4294967296)) = one12 S c := behind_set hS 4 _
theorem step13 {S : List Nat} (hS : S.length = 8) (c : Nat) : (one12 S c).set 13 (2600822924 ^^^ (c / 4294967296)) = startL S c false := behind_set hS 5 _
theorem step14 {S : List Nat} (hS : S.length = 8) (c : Nat) : (startL S c false).set 14 3766232660 = startL S c true := behind_set hS 6 _
theorem one12_length {S : List Nat} (hS : S.length = 8) (c : Nat) : (one12 S c).length = 16 := by simp [one12, hS]
theorem get12 {S : List Nat} (hS : S.length = 8) : (S ++ eight).getD 12 0 = 1359893119 := behind_get hS 4
theorem get13 {S : List Nat} (hS : S.length = 8) (c : Nat) : (one12 S c).getD 13 0 = 2600822924 := behind_get hS 5
theorem get14 {S : List Nat} (hS : S.length = 8) (c : Nat) : (startL S c false).getD 14 0 = 528734635 := behind_get hS 6

def foldS (S v : List Nat) (k : Nat) : List Nat := (List.range 8).map fun i => if i < k then S.getD i 0 ^^^ (v.getD i 0 ^^^ v.getD (8 + i) 0) else S.getD i 0
theorem foldS_length (S v : List Nat) (k : Nat) : (foldS S v k).length = 8 := by simp [foldS]
theorem foldS_none {S : List Nat} (hS : S.length = 8) (v : List Nat) : foldS S v 0 = S := by
  apply List.ext_getElem?
  intro i
  by_cases hi : i < 8
  · unfold foldS
    simp only [List.getElem?_map, List.getElem?_range hi, Option.map_some]
    rw [if_neg (by omega), List.getD, List.getElem?_eq_getElem (by omega)]
    rfl
  · rw [List.getElem?_eq_none (by rw [foldS_length]; omega), List.getElem?_eq_none (by omega)]
theorem foldS_all (S v : List Nat) : foldS S v 8 = foldL S v := by
  unfold foldS foldL
  exact List.map_congr_left fun i hi => if_pos (List.mem_range.1 hi)
theorem foldS_get (S v : List Nat) (k : Nat) (h : k < 8) : (foldS S v k).getD k 0 = S.getD k 0 := by
  unfold foldS
  rw [List.getD, List.getElem?_map, List.getElem?_range h]
  simp
theorem foldS_set (S v : List Nat) (k : Nat) (h : k < 8) : (foldS S v k).set k (S.getD k 0 ^^^ (v.getD k 0 ^^^ v.getD (8 + k) 0)) = foldS S v (k + 1) := by
  apply List.ext_getElem?
  intro i
  by_cases hi : i < 8
  · rw [List.getElem?_set, foldS_length]
    unfold foldS
    simp only [List.getElem?_map, List.getElem?_range hi, Option.map_some]
    by_cases e : k = i
    · subst e
      rw [if_pos rfl, if_pos h, if_pos (by omega)]
    · rw [if_neg e]
      by_cases l : i < k
      · rw [if_pos l, if_pos (by omega)]
      · rw [if_neg l, if_neg (by omega)]
  · rw [List.getElem?_eq_none (by simp [foldS_length]; omega), List.getElem?_eq_none (by rw [foldS_length]; omega)]

theorem zeros64_built : Tryd.prog.built 38 [] = some (byteCells (fun _ => 0) 64).toArray := by kernel_rfl

theorem TakeW.store {w : World} {g V size : Nat} {S : List Nat} {b : Nat → Nat} {filled count : Nat} {s : List Nat} {X : World} (h : TakeW w g V size S b filled count s X) (hV : 2 ≤ V) (hgV : g ≠ V) (hw : w.heap.size ≤ V) (i v : Nat) :
    TakeW w g V size S b filled count (s.set i v) (X.setCell ⟨V, i, none⟩ (.int .u32 (v : Nat))) := by
  have hg2 : X.grownBy (X.setCell ⟨V, i, none⟩ (.int .u32 (v : Nat))) (some V) := grown_set X V i _
  refine ⟨?_, h.hash.grown hg2 hgV, laid_of h.laid hV hg2, ?_⟩
  · have := h.mem.put i (.int .u32 (v : Nat))
    rwa [wcells_set] at this
  · exact ⟨hg2.os.trans h.grown.os, hg2.tape.trans h.grown.tape, hg2.output.trans h.grown.output, Nat.le_trans h.grown.size hg2.size, fun k hk hne => (hg2.block k (by have := h.grown.size; omega) (by simp; omega)).trans (h.grown.block k hk hne)⟩
theorem TakeW.drew {w : World} {g V size : Nat} {S : List Nat} {b : Nat → Nat} {filled count : Nat} {s : List Nat} {X : World} (h : TakeW w g V size S b filled count s X) (k : Nat) : TakeW w g V size S b filled count s (X.drewN k) :=
  ⟨h.mem, h.hash, ⟨h.laid.eight, h.laid.orders, h.laid.size⟩, grown_trans h.grown (grown_drewN X g k)⟩
theorem TakeW.below {w : World} {g V size : Nat} {S : List Nat} {b : Nat → Nat} {filled count : Nat} {s : List Nat} {X Y : World} (h : TakeW w g V size S b filled count s X) (hb : Below X.heap.size X Y) (hV : V < X.heap.size) : TakeW w g V size S b filled count s Y :=
  ⟨h.mem.below hb hV, h.hash.below hb h.hash.lt, ⟨fun i hi => by rw [← h.laid.eight i hi]; exact hb.cell (p := ⟨0, i, none⟩) (show 0 < _ by have := h.laid.size; omega), fun i hi => by rw [← h.laid.orders i hi]; exact hb.cell (p := ⟨1, i, none⟩) (show 1 < _ by have := h.laid.size; omega), Nat.le_trans h.laid.size hb.size⟩, grown_trans h.grown (grown_below hb)⟩

theorem TakeW.fold {w : World} {g V size : Nat} {S : List Nat} {b : Nat → Nat} {filled count : Nat} {s : List Nat} {X : World} (h : TakeW w g V size S b filled count s X) (hS : S.length = 8) (hg : 2 ≤ g) (hgV : g ≠ V) (i v : Nat) (hi : i < 8) :
    TakeW w g V size (S.set i v) b filled count s (X.setCell ⟨g, 1 + i, none⟩ (.int .u32 (v : Nat))) := by
  have k : X.grownBy (X.setCell ⟨g, 1 + i, none⟩ (.int .u32 (v : Nat))) (some g) := grown_set X g (1 + i) _
  exact ⟨whole_grown h.mem k (fun e => hgV e.symm), h.hash.set_sum hS i v hi, laid_of h.laid hg k, grown_trans h.grown k⟩
theorem grown_far {w X Y : World} {g V : Nat} (h : w.grownBy X (some g)) (k : X.grownBy Y (some V)) (hV : w.heap.size ≤ V) : w.grownBy Y (some g) :=
  ⟨k.os.trans h.os, k.tape.trans h.tape, k.output.trans h.output, Nat.le_trans h.size k.size, fun i hi hne => (k.block i (by have := h.size; omega) (by simp; omega)).trans (h.block i hi hne)⟩

set_option maxRecDepth 100000 in
set_option maxHeartbeats 4000000 in
theorem take_any (g size filled count : Nat) (S : List Nat) (b : Nat → Nat) (last : Bool) (hS : S.length = 8) (hf : Fits S) (hb : ∀ i, b i < 256) (hc : count < 18446744073709551616) (hg : 2 ≤ g) (w : World) (hL : Laid w) (hw : HashAt w g size S b filled count) :
    Calls Tryd.prog 17 #[.pointer (some ⟨g, 0, none⟩), .bool last] w fun e w' => e = .returned (.tuple #[]) ∧ HashAt w' g size (takeL S (numsOf b 0) count last) (fun _ => 0) 0 count ∧ w.grownBy w' (some g) := by
  have hgl := hw.lt
  have HS := Lib.hid hS
  have HF := Lib.hid hf
  have HB := Lib.hid hb
  have HL := Lib.hid hL
  have HW := Lib.hid hw
  have HT := Lib.hid (show takeL S (numsOf b 0) count last = foldL S (roundsL (numsOf b 0) (startL S count last) 10) from rfl)
  have HZ64 := Lib.hid (show ∀ f, (byteCells f 64).toArray.size = 64 from fun f => by rw [List.size_toArray, byteCells_length])
  have HZ16 := Lib.hid (show ∀ s : List Nat, s.length = 16 → (wcells s).toArray.size = 16 from fun s h => by rw [List.size_toArray, wcells_length, h])
  have hV0 : w.heap.size ≤ w.heap.size := Nat.le_refl _
  have hg2 := hL.size
  generalize takeL S (numsOf b 0) count last = R at HT ⊢
  clear hS hf hb hL hw
  go_enter Tryd.func17, Tryd.ntmps17
  go_wp2_with fail
  refine cut_world (fun W => TakeW w g w.heap.size size S b filled count (fillV S 0) W) ⟨?_, HW.out.below (Below.alloc (Below.refl w.heap.size w) (Nat.le_refl _) _) hgl, laid_alloc HL.out _, grown_alloc w g _⟩ ?_
  · rw [fillV_none]
    exact whole_new _ _ rfl
  rintro W hr
  have HR := Lib.hid hr
  clear hr HW HL
  have hlt0 := HR.out.mem.lt
  have HN := Lib.hid (show 2 ≤ w.heap.size ∧ g ≠ w.heap.size by omega)
  have HSZ := Lib.hid hV0
  clear hV0 hg2
  generalize hV : w.heap.size = V at HR hgl hlt0 HN
  replace HSZ := Lib.hid (show w.heap.size ≤ V by omega)
  clear hV
  go_loopw [9] (fun i wr => ∃ k : Nat, k ≤ 8 ∧ i = .int .i64 k ∧ TakeW w g V size S b filled count (fillV S k) wr) (fun i _ => 8 - (intOf i).toNat)
  case atStart => exact ⟨0, by omega, rfl, HR.out⟩
  case round =>
    obtain ⟨k, hk, rfl, hr⟩ := hrel
    by_cases hlt : k < 8
    · clear HR
      have HR := Lib.hid hr
      have hki : (k : Int) < 8 := by omega
      obtain ⟨e8, he8⟩ : ∃ e, e = 8 + k := ⟨_, rfl⟩
      have h16 : (e8 : Int) < 16 := by omega
      have hk16 : (k : Int) < 16 := by omega
      have w8 := wrap_small (8 + (k : Int)) e8 (by omega) (by omega)
      have C1 := Lib.hid (fun X (hb : Below wr.heap.size wr X) => (hr.hash.below hb hr.hash.lt).cell_sum HS.out k hlt)
      have C2 := Lib.hid (fun X (hb : Below wr.heap.size wr X) => (hr.below hb hr.mem.lt).laid.eight k hlt)
      have C3 := Lib.hid (fun X (hb : Below wr.heap.size wr X) => hr.below hb hr.mem.lt)
      have HE := Lib.hid (fillV_set S k hlt)
      rw [← he8] at HE
      clear he8 hr
      generalize S.getD k 0 = x at C1 HE
      generalize eight.getD k 0 = y at C2 HE
      go_wp2_with fail
      refine region_drew (fun _ => True) (by kernel_rfl) trivial ?_
      intro _
      have hS : Below wr.heap.size wr wr.drew := below_drewN (Below.refl _ _) 1
      refine take 1 _ rfl (by kernel_rfl) (by kernel_rfl) (by kernel_rfl) (fun _ _ _ h => h) (by rfl) trivial (by intro w _; go_simp; with_reducible rfl) ?_
      try simp only [Act.put, List.setIfInBounds_toArray, List.set_cons_zero, List.set_cons_succ]
      refine take 2 _ rfl (by kernel_rfl) (by kernel_rfl) (by kernel_rfl) (fun _ _ _ h => h) (by rfl) trivial (by intro w _; go_simp; with_reducible rfl) ?_
      try simp only [Act.put, List.setIfInBounds_toArray, List.set_cons_zero, List.set_cons_succ]
      refine Float.float (W := wr) [(0, 12, .is (.int .i64 (k : Nat))), (3, 15, .is (.pointer (some ⟨g, 0, none⟩))), (4, 16, .is (.int .i64 (k : Nat))), (5, 17, .is (.pointer (some ⟨g, 0, none⟩))), (6, 18, .is (.pointer (some ⟨g, 1, none⟩))), (7, 19, .is (.pointer (some ⟨g, 1 + k, none⟩))), (8, 20, .is (.int .u32 (x : Nat))), (9, 21, .is (.int .i64 (k : Nat))), (10, 22, .is (.pointer (some ⟨0, k, none⟩))), (11, 23, .is (.int .u32 (y : Nat))), (12, 24, .is (.pointer (some ⟨V, k, none⟩)))] [0, 3, 4, 5, 6, 7, 8, 9, 10, 11, 12] 3 rfl (by rfl) (by kernel_rfl) (by kernel_rfl) (by kernel_rfl) (by kernel_rfl) (by kernel_rfl) (fun γ => rfl) hS (fun _ _ => trivial) ?_ ?_
      · intro γ
        simp only [Float.puts, Act.put, List.setIfInBounds_toArray, List.set_cons_zero, List.set_cons_succ]
        refine ⟨?_, ?_, ?_, ?_, ?_, ?_, ?_, ?_, ?_, ?_, ?_, trivial⟩
        · exact ⟨_, _, rfl, Float.does_take (by intro w _; go_simp; try with_reducible rfl)⟩
        · exact ⟨_, _, rfl, Float.does_take (by intro w _; go_simp; try with_reducible rfl)⟩
        · exact ⟨_, _, rfl, Float.does_take (by intro w _; go_simp; try with_reducible rfl)⟩
        · exact ⟨_, _, rfl, Float.does_take (by intro w _; go_simp; try with_reducible rfl)⟩
        · exact ⟨_, _, rfl, Float.does_take (by intro w _; go_simp; try with_reducible rfl)⟩
        · exact ⟨_, _, rfl, Float.does_take (by intro w _; go_simp; try with_reducible rfl)⟩
        · exact ⟨_, _, rfl, Float.does_take (by intro w hw; have hcl := C1.out w hw; go_simp; try with_reducible rfl)⟩
        · exact ⟨_, _, rfl, Float.does_take (by intro w _; go_simp; try with_reducible rfl)⟩
        · exact ⟨_, _, rfl, Float.does_take (by intro w _; go_simp; try with_reducible rfl)⟩
        · exact ⟨_, _, rfl, Float.does_take (by intro w hw; have hcl := C2.out w hw; go_simp; try with_reducible rfl)⟩
        · exact ⟨_, _, rfl, Float.does_take (by intro w _; go_simp; try with_reducible rfl)⟩
      · intro γ v hS hrows hne
        simp only [Float.puts, Act.put, List.setIfInBounds_toArray, List.set_cons_zero, List.set_cons_succ]
        clear hne hrows
        clear γ
        have K1 := Lib.hid (C3.out v hS)
        have c1 := K1.out.mem.cell k
        have c2 := ((K1.out.mem.put k (.int .u32 (x : Nat)))).cell e8
        have f1 := K1.out.mem.free k
        have f2 := ((K1.out.mem.put k (.int .u32 (x : Nat)))).free e8
        rw [List.getElem?_toArray, wcells_get _ _ (by rw [fillV_length]; omega)] at c1
        rw [wcells_set, List.getElem?_toArray, wcells_get _ _ (by rw [List.length_set, fillV_length]; omega)] at c2
        refine alone 13 rfl (by kernel_rfl) (by rfl) ?_
        intro K hK
        go_simp
        refine hK.out _ _ trivial ?_
        clear hK K
        try simp only [Act.put, List.setIfInBounds_toArray, List.set_cons_zero, List.set_cons_succ]
        refine alone 14 rfl (by kernel_rfl) (by rfl) ?_
        intro K hK
        go_simp
        refine hK.out _ _ trivial ?_
        clear hK K
        try simp only [Act.put, List.setIfInBounds_toArray, List.set_cons_zero, List.set_cons_succ]
        refine alone 15 rfl (by kernel_rfl) (by rfl) ?_
        intro K hK
        go_simp
        refine hK.out _ _ trivial ?_
        clear hK K
        try simp only [Act.put, List.setIfInBounds_toArray, List.set_cons_zero, List.set_cons_succ]
        refine region_end (by kernel_rfl) ?_
        have K2 := Lib.hid ((K1.out.store HN.out.1 HN.out.2 HSZ.out k x).store HN.out.1 HN.out.2 HSZ.out e8 y)
        rw [HE.out] at K2
        refine cut_post (F := Exit.inBlock _ (Exit.then _ _)) (fun X => TakeW w g V size S b filled count (fillV S (k + 1)) X) K2.out ?_
        clear K1 K2 c1 c2 f1 f2 hS C1 C2 C3 HE w8
        rintro w2 hr2
        have HR2 := Lib.hid hr2
        clear hr2
        have wk := wrap_small ((k : Int) + 1) (k + 1) (by omega) (by omega)
        go_wp2_with fail
        exact ⟨⟨k + 1, by omega, by simp, HR2.out⟩, by simp [intOf]; omega⟩
    · obtain rfl : k = 8 := by omega
      clear HR hk hlt
      rw [fillV_all HS.out] at hr
      have HR := Lib.hid hr
      have hnl : ¬ ((8 : Nat) : Int) < 8 := by omega
      -- the count's lower half
      have c12 := hr.mem.cell 12
      rw [List.getElem?_toArray, wcells_get _ _ (by simp [HS.out, eight]), get12 HS.out] at c12
      have f12 := hr.mem.free 12
      have cc := hr.hash.cell_count HS.out
      have X12 := Lib.hid (show bits .xor .u32 (1359893119 : Int) ((count % 4294967296 : Nat) : Int) = ((1359893119 ^^^ (count % 4294967296) : Nat) : Int) from u32_xor_nat 1359893119 (count % 4294967296) (by omega) (by omega))
      have W12 := Lib.hid (show IntKind.u32.wrap (count : Int) = ((count % 4294967296 : Nat) : Int) from by
        show ((count : Int) % 4294967296) = _
        omega)
      have K12 := Lib.hid ((hr.store HN.out.1 HN.out.2 HSZ.out 12 (1359893119 ^^^ (count % 4294967296))).drew 1)
      rw [step12 HS.out] at K12
      clear hr
      go_wp2_with fail
      refine wp_region_still_tail 9 (by kernel_rfl) (by kernel_rfl) ?_
      simp only [List.take_succ_cons, List.take_zero, List.drop_succ_cons, List.drop_zero]
      repeat still_step
      refine wpStill_nil ?_
      change wpList _ _ _ _ _ wr.drew
      rw [W12.out, X12.out]
      generalize 1359893119 ^^^ (count % 4294967296) = z at K12 ⊢
      go_wp2_with fail
      refine cut_world (fun X => TakeW w g V size S b filled count (one12 S count) X) K12.out ?_
      clear K12 c12 f12 X12 W12 HR
      rintro w12 hr
      have c12 := hr.mem.cell 13
      rw [List.getElem?_toArray, wcells_get _ _ (by rw [one12_length HS.out]; omega), get13 HS.out] at c12
      have f12 := hr.mem.free 13
      have cc := hr.hash.cell_count HS.out
      have X12 := Lib.hid (show bits .xor .u32 (2600822924 : Int) ((count / 4294967296 : Nat) : Int) = ((2600822924 ^^^ (count / 4294967296) : Nat) : Int) from u32_xor_nat 2600822924 (count / 4294967296) (by omega) (by omega))
      have K12 := Lib.hid ((hr.store HN.out.1 HN.out.2 HSZ.out 13 (2600822924 ^^^ (count / 4294967296))).drew 1)
      rw [step13 HS.out] at K12
      clear hr
      go_wp2_with fail
      refine wp_region_still_tail 10 (by kernel_rfl) (by kernel_rfl) ?_
      simp only [List.take_succ_cons, List.take_zero, List.drop_succ_cons, List.drop_zero]
      repeat still_step
      refine wpStill_nil ?_
      change wpList _ _ _ _ _ w12.drew
      rw [show IntKind.u32.wrap ((count : Int) / 4294967296) = ((count / 4294967296 : Nat) : Int) from by
        show (((count : Int) / 4294967296) % 4294967296) = _
        omega, X12.out]
      generalize 2600822924 ^^^ (count / 4294967296) = z at K12 ⊢
      go_upto_region 8 with fail
      refine cut_world (fun X => TakeW w g V size S b filled count (startL S count false) X) K12.out ?_
      clear K12 c12 f12 X12 cc
      rintro w13 hr
      have HST := Lib.hid (show TakeW w g V size S b filled count ((startL S count false).set 14 3766232660) (w13.setCell ⟨V, 14, none⟩ (.int .u32 (3766232660 : Nat))) from hr.store HN.out.1 HN.out.2 HSZ.out 14 3766232660)
      have c12 := hr.mem.cell 14
      rw [List.getElem?_toArray, wcells_get _ _ (by rw [startL_length HS.out]; omega), get14 HS.out] at c12
      have f12 := hr.mem.free 14
      have HR := Lib.hid hr
      clear hr
      have HX14 := Lib.hid (show bits .xor .u32 (if IntKind.u32.signed = true then -1 else IntKind.u32.max) 528734635 = ((3766232660 : Nat) : Int) from by decide +kernel)
      have hmeet : ∀ X, (last = false → X = w13) → (last = true → X = w13.setCell ⟨V, 14, none⟩ (.int .u32 (3766232660 : Nat))) → TakeW w g V size S b filled count (startL S count last) X := by
        intro X h1 h2
        rcases last with _ | _
        · rw [h1 rfl]
          exact HR.out
        · rw [h2 rfl, ← step14 HS.out]
          exact HST.out
      have HM := Lib.hid hmeet
      clear hmeet HST
      have HS0 := Lib.hid (startL_length HS.out count last)
      have HF0 := Lib.hid (startL_fits HF.out count hc last)
      clear HR
      generalize startL S count last = s0 at HM HS0 HF0 HT
      have HL0 : ∃ l, l = last := ⟨_, rfl⟩
      obtain ⟨l0, hl0⟩ := HL0
      rw [← hl0]
      have HL0 := Lib.hid hl0
      clear hl0
      rcases l0 with _ | _
      · go_upto_region 10 with fail
        refine cut_world (fun X => TakeW w g V size S b filled count s0 X) (HM.out _ (fun _ => rfl) (fun h => by rw [← HL0.out] at h; cases h)) ?_
        clear HM c12 f12 HX14
        rintro w14 hr
        have HR := Lib.hid hr
        have HRG := Lib.hid (hr.hash.range HS.out)
        clear hr
        go_wp2_with (refine wpList_load_mid rfl 38 (.tmp 53) rfl g 9 rfl (byteCells b 64) _ HRG.out (by rfl) (by rfl) (by rw [byteCells_length]; kernel_rfl) ?_)
        refine (numbers_any b HB.out _).mono ?_
        rintro e w15 ⟨rfl, hb15⟩
        have HR2 := Lib.hid (HR.out.below hb15 HR.out.mem.lt)
        have lt15 := HR2.out.mem.lt
        have HM16 := Lib.hid (numsOf_length b 0)
        have HZM := Lib.hid (HZ16.out _ HM16.out)
        clear hb15 HR HRG
        generalize numsOf b 0 = m at HT HM16 HZM ⊢
        go_upto_region 11 with (refine wpList_store_row rfl 53 (.tmp 6) (.tmp 55) rfl w15.heap.size (wcells m).toArray rfl rfl 53 _ (Whole.new _ _ _) (by rw [HZM.out]; kernel_rfl) (by rw [HZM.out]; rfl) (wcells_one _) ?_)
        try simp only [Act.put]
        refine cut_world (fun X => TakeW w g V size S b filled count s0 X ∧ Whole X w15.heap.size 53 (wcells m).toArray) ⟨HR2.out.below (below_setRow (below_alloc (Below.refl _ _) _) (Nat.le_refl _) _) lt15, setRow_heap _ _ _ _ _ _ (Whole.new _ _ _)⟩ ?_
        clear HR2
        generalize w15.heap.size = M at lt15 ⊢
        rintro w16 ⟨hr, hm⟩
        have HR := Lib.hid hr
        have HMM := Lib.hid hm
        clear hr hm
        go_wp2_with fail
        go_loopw [56] (fun i wr => ∃ k : Nat, k ≤ 10 ∧ i = .int .i64 k ∧ TakeW w g V size S b filled count (roundsL m s0 k) wr ∧ Whole wr M 53 (wcells m).toArray) (fun i _ => 10 - (intOf i).toNat)
        case atStart => exact ⟨0, by omega, rfl, by rw [roundsL_zero]; exact HR.out, HMM.out⟩
        case round =>
          obtain ⟨k, hk, rfl, hr, hm⟩ := hrel
          by_cases hlt : k < 10
          · clear HR HMM
            have HR := Lib.hid hr
            have HMM := Lib.hid hm
            have hki : (k : Int) < 10 := by omega
            have HE := Lib.hid (roundsL_succ m s0 k)
            have hl := roundsL_length m s0 k
            rw [HS0.out] at hl
            have HLk := Lib.hid hl
            have HFk := Lib.hid (roundsL_fits m HF0.out k)
            clear hr hm hl
            generalize roundsL m s0 k = sk at HR HE HLk HFk
            go_wp2_with (refine wpList_load_row rfl 53 (.tmp 6) rfl M rfl 53 (wcells m).toArray (0, 0) _ HMM.out rfl rfl (by rw [HZM.out]; kernel_rfl) ?_)
            refine (round_any V k sk m HLk.out HFk.out HM16.out hlt HN.out.1 _ HR.out.laid HR.out.mem).mono ?_
            rintro e w17 ⟨rfl, hq, hgv⟩
            have HR3 := Lib.hid (show TakeW w g V size S b filled count (roundL k m sk) w17 from ⟨hq, HR.out.hash.grown hgv HN.out.2, laid_of HR.out.laid HN.out.1 hgv, grown_far HR.out.grown hgv HSZ.out⟩)
            have HM3 := Lib.hid (whole_grown HMM.out hgv (by omega))
            clear hq hgv HR HMM
            have wk := wrap_small ((k : Int) + 1) (k + 1) (by omega) (by omega)
            go_wp2_with fail
            exact ⟨⟨k + 1, by omega, by simp, by rw [HE.out]; exact HR3.out, HM3.out⟩, by simp [intOf]; omega⟩
          · obtain rfl : k = 10 := by omega
            clear HR HMM hk hlt hm
            have HR := Lib.hid hr
            clear hr
            have HFv := Lib.hid (roundsL_fits m HF0.out 10)
            have hl := roundsL_length m s0 10
            rw [HS0.out] at hl
            have HLv := Lib.hid hl
            clear hl
            generalize roundsL m s0 10 = v at HR HT HFv HLv
            have hnl : ¬ ((10 : Nat) : Int) < 10 := by omega
            go_wp2_with fail
            go_loopw [63] (fun i wr => ∃ k : Nat, k ≤ 8 ∧ i = .int .i64 k ∧ TakeW w g V size (foldS S v k) b filled count v wr) (fun i _ => 8 - (intOf i).toNat)
            case atStart => exact ⟨0, by omega, rfl, by rw [foldS_none HS.out]; exact HR.out⟩
            case round =>
              obtain ⟨k, hk, rfl, hr⟩ := hrel
              by_cases hlt : k < 8
              · clear HR
                have HR := Lib.hid hr
                have hki : (k : Int) < 8 := by omega
                obtain ⟨e8, he8⟩ : ∃ e, e = 8 + k := ⟨_, rfl⟩
                have h16 : (e8 : Int) < 16 := by omega
                have hk16 : (k : Int) < 16 := by omega
                have w8 := wrap_small (8 + (k : Int)) e8 (by omega) (by omega)
                have c1 := hr.hash.cell_sum (foldS_length S v k) k hlt
                rw [foldS_get S v k hlt] at c1
                have c2 := hr.mem.cell k
                have c3 := hr.mem.cell e8
                rw [List.getElem?_toArray, wcells_get _ _ (by rw [HLv.out]; omega)] at c2 c3
                have f1 := hr.hash.free (1 + k)
                have b1 := HF.out k
                have b2 := HFv.out k
                have b3 := HFv.out e8
                have HE := Lib.hid (foldS_set S v k hlt)
                rw [← he8] at HE
                have X1 := Lib.hid (u32_xor_nat (v.getD k 0) (v.getD e8 0) b2 b3)
                have X2 := Lib.hid (u32_xor_nat (S.getD k 0) (v.getD k 0 ^^^ v.getD e8 0) b1 (Nat.xor_lt_two_pow (n := 32) b2 b3))
                have K1 := Lib.hid ((hr.fold (foldS_length S v k) hg HN.out.2 k (S.getD k 0 ^^^ (v.getD k 0 ^^^ v.getD e8 0)) hlt).drew 1)
                rw [HE.out] at K1
                clear hr HR he8 HE b1 b2 b3
                generalize S.getD k 0 ^^^ (v.getD k 0 ^^^ v.getD e8 0) = z at X2 K1
                generalize v.getD k 0 ^^^ v.getD e8 0 = y at X1 X2
                generalize S.getD k 0 = p at c1 X2
                generalize v.getD k 0 = q at c2 X1
                generalize v.getD e8 0 = r at c3 X1
                go_wp2_with fail
                refine wp_region_still_tail 18 (by kernel_rfl) (by kernel_rfl) ?_
                simp only [List.take_succ_cons, List.take_zero, List.drop_succ_cons, List.drop_zero]
                repeat still_step
                refine wpStill_nil ?_
                change wpList _ _ _ _ _ wr.drew
                rw [X1.out, X2.out]
                go_upto_region 20 with fail
                refine cut_world (fun X => TakeW w g V size (foldS S v (k + 1)) b filled count v X) K1.out ?_
                clear K1 c1 c2 c3 f1 X1 X2 w8
                rintro w2 hr2
                have HR2 := Lib.hid hr2
                clear hr2
                have wk := wrap_small ((k : Int) + 1) (k + 1) (by omega) (by omega)
                go_wp2_with fail
                exact ⟨⟨k + 1, by omega, by simp, HR2.out⟩, by simp [intOf]; omega⟩
              · obtain rfl : k = 8 := by omega
                clear HR hk hlt
                rw [foldS_all] at hr
                have hnl : ¬ ((8 : Nat) : Int) < 8 := by omega
                have hlF : (foldL S v).length = 8 := by simp [foldL]
                have HLF := Lib.hid hlF
                have HR := Lib.hid hr.hash
                have HG := Lib.hid hr.grown
                have H9 := Lib.hid (hr.hash.there hlF)
                have HB1 := Lib.hid (bytes_one (fun _ => 0) 64)
                clear hr hlF
                generalize foldL S v = s at HR HLF HT
                have HP := Lib.hid (HR.out.puts HLF.out (fun _ => 0))
                have c73 := HP.out.cell_filled HLF.out
                have f73 := HP.out.free 73
                have HQ := Lib.hid (HP.out.set_filled HLF.out 0)
                have HQG := Lib.hid (grown_trans HG.out (grown_trans (grown_puts g (byteCells (fun _ => 0) 64) 9 wr) (grown_set _ g 73 (.int .i64 (0 : Nat)))))
                clear HR HG HP
                have HBT := Lib.hid zeros64_built
                have HZC := Lib.hid (HZ64.out (fun _ => 0))
                generalize byteCells (fun _ => 0) 64 = cs at HB1 HBT HZC c73 f73 HQ HQG
                go_wp2_with (first | (refine wpList_built0 rfl 38 rfl cs.toArray HBT.out ?_) | (refine wpList_store_mid rfl 38 (.tmp 89) (.tmp 87) rfl g 9 cs.toArray rfl rfl (by rw [HZC.out]; exact H9.out) (by rw [HZC.out]; kernel_rfl) HB1.out ?_; change wpList _ _ _ _ _ (wr.setCells g 9 cs); generalize wr.setCells g 9 cs = w2 at c73 f73 HQ HQG ⊢))
                go_end0
                exact ⟨rfl, by rw [HT.out]; exact HQ.out, HQG.out⟩
      · go_upto_region 10 with fail
        rw [HX14.out]
        refine cut_world (fun X => TakeW w g V size S b filled count s0 X) (HM.out _ (fun h => by rw [← HL0.out] at h; cases h) (fun _ => rfl)) ?_
        clear HM c12 f12 HX14
        rintro w14 hr
        have HR := Lib.hid hr
        have HRG := Lib.hid (hr.hash.range HS.out)
        clear hr
        go_wp2_with (refine wpList_load_mid rfl 38 (.tmp 53) rfl g 9 rfl (byteCells b 64) _ HRG.out (by rfl) (by rfl) (by rw [byteCells_length]; kernel_rfl) ?_)
        refine (numbers_any b HB.out _).mono ?_
        rintro e w15 ⟨rfl, hb15⟩
        have HR2 := Lib.hid (HR.out.below hb15 HR.out.mem.lt)
        have lt15 := HR2.out.mem.lt
        have HM16 := Lib.hid (numsOf_length b 0)
        have HZM := Lib.hid (HZ16.out _ HM16.out)
        clear hb15 HR HRG
        generalize numsOf b 0 = m at HT HM16 HZM ⊢
        go_upto_region 11 with (refine wpList_store_row rfl 53 (.tmp 6) (.tmp 55) rfl w15.heap.size (wcells m).toArray rfl rfl 53 _ (Whole.new _ _ _) (by rw [HZM.out]; kernel_rfl) (by rw [HZM.out]; rfl) (wcells_one _) ?_)
        try simp only [Act.put]
        refine cut_world (fun X => TakeW w g V size S b filled count s0 X ∧ Whole X w15.heap.size 53 (wcells m).toArray) ⟨HR2.out.below (below_setRow (below_alloc (Below.refl _ _) _) (Nat.le_refl _) _) lt15, setRow_heap _ _ _ _ _ _ (Whole.new _ _ _)⟩ ?_
        clear HR2
        generalize w15.heap.size = M at lt15 ⊢
        rintro w16 ⟨hr, hm⟩
        have HR := Lib.hid hr
        have HMM := Lib.hid hm
        clear hr hm
        go_wp2_with fail
        go_loopw [56] (fun i wr => ∃ k : Nat, k ≤ 10 ∧ i = .int .i64 k ∧ TakeW w g V size S b filled count (roundsL m s0 k) wr ∧ Whole wr M 53 (wcells m).toArray) (fun i _ => 10 - (intOf i).toNat)
        case atStart => exact ⟨0, by omega, rfl, by rw [roundsL_zero]; exact HR.out, HMM.out⟩
        case round =>
          obtain ⟨k, hk, rfl, hr, hm⟩ := hrel
          by_cases hlt : k < 10
          · clear HR HMM
            have HR := Lib.hid hr
            have HMM := Lib.hid hm
            have hki : (k : Int) < 10 := by omega
            have HE := Lib.hid (roundsL_succ m s0 k)
            have hl := roundsL_length m s0 k
            rw [HS0.out] at hl
            have HLk := Lib.hid hl
            have HFk := Lib.hid (roundsL_fits m HF0.out k)
            clear hr hm hl
            generalize roundsL m s0 k = sk at HR HE HLk HFk
            go_wp2_with (refine wpList_load_row rfl 53 (.tmp 6) rfl M rfl 53 (wcells m).toArray (0, 0) _ HMM.out rfl rfl (by rw [HZM.out]; kernel_rfl) ?_)
            refine (round_any V k sk m HLk.out HFk.out HM16.out hlt HN.out.1 _ HR.out.laid HR.out.mem).mono ?_
            rintro e w17 ⟨rfl, hq, hgv⟩
            have HR3 := Lib.hid (show TakeW w g V size S b filled count (roundL k m sk) w17 from ⟨hq, HR.out.hash.grown hgv HN.out.2, laid_of HR.out.laid HN.out.1 hgv, grown_far HR.out.grown hgv HSZ.out⟩)
            have HM3 := Lib.hid (whole_grown HMM.out hgv (by omega))
            clear hq hgv HR HMM
            have wk := wrap_small ((k : Int) + 1) (k + 1) (by omega) (by omega)
            go_wp2_with fail
            exact ⟨⟨k + 1, by omega, by simp, by rw [HE.out]; exact HR3.out, HM3.out⟩, by simp [intOf]; omega⟩
          · obtain rfl : k = 10 := by omega
            clear HR HMM hk hlt hm
            have HR := Lib.hid hr
            clear hr
            have HFv := Lib.hid (roundsL_fits m HF0.out 10)
            have hl := roundsL_length m s0 10
            rw [HS0.out] at hl
            have HLv := Lib.hid hl
            clear hl
            generalize roundsL m s0 10 = v at HR HT HFv HLv
            have hnl : ¬ ((10 : Nat) : Int) < 10 := by omega
            go_wp2_with fail
            go_loopw [63] (fun i wr => ∃ k : Nat, k ≤ 8 ∧ i = .int .i64 k ∧ TakeW w g V size (foldS S v k) b filled count v wr) (fun i _ => 8 - (intOf i).toNat)
            case atStart => exact ⟨0, by omega, rfl, by rw [foldS_none HS.out]; exact HR.out⟩
            case round =>
              obtain ⟨k, hk, rfl, hr⟩ := hrel
              by_cases hlt : k < 8
              · clear HR
                have HR := Lib.hid hr
                have hki : (k : Int) < 8 := by omega
                obtain ⟨e8, he8⟩ : ∃ e, e = 8 + k := ⟨_, rfl⟩
                have h16 : (e8 : Int) < 16 := by omega
                have hk16 : (k : Int) < 16 := by omega
                have w8 := wrap_small (8 + (k : Int)) e8 (by omega) (by omega)
                have c1 := hr.hash.cell_sum (foldS_length S v k) k hlt
                rw [foldS_get S v k hlt] at c1
                have c2 := hr.mem.cell k
                have c3 := hr.mem.cell e8
                rw [List.getElem?_toArray, wcells_get _ _ (by rw [HLv.out]; omega)] at c2 c3
                have f1 := hr.hash.free (1 + k)
                have b1 := HF.out k
                have b2 := HFv.out k
                have b3 := HFv.out e8
                have HE := Lib.hid (foldS_set S v k hlt)
                rw [← he8] at HE
                have X1 := Lib.hid (u32_xor_nat (v.getD k 0) (v.getD e8 0) b2 b3)
                have X2 := Lib.hid (u32_xor_nat (S.getD k 0) (v.getD k 0 ^^^ v.getD e8 0) b1 (Nat.xor_lt_two_pow (n := 32) b2 b3))
                have K1 := Lib.hid ((hr.fold (foldS_length S v k) hg HN.out.2 k (S.getD k 0 ^^^ (v.getD k 0 ^^^ v.getD e8 0)) hlt).drew 1)
                rw [HE.out] at K1
                clear hr HR he8 HE b1 b2 b3
                generalize S.getD k 0 ^^^ (v.getD k 0 ^^^ v.getD e8 0) = z at X2 K1
                generalize v.getD k 0 ^^^ v.getD e8 0 = y at X1 X2
                generalize S.getD k 0 = p at c1 X2
                generalize v.getD k 0 = q at c2 X1
                generalize v.getD e8 0 = r at c3 X1
                go_wp2_with fail
                refine wp_region_still_tail 18 (by kernel_rfl) (by kernel_rfl) ?_
                simp only [List.take_succ_cons, List.take_zero, List.drop_succ_cons, List.drop_zero]
                repeat still_step
                refine wpStill_nil ?_
                change wpList _ _ _ _ _ wr.drew
                rw [X1.out, X2.out]
                go_upto_region 20 with fail
                refine cut_world (fun X => TakeW w g V size (foldS S v (k + 1)) b filled count v X) K1.out ?_
                clear K1 c1 c2 c3 f1 X1 X2 w8
                rintro w2 hr2
                have HR2 := Lib.hid hr2
                clear hr2
                have wk := wrap_small ((k : Int) + 1) (k + 1) (by omega) (by omega)
                go_wp2_with fail
                exact ⟨⟨k + 1, by omega, by simp, HR2.out⟩, by simp [intOf]; omega⟩
              · obtain rfl : k = 8 := by omega
                clear HR hk hlt
                rw [foldS_all] at hr
                have hnl : ¬ ((8 : Nat) : Int) < 8 := by omega
                have hlF : (foldL S v).length = 8 := by simp [foldL]
                have HLF := Lib.hid hlF
                have HR := Lib.hid hr.hash
                have HG := Lib.hid hr.grown
                have H9 := Lib.hid (hr.hash.there hlF)
                have HB1 := Lib.hid (bytes_one (fun _ => 0) 64)
                clear hr hlF
                generalize foldL S v = s at HR HLF HT
                have HP := Lib.hid (HR.out.puts HLF.out (fun _ => 0))
                have c73 := HP.out.cell_filled HLF.out
                have f73 := HP.out.free 73
                have HQ := Lib.hid (HP.out.set_filled HLF.out 0)
                have HQG := Lib.hid (grown_trans HG.out (grown_trans (grown_puts g (byteCells (fun _ => 0) 64) 9 wr) (grown_set _ g 73 (.int .i64 (0 : Nat)))))
                clear HR HG HP
                have HBT := Lib.hid zeros64_built
                have HZC := Lib.hid (HZ64.out (fun _ => 0))
                generalize byteCells (fun _ => 0) 64 = cs at HB1 HBT HZC c73 f73 HQ HQG
                go_wp2_with (first | (refine wpList_built0 rfl 38 rfl cs.toArray HBT.out ?_) | (refine wpList_store_mid rfl 38 (.tmp 89) (.tmp 87) rfl g 9 cs.toArray rfl rfl (by rw [HZC.out]; exact H9.out) (by rw [HZC.out]; kernel_rfl) HB1.out ?_; change wpList _ _ _ _ _ (wr.setCells g 9 cs); generalize wr.setCells g 9 cs = w2 at c73 f73 HQ HQG ⊢))
                go_end0
                exact ⟨rfl, by rw [HT.out]; exact HQ.out, HQG.out⟩

end Blake
end Go.Proofs.YtcoppcididemkaaDoor
