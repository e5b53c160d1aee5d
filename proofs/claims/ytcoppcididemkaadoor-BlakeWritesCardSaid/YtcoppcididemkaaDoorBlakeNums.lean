/- The call numbers of package blake: the sixteen numbers of a block. -/
import Derived.Test.YtcoppcididemkaaDoorBlakeRound
import Derived.Test.YtcoppcididemkaaDoorBlakeSum
namespace Go.Proofs.YtcoppcididemkaaDoor
namespace Blake
open Go.ChangeShapes Go.WideShapes Go.ChangeAt Go.RowKit
open Num Mem Words State Chacha Quiet

def fillN (b : Nat → Nat) (k : Nat) : List Nat := (List.range 16).map fun i => if i < k then le b (0 + 4 * i) 4 else 0
theorem fillN_length (b : Nat → Nat) (k : Nat) : (fillN b k).length = 16 := by simp [fillN]
theorem fillN_none (b : Nat → Nat) : fillN b 0 = List.replicate 16 0 := by simp [fillN, List.range_succ, List.replicate]
theorem fillN_all (b : Nat → Nat) : fillN b 16 = numsOf b 0 := by
  unfold fillN numsOf
  exact List.map_congr_left fun i hi => if_pos (List.mem_range.1 hi)
theorem fillN_set (b : Nat → Nat) (k : Nat) (h : k < 16) : (fillN b k).set k (le b (4 * k) 4) = fillN b (k + 1) := by
  apply List.ext_getElem?
  intro i
  rw [List.getElem?_set]
  unfold fillN
  by_cases e : k = i
  · subst e
    simp [h]
  · rw [if_neg e]
    by_cases hi : i < 16
    · simp only [List.getElem?_map, List.getElem?_range hi, Option.map_some]
      congr 1
      by_cases l : i < k
      · rw [if_pos l, if_pos (by omega)]
      · rw [if_neg l, if_neg (by omega)]
    · simp [hi]

set_option maxRecDepth 100000 in
set_option maxHeartbeats 2000000 in
theorem numbers_any (b : Nat → Nat) (hb : ∀ i, b i < 256) (w : World) :
    Calls Tryd.prog 22 #[.agg (byteCells b 64).toArray] w fun e w' => e = .returned (.agg (wcells (numsOf b 0)).toArray) ∧ Below w.heap.size w w' := by
  have HF := Lib.hid hb
  have HZ64 := Lib.hid (show ∀ f, (byteCells f 64).toArray.size = 64 from fun f => by rw [List.size_toArray, byteCells_length])
  have HZ16 := Lib.hid (show ∀ s : List Nat, s.length = 16 → (wcells s).toArray.size = 16 from fun s h => by rw [List.size_toArray, wcells_length, h])
  clear hb
  go_enter Tryd.func22, Tryd.ntmps22
  go_wp2_with fail
  refine cut_world (fun W => Whole W w.heap.size 38 (byteCells b 64).toArray ∧ Whole W (w.heap.size + 1) 53 (wcells (fillN b 0)).toArray ∧ Whole W (w.heap.size + 1 + 1) 53 (wcells (fillN b 0)).toArray ∧ Below w.heap.size w W) ⟨?_, ?_, ?_, ?_⟩ ?_
  · exact ((whole_new _ _ rfl).alloc _).alloc _
  · rw [fillN_none]
    exact (whole_new _ _ (by simp)).alloc _
  · rw [fillN_none]
    exact whole_new _ _ (by simp)
  · exact below_alloc (below_alloc (below_alloc (Below.refl _ _) _) _) _
  rintro W ⟨k1, k2, k3, kb⟩
  have K1 := Lib.hid k1
  have K2 := Lib.hid k2
  have K3 := Lib.hid k3
  have KB := Lib.hid kb
  clear k1 k2 k3 kb
  generalize hB : w.heap.size = B at K1 K2 K3 KB ⊢
  go_loopw [5] (fun i wr => ∃ k : Nat, k ≤ 16 ∧ i = .int .i64 k ∧ Whole wr (B + 1 + 1) 53 (wcells (fillN b k)).toArray ∧ W.grownBy wr (some (B + 1 + 1))) (fun i _ => 16 - (intOf i).toNat)
  case atStart => exact ⟨0, by omega, rfl, K3.out, World.grownBy.refl _ _⟩
  case round =>
    obtain ⟨k, hk, rfl, hq, hg⟩ := hrel
    by_cases hlt : k < 16
    · have hki : (k : Int) < 16 := by omega
      have HQ := Lib.hid hq
      have HG := Lib.hid hg
      have c1 := hq.cell k
      have f1 := hq.free k
      rw [List.getElem?_toArray, wcells_get _ _ (by rw [fillN_length]; omega)] at c1
      have HE := Lib.hid (fillN_set b k hlt)
      have HK := Lib.hid (whole_grown K1.out hg (by omega))
      have HM := Lib.hid (show 4 * (k : Int) = ((4 * k : Nat) : Int) by omega)
      clear hq hg
      go_wp2_with fail
      rw [HM.out]
      refine (load32_ok B 0 64 64 b HF.out (4 * k) (by omega) (by omega) _ (fun i hi => HK.out.bytes i hi)).mono ?_
      rintro e w1 ⟨rfl, rfl⟩
      go_wp2_with fail
      go_roundw
      case rel =>
        refine ⟨k + 1, by omega, by go_num, ?_, grown_trans HG.out (grown_set _ _ _ _)⟩
        have h := HQ.out.put k (.int .u32 (le b (4 * k) 4 : Nat))
        rw [wcells_set, HE.out] at h
        exact h
      case measure => simp [intOf]; omega
    · obtain rfl : k = 16 := by omega
      rw [fillN_all] at hq
      have HQ := Lib.hid hq
      have HB := Lib.hid (below_grown KB.out hg (by omega) (by have := KB.out.size; omega))
      have HR := Lib.hid (whole_grown K2.out hg (by omega))
      have hl := numsOf_length b 0
      have hz := HZ16.out _ hl
      have HZ := Lib.hid hz
      clear hq hg hz hl
      generalize hs : numsOf b 0 = s at HQ HZ
      have HS := Lib.hid hs
      clear hs
      have hnl : ¬ ((16 : Nat) : Int) < 16 := by omega
      go_wp2_with (first | (refine wpList_load_row rfl 53 (.tmp 3) rfl (B + 1 + 1) rfl 53 (wcells s).toArray (0, 0) _ HQ.out rfl rfl (by rw [HZ.out]; kernel_rfl) ?_) | (refine wpList_store_row rfl 53 (.tmp 2) (.tmp 18) rfl (B + 1) (wcells s).toArray rfl rfl 53 _ HR.out (by rw [HZ.out]; kernel_rfl) (by rw [HZ.out, HZ16.out _ (fillN_length b 0)]) (wcells_one _) ?_))
      have hret : Whole (wr.setRow (B + 1) (wcells s).toArray) (B + 1) 53 (wcells s).toArray := setRow_heap wr _ _ _ _ _ HR.out
      refine bodyPost_ret (results_cell_row rfl _ _ (B + 1) 53 _ (0, 0) _ rfl hret rfl rfl (by rw [HZ.out]; kernel_rfl)) rfl ?_
      exact ⟨by rw [HS.out], below_setRow HB.out (by omega) _⟩

end Blake
end Go.Proofs.YtcoppcididemkaaDoor
