/- The calls number and first of package chacha. -/
import Derived.Test.YtdffbjlbhjppeaaTurn
import Derived.Test.YtdffbjlbhjppeaaWordsTwo
import Derived.Outline
import Derived.Laws.CopyOwn
import Derived.Deep.RegionLaw
namespace Go.Proofs.Ytdffbjlbhjppeaa
namespace Chacha
open Go.ChangeShapes Go.WideShapes Go.ChangeAt Go.RowKit
open Num Mem Words State

theorem cut_world {P : Program} {c : Code} {Q : Exit → Act → World → Prop} {a : Act} {w : World} (R : World → Prop) (hR : R w) (h : ∀ w', R w' → Code.wp P c Q a w') : Code.wp P c Q a w := h w hR

theorem whole_grown {W w : World} {g h : Nat} {t : TypeId} {cs : Array Value} (H : Whole W h t cs) (hg : W.grownBy w (some g)) (hne : g ≠ h) : Whole w h t cs :=
  (hg.block h H.lt (by intro e; injection e with e; exact hne e.symm)).trans H
theorem whole_new {w : World} {g : Nat} (t : TypeId) (cs : Array Value) (h : w.heap.size = g) : Whole (w.alloc (.cells cs t)) g t cs := h ▸ Whole.new w t cs
theorem below_grown {B g : Nat} {w0 w w' : World} (hb : Below B w0 w) (hg : w.grownBy w' (some g)) (hB : B ≤ g) (hs : B ≤ w.heap.size) : Below B w0 w' :=
  hb.grown hg hs fun k hk => by injection hk with hk; omega

theorem row_reads {w : World} {g : Nat} {t : TypeId} {cs : List Value} (h : Whole w g t cs.toArray) : ∀ (j : Nat) (v : Value), cs[j]? = some v → w.drew.cell? ((⟨g, 0, none⟩ : Addr).add j) = some v := by
  intro j v hj
  have : w.cell? ⟨g, j, none⟩ = some v := by rw [h.cell, List.getElem?_toArray, hj]
  by_cases h0 : j = 0
  · subst h0
    simpa [Addr.add] using this
  · simpa [Addr.add, h0] using this

def fill (f : Nat → Nat) (k : Nat) : List Nat := [1634760805, 857760878, 2036477234, 1797285236] ++ nums f 0 k ++ List.replicate (12 - k) 0
theorem fill_set (f : Nat → Nat) (k : Nat) (h : k < 8) : (fill f k).set (4 + k) (le f (4 * k) 4) = fill f (k + 1) := by
  match k, h with
  | 0, _ => rfl
  | 1, _ => rfl
  | 2, _ => rfl
  | 3, _ => rfl
  | 4, _ => rfl
  | 5, _ => rfl
  | 6, _ => rfl
  | 7, _ => rfl
theorem fill_length (f : Nat → Nat) (k : Nat) (h : k ≤ 8) : (fill f k).length = 16 := by simp [fill, nums]; omega

theorem first_size (f : Nat → Nat) (x0 x1 x2 x3 : Nat) : (wcells (first f [x0, x1, x2, x3])).toArray.size = 16 := by simp [wcells, first, nums]
theorem wcells_one (s : List Nat) : (wcells s).toArray.all (·.oneCell') = true := by
  simp [wcells, Value.oneCell']

set_option maxRecDepth 100000 in
theorem number_any (b off n c : Nat) (f : Nat → Nat) (hf : ∀ i, f i < 256) (i : Nat) (h : 4 * i + 4 ≤ n) (hn : n ≤ 1000000) (w : World)
    (hc : ∀ i, i < n → w.cell? ⟨b, off + i, none⟩ = some (.int .u8 (f i))) :
    Calls Try.prog 70 #[.slice (some ⟨b, off, none⟩) n c, .int .i64 i] w fun e w' => e = .returned (.int .u32 (le f (4 * i) 4)) ∧ w = w' := by
  have HC := Lib.hid hc
  have HF := Lib.hid hf
  clear hc hf
  have e := Lib.hid (show (4 * (i : Int)) = ((4 * i : Nat) : Int) by omega)
  go_enter Try.func70, Try.ntmps70
  go_wp2_with fail
  rw [e.out]
  refine (load32_ok b off n c f HF.out (4 * i) h (by omega) _ HC.out).mono ?_
  rintro e w1 ⟨rfl, rfl⟩
  go_wp2_with fail
  go_ret
  exact ⟨rfl, rfl⟩

set_option maxRecDepth 100000 in
theorem first_any (f : Nat → Nat) (hf : ∀ i, f i < 256) (x0 x1 x2 x3 : Nat) (w : World) :
    Calls Try.prog 69 #[.agg (byteCells f 32).toArray, .agg #[.int .u32 x0, .int .u32 x1, .int .u32 x2, .int .u32 x3]] w fun e w' => e = .returned (.agg (wcells (first f [x0, x1, x2, x3])).toArray) ∧ Below w.heap.size w w' := by
  have HF := Lib.hid hf
  clear hf
  rw [byteCells_lit32]
  go_enter Try.func69, Try.ntmps69
  go_wp2_with fail
  refine cut_world (fun W => Whole W w.heap.size 40 (byteCells f 32).toArray ∧ Whole W (w.heap.size + 1) 107 (wcells [x0, x1, x2, x3]).toArray ∧ Whole W (w.heap.size + 1 + 1) 104 (wcells (List.replicate 16 0)).toArray ∧ Whole W (w.heap.size + 1 + 1 + 1) 104 (wcells (fill f 0)).toArray ∧ Below w.heap.size w W) ⟨?_, ?_, ?_, ?_, ?_⟩ ?_
  · rw [byteCells_lit32]
    exact (((whole_new _ _ rfl).alloc _).alloc _).alloc _
  · exact ((whole_new _ _ (by simp)).alloc _).alloc _
  · exact (whole_new _ _ (by simp)).alloc _
  · exact whole_new _ _ (by simp)
  · exact below_alloc (below_alloc (below_alloc (below_alloc (Below.refl _ _) _) _) _) _
  rintro W ⟨k1, k2, k3, k4, kb⟩
  have K1 := Lib.hid k1
  have K2 := Lib.hid k2
  have K3 := Lib.hid k3
  have K4 := Lib.hid k4
  have KB := Lib.hid kb
  clear k1 k2 k3 k4 kb
  generalize hB : w.heap.size = B at K1 K2 K3 K4 KB ⊢
  go_loopw [8] (fun i wr => ∃ k : Nat, k ≤ 8 ∧ i = .int .i64 k ∧ Whole wr (B + 1 + 1 + 1) 104 (wcells (fill f k)).toArray ∧ W.grownBy wr (some (B + 1 + 1 + 1))) (fun i _ => 8 - (intOf i).toNat)
  case atStart => exact ⟨0, by omega, rfl, K4.out, World.grownBy.refl _ _⟩
  case round =>
    obtain ⟨k, hk, rfl, hq, hg⟩ := hrel
    by_cases hlt : k < 8
    · have HQ := Lib.hid hq
      have HG := Lib.hid hg
      have c1 := hq.cell (4 + k)
      have f1 := hq.free (4 + k)
      rw [List.getElem?_toArray, wcells_get _ _ (by rw [fill_length f k hk]; omega)] at c1
      have e1 := fill_set f k hlt
      have HE := Lib.hid e1
      have HK := Lib.hid (whole_grown K1.out hg (by omega))
      clear hq hg e1
      go_wp2_with fail
      refine (number_any B 0 32 32 f HF.out k (by omega) (by omega) _ (fun i hi => HK.out.bytes i hi)).mono ?_
      rintro e w1 ⟨rfl, rfl⟩
      go_wp2_with fail
      go_roundw
      case rel =>
        refine ⟨k + 1, by omega, by go_num, ?_, grown_trans HG.out (grown_set _ _ _ _)⟩
        have h := HQ.out.put (4 + k) (.int .u32 (le f (4 * k) 4 : Nat))
        rw [wcells_set, HE.out] at h
        exact h
      case measure => simp [intOf]; omega
    · obtain rfl : k = 8 := by omega
      have KB2 := Lib.hid (below_grown KB.out hg (by omega) (by have := KB.out.size; omega))
      have K2' := Lib.hid (whole_grown K2.out hg (by omega))
      have K3' := Lib.hid (whole_grown K3.out hg (by omega))
      have HQ := Lib.hid hq
      have HS := Lib.hid (row_reads K2'.out)
      have hb0 := below_drewN (B := B + 1 + 1 + 1) (Below.refl (B + 1 + 1 + 1) wr) 1
      clear hq hg
      go_wp2_with fail
      go_region_law (refine step_copy_splice rfl (.tmp 18) (.tmp 19) 94 94 rfl 68 rfl (by kernel_rfl) (some ⟨B + 1 + 1 + 1, 12, none⟩) (some ⟨B + 1, 0, none⟩) 4 4 4 4 rfl rfl (B + 1 + 1 + 1) 12 (wcells (fill f 8)) 104 HQ.out (wcells [x0, x1, x2, x3]) rfl (fun _ => ⟨rfl, _, rfl, HS.out⟩) (by simp [wcells, fill, nums]) (by simp [wcells, Value.oneCell']) (B + 1 + 1 + 1) wr hb0 (Nat.le_refl _) ?_; intro w4 hg4 hb4)
      have k4 : Whole w4 (B + 1 + 1 + 1) 104 (wcells (first f [x0, x1, x2, x3])).toArray := hg4.out
      have K4' := Lib.hid k4
      have K3'' := Lib.hid (K3'.out.below hb4 (by omega))
      have HB4 := Lib.hid (below_setRow (KB2.out.trans (hb4.mono (by omega))) (show B ≤ B + 1 + 1 by omega) (wcells (first f [x0, x1, x2, x3])).toArray)
      have hsz := Lib.hid (first_size f x0 x1 x2 x3)
      clear hg4 hb4 k4 hb0
      go_wp2_with (first | (refine wpList_load_row rfl 104 (.tmp 5) rfl (B + 1 + 1 + 1) rfl 104 (wcells (first f [x0, x1, x2, x3])).toArray (0, 0) _ K4'.out rfl rfl (by rw [hsz.out]; kernel_rfl) ?_) | (refine wpList_store_row rfl 104 (.tmp 4) (.tmp 21) rfl (B + 1 + 1) (wcells (first f [x0, x1, x2, x3])).toArray rfl rfl 104 _ K3''.out (by rw [hsz.out]; kernel_rfl) (by rw [hsz.out]; rfl) (wcells_one _) ?_))
      have hret : Whole (w4.setRow (B + 1 + 1) (wcells (first f [x0, x1, x2, x3])).toArray) (B + 1 + 1) 104 (wcells (first f [x0, x1, x2, x3])).toArray := setRow_heap w4 _ _ _ _ _ K3''.out
      refine bodyPost_ret (results_cell_row rfl _ _ (B + 1 + 1) 104 _ (0, 0) _ rfl hret rfl rfl (by rw [hsz.out]; kernel_rfl)) rfl ?_
      exact ⟨rfl, by rw [hB]; exact HB4.out⟩

end Chacha
end Go.Proofs.Ytdffbjlbhjppeaa
