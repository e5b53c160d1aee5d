/- The calls begin and add of package poly: a mark on its way. -/
import Derived.Test.YtdffbjlbhjppeaaSplit
namespace Go.Proofs.Ytdffbjlbhjppeaa
namespace Poly
open Go.ChangeShapes Go.WideShapes Go.ChangeAt Go.RowKit
open Num Mem Words PolyN Chacha Quiet

/-- the limbs of a mark: the factor's, and those of the text so far -/
def mk2 (r h : Nat → Nat) (i : Nat) : Nat := if i < 5 then r i else h (i - 5)
/-- the factor's limbs -/
def fac (key : Nat → Nat) : Nat → Nat := sp (fun i => if i < 16 then cl key i else 0)
/-- a piece: n bytes, with noughts up to size, and a 1 behind -/
def pce (f : Nat → Nat) (n size i : Nat) : Nat := if i < n then f i else if i = size then 1 else 0
theorem pce_lt {f : Nat → Nat} (h : ∀ i, f i < 256) (n size i : Nat) : pce f n size i < 256 := by
  have := h i
  unfold pce
  split
  · exact this
  · split <;> omega

theorem mk2_r (r h : Nat → Nat) : ∀ i, i < 5 → mk2 r h (0 + i) = r i := fun i hi => by unfold mk2; rw [if_pos (by omega), Nat.zero_add]
theorem mk2_h (r h : Nat → Nat) : ∀ i, i < 5 → mk2 r h (5 + i) = h i := fun i hi => by unfold mk2; rw [if_neg (by omega), Nat.add_sub_cancel_left]
theorem whole_part {w : World} {g n : Nat} {t : TypeId} {f : Nat → Nat} (h : Whole w g t (qcells f n).toArray) (o m : Nat) (F : Nat → Nat) (hF : ∀ i, i < m → f (o + i) = F i) (hm : o + m ≤ n) : w.rangeAt g o (qcells F m) := by
  intro j v hj
  have hj' : j < m := by
    rcases Nat.lt_or_ge j m with k | k
    · exact k
    · rw [List.getElem?_eq_none (by rw [qcells_length]; exact k)] at hj
      cases hj
  rw [h.num (o + j) (by omega), hF j hj', ← hj, qcells_get F m j hj']

theorem whole_puts {t : TypeId} {g n : Nat} (F : Nat → Nat) : ∀ (m s : Nat) (o : Nat) (w : World) (f : Nat → Nat), Whole w g t (qcells f n).toArray → o + m ≤ n →
    Whole (w.setCells g o ((List.range' s m).map fun i => .int .u64 (F i : Nat))) g t (qcells (fun i => if o ≤ i ∧ i < o + m then F (i - o + s) else f i) n).toArray
  | 0, s, o, w, f, h, _ => by
    rw [qcells_congr (f := fun i => if o ≤ i ∧ i < o + 0 then F (i - o + s) else f i) (g := f) (fun i _ => if_neg (by omega))]
    exact h
  | m + 1, s, o, w, f, h, hm => by
    rw [List.range'_succ, List.map_cons, World.setCells]
    have h1 := h.put o (.int .u64 (F s : Nat))
    rw [qcells_set] at h1
    have h2 := whole_puts F m (s + 1) (o + 1) _ _ h1 (by omega)
    rw [qcells_congr (g := fun i => if o ≤ i ∧ i < o + (m + 1) then F (i - o + s) else f i) (fun i _ => ?_)] at h2
    · exact h2
    · by_cases e : i = o
      · subst e
        rw [if_neg (by omega), if_pos rfl, if_pos (by omega), Nat.sub_self, Nat.zero_add]
      · by_cases l : o + 1 ≤ i ∧ i < o + 1 + m
        · rw [if_pos l, if_pos (by omega)]
          congr 1
          omega
        · rw [if_neg l, if_neg e, if_neg (by omega)]

theorem whole_mark {w : World} {g : Nat} {t : TypeId} {r h F : Nat → Nat} (H : Whole w g t (qcells (mk2 r h) 10).toArray) : Whole (w.setCells g 5 (qcells F 5)) g t (qcells (mk2 r F) 10).toArray := by
  have h1 := whole_puts F 5 0 5 w (mk2 r h) H (by omega)
  rw [qcells_congr (g := mk2 r F) (fun i _ => by
    unfold mk2
    by_cases l : i < 5
    · rw [if_neg (by omega), if_pos l, if_pos l]
    · rw [if_pos (by omega), if_neg l, Nat.add_zero])] at h1
  rw [← List.range_eq_range'] at h1
  exact h1

theorem grown_puts (g : Nat) : ∀ (vs : List Value) (o : Nat) (w : World), w.grownBy (w.setCells g o vs) (some g)
  | [], _, _ => World.grownBy.refl _ _
  | v :: r, o, w => grown_trans (grown_set w g o v) (grown_puts g r (o + 1) _)

theorem mark_there {w : World} {g : Nat} {t : TypeId} {f : Nat → Nat} (h : Whole w g t (qcells f 10).toArray) : w.there g 5 5 := fun j hj => by
  rw [h.num (5 + j) (by omega)]
  exact ⟨rfl, h.free _⟩

theorem wpList_built {P : Program} {ops : Array Oper} {rest : List Oper} {o : Oper} {a : Act} {w : World} {Q : Exit → Act → World → Prop} (hg : o.guard = none) (t : TypeId) (x : Operand) (ho : o.op = .build t #[(0, x)])
    (cs : Array Value) (hx : a.eval x = .agg cs) (vs : Array Value) (hb : P.built t [(0, .agg cs)] = some vs) (h : wpList P ops Q rest (a.put o.dst (.agg vs)) w) : wpList P ops Q (o :: rest) a w := by
  have e : P.built t ((#[(0, x)] : Array (Nat × Operand)).map fun (i, x) => (i, a.eval x)).toList = some vs := by
    simpa [hx] using hb
  refine wpList_build hg t #[(0, x)] ho (by rw [e]; rfl) ?_
  rw [e]
  exact h

theorem mark_built_lit (x0 x1 x2 x3 x4 : Int) : Try.prog.built 63 [(0, .agg #[.int .u64 x0, .int .u64 x1, .int .u64 x2, .int .u64 x3, .int .u64 x4])] = some #[.int .u64 x0, .int .u64 x1, .int .u64 x2, .int .u64 x3, .int .u64 x4, .int .u64 0, .int .u64 0, .int .u64 0, .int .u64 0, .int .u64 0] := by kernel_rfl
theorem mark_built (F : Nat → Nat) : Try.prog.built 63 [(0, .agg (qcells F 5).toArray)] = some (qcells (mk2 F (fun _ => 0)) 10).toArray := by
  rw [qcells_lit5, mark_built_lit]
  rfl

set_option maxRecDepth 100000 in
theorem begin_any (key : Nat → Nat) (hk : ∀ i, key i < 256) (w : World) :
    Calls Try.prog 33 #[.agg (byteCells key 32).toArray] w fun e w' => e = .returned (.agg (qcells (mk2 (fac key) (fun _ => 0)) 10).toArray) ∧ Below w.heap.size w w' := by
  have HK := Lib.hid hk
  clear hk
  rw [byteCells_lit32]
  go_enter Try.func33, Try.ntmps33
  go_upto_region 2 with fail
  refine cut_world (fun W => Whole W w.heap.size 22 (byteCells key 32).toArray ∧ Whole W (w.heap.size + 1) 63 (qcells (fun _ => 0) 10).toArray ∧ Whole W (w.heap.size + 1 + 1) 79 (byteCells (fun _ => 0) 17).toArray ∧ Below w.heap.size w W) ⟨?_, ?_, ?_, ?_⟩ ?_
  · rw [byteCells_lit32]
    exact ((whole_new _ _ rfl).alloc _).alloc _
  · exact (whole_new _ _ (by simp)).alloc _
  · exact whole_new _ _ (by simp)
  · exact below_alloc (below_alloc (below_alloc (Below.refl _ _) _) _) _
  rintro W ⟨k1, k2, k3, kb⟩
  have K1 := Lib.hid k1
  have K2 := Lib.hid k2
  have K3 := Lib.hid k3
  have KB := Lib.hid kb
  have hb3 := k3.lt
  clear k1 k2 k3 kb
  generalize hB : w.heap.size = B at K1 K2 K3 KB hb3 ⊢
  have HZ16 := Lib.hid (show (byteCells (cl key) 16).toArray.size = 16 by rw [List.size_toArray, byteCells_length])
  have HZ17 := Lib.hid (show ∀ f, (byteCells f 17).toArray.size = 17 from fun f => by rw [List.size_toArray, byteCells_length])
  go_wp2_with (refine wpList_load_row rfl 22 (.tmp 1) rfl B rfl 22 (byteCells key 32).toArray (0, 0) _ K1.out rfl rfl (by kernel_rfl) ?_)
  refine (clamp_any key HK.out _).mono ?_
  rintro e w1 ⟨rfl, hb⟩
  have L2 := Lib.hid (K2.out.below hb K2.out.lt)
  have L3 := Lib.hid (K3.out.below hb K3.out.lt)
  have LB := Lib.hid (KB.out.trans (hb.mono (by omega)))
  have hb4 := hb.size
  clear hb K1 K2 K3 KB
  go_upto_region 3 with (refine wpList_store_row rfl 25 (.tmp 4) (.tmp 6) rfl w1.heap.size (byteCells (cl key) 16).toArray rfl rfl 25 _ (Whole.new _ _ _) (by rw [HZ16.out]; kernel_rfl) (by rw [HZ16.out]; rfl) (bytes_one _ _) ?_)
  refine cut_world (fun W => Whole W (B + 1) 63 (qcells (fun _ => 0) 10).toArray ∧ Whole W (B + 1 + 1) 79 (byteCells (fun _ => 0) 17).toArray ∧ Whole W w1.heap.size 25 (byteCells (cl key) 16).toArray ∧ Below B w W ∧ B + 1 + 1 < w1.heap.size) ⟨?_, ?_, ?_, ?_, by omega⟩ ?_
  · exact (setRow_other _ _ (B + 1) _ (by omega)).trans (L2.out.alloc _)
  · exact (setRow_other _ _ (B + 1 + 1) _ (by omega)).trans (L3.out.alloc _)
  · exact setRow_heap _ _ _ _ _ _ (Whole.new _ _ _)
  · exact below_setRow (LB.out.alloc (by omega) _) (by omega) _
  rintro W2 ⟨k2, k3, k4, kb, hG⟩
  have K2 := Lib.hid k2
  have K3 := Lib.hid k3
  have KB := Lib.hid kb
  have HS := Lib.hid (rd_src (w := W2.drew) (b := w1.heap.size) (off := 0) (n := 16) (f := cl key) (fun i hi => k4.drew.bytes i hi))
  clear k2 k3 k4 kb L2 L3 LB hb3 hb4
  generalize w1.heap.size = G at HS hG ⊢
  have hb0 := below_drewN (B := B + 1 + 1) (Below.refl (B + 1 + 1) W2) 1
  go_region_law (refine step_copy_splice rfl (.tmp 7) (.tmp 8) 23 23 rfl 5 rfl (by kernel_rfl) (some ⟨B + 1 + 1, 0, none⟩) (some ⟨G, 0, none⟩) 17 17 16 16 rfl rfl (B + 1 + 1) 0 (byteCells (fun _ => 0) 17) 79 K3.out (byteCells (cl key) 16) (by rw [byteCells_length]; rfl) (fun _ => ⟨rfl, _, rfl, HS.out⟩) (by rw [byteCells_length, byteCells_length]; omega) (bytes_each _ _) (B + 1 + 1) W2 hb0 (Nat.le_refl _) ?_; intro w4 hg4 hb4)
  have M2 := Lib.hid (K2.out.below hb4 (by omega))
  have M3 := Lib.hid (show Whole w4 (B + 1 + 1) 79 (byteCells (fun i => if i < 16 then cl key i else 0) 17).toArray from by
    have h := hg4.out
    rw [byteCells_splice (fun _ => 0) (cl key) (fun i => if i < 16 then cl key i else 0) 17 0 16 (by omega) (fun i hi => by
      by_cases l : i < 16
      · rw [if_pos l, if_pos ⟨by omega, by omega⟩, Nat.sub_zero]
      · rw [if_neg l, if_neg (by omega)])] at h
    exact h)
  have MB := Lib.hid (KB.out.trans (hb4.mono (by omega)))
  have hb5 := M3.out.lt
  clear hb0 hg4 hb4 K2 K3 KB HS hG
  go_wp2_with (refine wpList_load_row rfl 79 (.tmp 3) rfl (B + 1 + 1) rfl 79 (byteCells (fun i => if i < 16 then cl key i else 0) 17).toArray (0, 0) _ M3.out rfl rfl (by rw [HZ17.out]; kernel_rfl) ?_)
  refine (split_any (fun i => if i < 16 then cl key i else 0) (fun i => by have := cl_lt HK.out i; split <;> omega) _).mono ?_
  rintro e w5 ⟨rfl, hb⟩
  have N2 := Lib.hid (M2.out.below hb M2.out.lt)
  have NB := Lib.hid (MB.out.trans (hb.mono (by omega)))
  clear hb M2 M3 MB
  have HQ := Lib.hid (show sp (fun i => if i < 16 then cl key i else 0) = fac key from rfl)
  rw [HQ.out]
  clear HQ
  generalize hE : fac key = F
  have HE := Lib.hid hE
  clear hE
  have HBU := Lib.hid (mark_built F)
  go_wp2_with (first | (refine wpList_built rfl 63 (.tmp 11) rfl (qcells F 5).toArray rfl (qcells (mk2 F (fun _ => 0)) 10).toArray HBU.out ?_) | (refine wpList_store_row rfl 63 (.tmp 2) (.tmp 12) rfl (B + 1) (qcells (mk2 F (fun _ => 0)) 10).toArray rfl rfl 63 _ N2.out (by rw [qcells_size]; kernel_rfl) (by rw [qcells_size, qcells_size]) (qcells_one _ _) ?_))
  have hret : Whole (w5.setRow (B + 1) (qcells (mk2 F (fun _ => 0)) 10).toArray) (B + 1) 63 (qcells (mk2 F (fun _ => 0)) 10).toArray := setRow_heap w5 _ _ _ _ _ N2.out
  refine bodyPost_ret (results_cell_row rfl _ _ (B + 1) 63 _ (0, 0) _ rfl hret rfl rfl (by rw [qcells_size]; kernel_rfl)) rfl ?_
  exact ⟨by rw [HE.out], by rw [hB]; exact below_setRow NB.out (by omega) _⟩

set_option maxRecDepth 100000 in
theorem add_any (g : Nat) (r h : Nat → Nat) (hr : ∀ i, i < 5 → r i < 67108864) (hh : ∀ i, i < 5 → h i < 67108869) (A : Option Addr) (n c size : Nat) (f : Nat → Nat) (hf : ∀ i, f i < 256) (hn : n ≤ size) (hs : size ≤ 16) (w : World) (hw : Whole w g 63 (qcells (mk2 r h) 10).toArray) (hA : Rd w A n f) :
    Calls Try.prog 34 #[.pointer (some ⟨g, 0, none⟩), .slice A n c, .int .i64 size] w fun e w' => e = .returned (.tuple #[]) ∧ Whole w' g 63 (qcells (mk2 r (ti (fun i => h i + sp (pce f n size) i) r)) 10).toArray ∧ w.grownBy w' (some g) := by
  have HR := Lib.hid hr
  have HH := Lib.hid hh
  have HF := Lib.hid hf
  have HA := Lib.hid hA
  have HW := Lib.hid hw
  have hgl := hw.lt
  clear hr hh hf hA hw
  go_enter Try.func34, Try.ntmps34
  go_upto_region 1 with fail
  refine cut_world (fun W => Whole W w.heap.size 79 (byteCells (fun _ => 0) 17).toArray ∧ Below w.heap.size w W) ⟨Whole.new _ _ _, below_alloc (Below.refl _ _) _⟩ ?_
  rintro W ⟨k1, kb⟩
  have K1 := Lib.hid k1
  have KB := Lib.hid kb
  have HS := Lib.hid (rd_copy (g := w.heap.size) (HA.out.below kb (Nat.le_refl _)))
  clear k1 kb
  generalize hB : w.heap.size = B at K1 KB HS hgl ⊢
  go_upto_region 2 with (first | (refine wpList_copy_splice rfl (.tmp 9) (.tmp 10) 23 23 rfl 5 rfl (by kernel_rfl) (some ⟨B, 0, none⟩) A 17 17 n c rfl rfl B 0 (byteCells (fun _ => 0) 17) 79 K1.out (byteCells f n) (by rw [byteCells_length]; show n = min n 17; omega) HS.out (by rw [byteCells_length, byteCells_length]; omega) (bytes_each _ _) B _ (Below.refl _ _) (Nat.le_refl _) ?_))
  intro w2 hg2 hb2
  have L1 := Lib.hid (show Whole w2 B 79 (byteCells (fun i => if i < n then f i else 0) 17).toArray from by
    have h := hg2.out
    rw [byteCells_splice (fun _ => 0) f (fun i => if i < n then f i else 0) 17 0 n (by omega) (fun i hi => by
      by_cases l : i < n
      · rw [if_pos l, if_pos ⟨by omega, by omega⟩, Nat.sub_zero]
      · rw [if_neg l, if_neg (by omega)])] at h
    exact h)
  have LB := Lib.hid (KB.out.trans hb2)
  have f1 := L1.out.free size
  have c1 := L1.out.cell size
  rw [List.getElem?_toArray, byteCells_get _ _ _ (by omega), if_neg (by omega)] at c1
  have hl1 := L1.out.lt
  have HP := Lib.hid (show Whole (w2.setCell ⟨B, size, none⟩ (.int .u8 1)) B 79 (byteCells (pce f n size) 17).toArray from by
    have h := L1.out.put size (.int .u8 (1 : Nat))
    rw [byteCells_set, byteCells_congr (g := pce f n size) (fun i _ => by
      unfold pce
      by_cases e : i = size
      · subst e
        rw [if_pos rfl, if_neg (by omega), if_pos rfl]
      · rw [if_neg e]
        by_cases l : i < n
        · rw [if_pos l, if_pos l]
        · rw [if_neg l, if_neg l, if_neg e])] at h
    exact h)
  clear hg2 hb2 K1 KB HS
  go_upto_region 3 with fail
  refine cut_world (fun W => Whole W B 79 (byteCells (pce f n size) 17).toArray ∧ Below B w W) ⟨HP.out, LB.out.setCell (by simp) _⟩ ?_
  clear HP L1 LB f1 c1 hl1
  rintro W3 ⟨k1, kb⟩
  have K1 := Lib.hid k1
  have KB := Lib.hid kb
  have hl1 := k1.lt
  clear k1 kb
  have HZ17 := Lib.hid (show ∀ f, (byteCells f 17).toArray.size = 17 from fun f => by rw [List.size_toArray, byteCells_length])
  go_wp2_with (refine wpList_load_row rfl 79 (.tmp 6) rfl B rfl 79 (byteCells (pce f n size) 17).toArray (0, 0) _ K1.out rfl rfl (by rw [HZ17.out]; kernel_rfl) ?_)
  refine (split_any (pce f n size) (pce_lt HF.out n size) _).mono ?_
  rintro e w5 ⟨rfl, hb⟩
  have LB := Lib.hid (KB.out.trans (hb.mono (by omega)))
  have hl2 := hb.size
  clear hb K1 KB
  go_upto_region 4 with (refine wpList_store_row rfl 61 (.tmp 7) (.tmp 15) rfl w5.heap.size (qcells (sp (pce f n size)) 5).toArray rfl rfl 61 _ (Whole.new _ _ _) (by rw [qcells_size]; kernel_rfl) (by rw [qcells_size]; rfl) (qcells_one _ _) ?_)
  refine cut_world (fun W => Whole W w5.heap.size 61 (qcells (sp (pce f n size)) 5).toArray ∧ Below B w W ∧ B < w5.heap.size) ⟨setRow_heap _ _ _ _ _ _ (Whole.new _ _ _), below_setRow (LB.out.alloc (by omega) _) (by omega) _, by omega⟩ ?_
  clear LB hl1 hl2
  rintro W4 ⟨k1, kb, hG⟩
  have hg0 := HW.out.below kb hgl
  have K1 := Lib.hid k1
  have K0 := Lib.hid hg0
  have KG := Lib.hid (show w.grownBy W4 (some g) from ⟨kb.os, kb.tape, kb.output, kb.size, fun k hk _ => kb.block k (by omega)⟩)
  clear k1 kb hg0
  generalize w5.heap.size = G at K1 hG ⊢
  have HSP := Lib.hid (sp_lt (pce f n size))
  generalize hq : sp (pce f n size) = q at K1 HSP ⊢
  have HQE := Lib.hid hq
  clear hq
  go_wp2_with fail
  go_loopw [16] (fun i wr => ∃ k : Nat, k ≤ 5 ∧ i = .int .i64 k ∧ Whole wr G 61 (qcells q 5).toArray ∧ Whole wr g 63 (qcells (mk2 r (fun i => if i < k then h i + q i else h i)) 10).toArray ∧ w.grownBy wr (some g)) (fun i _ => 5 - (intOf i).toNat)
  case atStart => exact ⟨0, by omega, rfl, K1.out, K0.out, KG.out⟩
  case round =>
    obtain ⟨k, hk, rfl, q1, q2, qg⟩ := hrel
    by_cases hlt : k < 5
    · have c1 := q1.num k hlt
      have c2 := q2.num (5 + k) (by omega)
      have f2 := q2.free (5 + k)
      rw [mk2, if_neg (by omega), Nat.add_sub_cancel_left, if_neg (Nat.lt_irrefl k)] at c2
      have b1 := HH.out k hlt
      have b2 := HSP.out k
      have HSUM := Lib.hid (show ((h k : Nat) : Int) + ((q k : Nat) : Int) = ((h k + q k : Nat) : Int) by omega)
      have Q1 := Lib.hid q1
      have Q2 := Lib.hid q2
      have QG := Lib.hid qg
      clear q1 q2 qg
      go_wp2_with fail
      refine wp_region_still_tail 13 (by kernel_rfl) (by kernel_rfl) ?_
      simp only [List.take_succ_cons, List.take_zero, List.drop_succ_cons, List.drop_zero]
      repeat still_step
      refine wpStill_nil ?_
      change wpList _ _ _ _ _ wr.drew
      rw [HSUM.out]
      go_wp2_with fail
      go_roundw
      case rel =>
        refine ⟨k + 1, by omega, by go_num, (Q1.out.drewN 1).far (by simp; omega) _, ?_, grown_trans QG.out (grown_trans (grown_drewN wr g 1) (grown_set _ _ _ _))⟩
        have h' := (Q2.out.drewN 1).put (5 + k) (.int .u64 (h k + q k : Nat))
        rw [qcells_set, qcells_congr (g := mk2 r (fun i => if i < k + 1 then h i + q i else h i)) (fun i _ => ?_)] at h'
        · exact h'
        · unfold mk2
          by_cases e : i = 5 + k
          · subst e
            rw [if_pos rfl, if_neg (by omega), Nat.add_sub_cancel_left]
            dsimp only
            rw [if_pos (by omega)]
          · rw [if_neg e]
            by_cases l5 : i < 5
            · rw [if_pos l5, if_pos l5]
            · rw [if_neg l5, if_neg l5]
              dsimp only
              by_cases l : i - 5 < k
              · rw [if_pos l, if_pos (by omega)]
              · rw [if_neg l, if_neg (by omega)]
      case measure => simp [intOf]; omega
    · obtain rfl : k = 5 := by omega
      rw [qcells_congr (g := mk2 r (fun i => h i + q i)) (fun i hi => by
        unfold mk2
        by_cases l5 : i < 5
        · rw [if_pos l5, if_pos l5]
        · rw [if_neg l5, if_neg l5]
          dsimp only
          rw [if_pos (by omega)])] at q2
      have Q2 := Lib.hid q2
      have QG := Lib.hid qg
      have hgw := q2.lt
      have HHQ := Lib.hid (show ∀ i, i < 5 → (fun i => h i + q i) i < 268435456 from fun i hi => by have := HH.out i hi; have := HSP.out i; dsimp only; omega)
      have HFIN := Lib.hid (show ti (fun i => h i + sp (pce f n size) i) r = ti (fun i => h i + q i) r by rw [HQE.out])
      clear q1 q2 qg K1 K0 KG HSP HQE HH
      generalize (fun i => h i + q i) = H at Q2 HHQ HFIN
      go_wp2_with fail
      have D1 := Lib.hid (show Whole wr.drew g 63 (qcells (mk2 r H) 10).toArray from Q2.out.drewN 1)
      refine region_drew (fun x => w.grownBy x (some g)) (by kernel_rfl) (grown_trans QG.out (grown_drewN wr g 1)) ?_
      intro hS
      refine take 0 _ rfl (by kernel_rfl) (by kernel_rfl) (by kernel_rfl) (fun _ _ _ h => h) (by rfl) hS (by intro w _; go_simp; with_reducible rfl) ?_
      try simp only [Act.put, List.setIfInBounds_toArray, List.set_cons_zero, List.set_cons_succ]
      refine take 1 _ rfl (by kernel_rfl) (by kernel_rfl) (by kernel_rfl) (fun _ _ _ h => h) (by rfl) hS (by intro w _; go_simp; with_reducible rfl) ?_
      try simp only [Act.put, List.setIfInBounds_toArray, List.set_cons_zero, List.set_cons_succ]
      refine take 2 _ rfl (by kernel_rfl) (by kernel_rfl) (by kernel_rfl) (fun _ _ _ h => h) (by rfl) hS (by intro w _; go_simp; with_reducible rfl) ?_
      try simp only [Act.put, List.setIfInBounds_toArray, List.set_cons_zero, List.set_cons_succ]
      refine take 3 _ rfl (by kernel_rfl) (by kernel_rfl) (by kernel_rfl) (fun _ _ _ h => h) (by rfl) hS (by intro w _; go_simp; with_reducible rfl) ?_
      try simp only [Act.put, List.setIfInBounds_toArray, List.set_cons_zero, List.set_cons_succ]
      refine take 5 _ rfl (by kernel_rfl) (by kernel_rfl) (by kernel_rfl) (fun _ _ _ h => h) (by rfl) hS (by intro w _; go_simp; with_reducible rfl) ?_
      try simp only [Act.put, List.setIfInBounds_toArray, List.set_cons_zero, List.set_cons_succ]
      refine take 6 _ rfl (by kernel_rfl) (by kernel_rfl) (by kernel_rfl) (fun _ _ _ h => h) (by rfl) hS (by intro w _; go_simp; with_reducible rfl) ?_
      try simp only [Act.put, List.setIfInBounds_toArray, List.set_cons_zero, List.set_cons_succ]
      refine take 7 _ rfl (by kernel_rfl) (by kernel_rfl) (by kernel_rfl) (fun _ _ _ h => h) (by rfl) hS (by intro w _; go_simp; with_reducible rfl) ?_
      try simp only [Act.put, List.setIfInBounds_toArray, List.set_cons_zero, List.set_cons_succ]
      refine ready_two 4 8 rfl rfl (by kernel_rfl) (by rfl) (by rfl) ?_ ?_
      · intro K hK
        refine wp_load_mid 61 _ rfl g 5 rfl (qcells H 5) _ (whole_part D1.out 5 5 H (mk2_h r H) (by omega)) rfl rfl (by rw [qcells_length]; kernel_rfl) ?_
        refine hK.out _ _ hS ?_
        clear hK K
        try simp only [Act.put, List.setIfInBounds_toArray, List.set_cons_zero, List.set_cons_succ]
        refine alone 8 rfl (by kernel_rfl) (by rfl) ?_
        intro K hK
        refine wp_load_mid 61 _ rfl g 0 rfl (qcells r 5) _ (whole_part D1.out 0 5 r (mk2_r r H) (by omega)) rfl rfl (by rw [qcells_length]; kernel_rfl) ?_
        refine hK.out _ _ hS ?_
        clear hK K
        try simp only [Act.put, List.setIfInBounds_toArray, List.set_cons_zero, List.set_cons_succ]
        refine alone 9 rfl (by kernel_rfl) (by rfl) ?_
        intro K hK
        go_simp
        refine (times_any H r HHQ.out HR.out _).mono ?_
        rintro e w6 ⟨rfl, hb6⟩
        go_simp
        have S1 := Lib.hid (D1.out.below hb6 D1.out.lt)
        replace hS := grown_trans hS ⟨hb6.os, hb6.tape, hb6.output, hb6.size, fun k hk _ => hb6.block k hk⟩
        refine hK.out _ _ hS ?_
        clear hK K hb6
        try simp only [Act.put, List.setIfInBounds_toArray, List.set_cons_zero, List.set_cons_succ]
        refine take 10 _ rfl (by kernel_rfl) (by kernel_rfl) (by kernel_rfl) (fun _ _ _ h => h) (by rfl) hS (by intro w _; go_simp; with_reducible rfl) ?_
        try simp only [Act.put, List.setIfInBounds_toArray, List.set_cons_zero, List.set_cons_succ]
        refine take 11 _ rfl (by kernel_rfl) (by kernel_rfl) (by kernel_rfl) (fun _ _ _ h => h) (by rfl) hS (by intro w _; go_simp; with_reducible rfl) ?_
        try simp only [Act.put, List.setIfInBounds_toArray, List.set_cons_zero, List.set_cons_succ]
        refine alone 12 rfl (by kernel_rfl) (by rfl) ?_
        intro K hK
        refine wp_store_mid 61 _ _ rfl g 5 (qcells (ti H r) 5).toArray rfl rfl (by rw [qcells_size]; exact mark_there S1.out) (by rw [qcells_size]; kernel_rfl) (qcells_one _ _) ?_
        have S3 := Lib.hid (whole_mark (F := ti H r) S1.out)
        replace hS := grown_trans hS (grown_puts g (qcells (ti H r) 5).toArray.toList 5 w6)
        refine hK.out _ _ hS ?_
        clear hK K
        try simp only [Act.put]
        refine region_end (by kernel_rfl) ?_
        have S4 := Lib.hid hS
        clear hS
        change Hid (Whole (w6.setCells g 5 (qcells (ti H r) 5).toArray.toList) g 63 (qcells (mk2 r (ti H r)) 10).toArray) at S3
        generalize w6.setCells g 5 (qcells (ti H r) 5).toArray.toList = w7 at S3 S4 ⊢
        go_wp2_with fail
        go_end0
        exact ⟨rfl, by rw [HFIN.out]; exact S3.out, S4.out⟩
      · intro K hK
        refine wp_load_mid 61 _ rfl g 0 rfl (qcells r 5) _ (whole_part D1.out 0 5 r (mk2_r r H) (by omega)) rfl rfl (by rw [qcells_length]; kernel_rfl) ?_
        refine hK.out _ _ hS ?_
        clear hK K
        try simp only [Act.put, List.setIfInBounds_toArray, List.set_cons_zero, List.set_cons_succ]
        refine alone 4 rfl (by kernel_rfl) (by rfl) ?_
        intro K hK
        refine wp_load_mid 61 _ rfl g 5 rfl (qcells H 5) _ (whole_part D1.out 5 5 H (mk2_h r H) (by omega)) rfl rfl (by rw [qcells_length]; kernel_rfl) ?_
        refine hK.out _ _ hS ?_
        clear hK K
        try simp only [Act.put, List.setIfInBounds_toArray, List.set_cons_zero, List.set_cons_succ]
        refine alone 9 rfl (by kernel_rfl) (by rfl) ?_
        intro K hK
        go_simp
        refine (times_any H r HHQ.out HR.out _).mono ?_
        rintro e w6 ⟨rfl, hb6⟩
        go_simp
        have S1 := Lib.hid (D1.out.below hb6 D1.out.lt)
        replace hS := grown_trans hS ⟨hb6.os, hb6.tape, hb6.output, hb6.size, fun k hk _ => hb6.block k hk⟩
        refine hK.out _ _ hS ?_
        clear hK K hb6
        try simp only [Act.put, List.setIfInBounds_toArray, List.set_cons_zero, List.set_cons_succ]
        refine take 10 _ rfl (by kernel_rfl) (by kernel_rfl) (by kernel_rfl) (fun _ _ _ h => h) (by rfl) hS (by intro w _; go_simp; with_reducible rfl) ?_
        try simp only [Act.put, List.setIfInBounds_toArray, List.set_cons_zero, List.set_cons_succ]
        refine take 11 _ rfl (by kernel_rfl) (by kernel_rfl) (by kernel_rfl) (fun _ _ _ h => h) (by rfl) hS (by intro w _; go_simp; with_reducible rfl) ?_
        try simp only [Act.put, List.setIfInBounds_toArray, List.set_cons_zero, List.set_cons_succ]
        refine alone 12 rfl (by kernel_rfl) (by rfl) ?_
        intro K hK
        refine wp_store_mid 61 _ _ rfl g 5 (qcells (ti H r) 5).toArray rfl rfl (by rw [qcells_size]; exact mark_there S1.out) (by rw [qcells_size]; kernel_rfl) (qcells_one _ _) ?_
        have S3 := Lib.hid (whole_mark (F := ti H r) S1.out)
        replace hS := grown_trans hS (grown_puts g (qcells (ti H r) 5).toArray.toList 5 w6)
        refine hK.out _ _ hS ?_
        clear hK K
        try simp only [Act.put]
        refine region_end (by kernel_rfl) ?_
        have S4 := Lib.hid hS
        clear hS
        change Hid (Whole (w6.setCells g 5 (qcells (ti H r) 5).toArray.toList) g 63 (qcells (mk2 r (ti H r)) 10).toArray) at S3
        generalize w6.setCells g 5 (qcells (ti H r) 5).toArray.toList = w7 at S3 S4 ⊢
        go_wp2_with fail
        go_end0
        exact ⟨rfl, by rw [HFIN.out]; exact S3.out, S4.out⟩

end Poly
end Go.Proofs.Ytdffbjlbhjppeaa
