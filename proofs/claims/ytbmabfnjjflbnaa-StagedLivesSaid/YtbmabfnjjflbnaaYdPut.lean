/- Package staged: twin; the ring's put. -/
import Derived.Test.YtbmabfnjjflbnaaYdTake
import Derived.Laws.CopyOwn
namespace Go.Proofs.Ytbmabfnjjflbnaa
namespace Yd
open Go.ChangeShapes Go.WideShapes Go.ChangeAt Go.RowKit Go.Maps
open Num Mem Words Chacha Aead Poly Quiet RowV

theorem splice_whole (f : Nat → Nat) (n : Nat) : splice (byteCells (fun _ => 0) n) 0 (byteCells f n) = byteCells f n :=
  byteCells_splice (fun _ => 0) f f n 0 n (by omega) (fun i hi => by rw [if_pos (by omega)]; rfl)

theorem still_take {P : Program} {ops : Array Oper} {w : World} {Q : Act → Prop} {a : Act} {o : Oper} {rest : List Oper} (v : Value) (hw : Region.wanted o (yielded ops a.tmps) = true) (hr : (execOp a.eval o).run P w = .ok (.value v) w)
    (h : wpStill P ops w Q rest (a.put o.dst v)) : wpStill P ops w Q (o :: rest) a := by
  unfold wpStill
  rw [if_pos hw]
  unfold Oper.still
  rw [hr, Oper.stillUpon_value]
  exact h

set_option maxRecDepth 100000 in
theorem twin_any (A : Option Addr) (n c : Nat) (f : Nat → Nat) (hn : n ≤ 1500) (w : World) (h : Rd w A n f) :
    Calls Try.prog 25 #[.slice A n c] w fun e w' => e = .returned (.slice (some ⟨w.heap.size, 0, none⟩) n n) ∧ Whole w' w.heap.size 5 (byteCells f n).toArray ∧ Below w.heap.size w w' := by
  have HM := Lib.hid (made_bytes n (by omega))
  rcases Nat.eq_zero_or_pos n with h0 | h0
  · subst h0
    clear h
    have hm : (Instr.makeSlice 30 (.int .i64 0) (.int .i64 0)).run Try.prog w = .ok (.slice (some ⟨w.heap.size, 0, none⟩) 0 0) (w.alloc (.cells (byteCells (fun _ => 0) 0).toArray 5)) := HM.out w
    go_enter Try.func25, Try.ntmps25
    go_upto_region 2 with fail
    clear hm
    go_wp2_with (refine wpList_copy_nothing rfl (.tmp 7) (.tmp 8) 30 30 rfl 5 rfl (by kernel_rfl) _ _ _ _ _ _ rfl rfl (by rfl) ?_)
    go_ret
    exact ⟨rfl, Whole.new _ _ _, below_alloc (Below.refl _ _) _⟩
  · rcases h with h | ⟨b, off, rfl, hlt, hcell⟩
    · omega
    · have HC := Lib.hid hcell
      have hm := HM.out w
      clear hcell
      go_enter Try.func25, Try.ntmps25
      go_upto_region 2 with fail
      clear hm
      have K2 := Lib.hid (Whole.new w 5 (byteCells (fun _ => 0) n).toArray)
      have HS := Lib.hid (rd_src (w := w.alloc (.cells (byteCells (fun _ => 0) n).toArray 5)) (b := b) (off := off) (n := n) (f := f) (fun i hi => (Below.cell (Below.alloc (Below.refl w.heap.size w) (Nat.le_refl _) _) (p := ⟨b, off + i, none⟩) hlt).trans (HC.out i hi)))
      go_upto_region 3 with (refine wpList_copy rfl (.tmp 7) (.tmp 8) 30 30 rfl 5 rfl (by kernel_rfl) w.heap.size 0 n n ⟨b, off, none⟩ n c rfl rfl (byteCells (fun _ => 0) n) 5 K2.out (byteCells f n) (by rw [byteCells_length]; exact (Nat.min_self n).symm) HS.out (by rw [byteCells_length, byteCells_length]; omega) (bytes_each _ _) ?_; intro w8 hg8 hb8)
      rw [splice_whole] at hg8
      go_wp2_with fail
      go_ret
      exact ⟨rfl, hg8.out, below_grown (below_alloc (Below.refl _ _) _) hb8 (Nat.le_refl _) (by simp)⟩

set_option maxRecDepth 100000 in
theorem put_any (r : Nat) (x : Pk) (L : List Pk) (cs : List Value) (p a : Nat) (w : World) (h : RingC w r L cs p) (hfew : L.length < 8) (h1 : ∀ i, x.f i < 256) (h2 : x.len ≤ 1500) (h3 : x.num < 18446744073709551616) (hw : Whole w a 5 (byteCells x.f x.len).toArray) (hav : a ≠ x.av) :
    Calls Try.prog 24 #[.pointer (some ⟨r, 0, none⟩), pkV a x] w fun e w' => e = .returned (.tuple #[]) ∧ RingW w' r (L ++ [x]) ∧ w.grownBy w' (some r) := by
  have HB := Lib.hid hw
  have HAV := Lib.hid hav
  clear hav
  have H := Lib.hid h
  have hp := h.pos
  have hrl := h.blk.lt
  have h123 := Lib.hid (show (∀ i, x.f i < 256) ∧ x.len ≤ 1500 ∧ x.num < 18446744073709551616 from ⟨h1, h2, h3⟩)
  obtain ⟨q, hq⟩ : ∃ q, (p + L.length) % 8 = q := ⟨_, rfl⟩
  have HQ := Lib.hid hq
  have hq8 : q < 8 := by omega
  obtain ⟨V, hV⟩ : ∃ V, (pkL a x).toArray = V := ⟨_, rfl⟩
  have HV := Lib.hid hV
  have HVS := Lib.hid (show V.size = 2 by rw [← hV]; rfl)
  have HVO := Lib.hid (show V.all (·.oneCell') = true by rw [← hV]; exact pk_one a x)
  unfold pkV
  rw [hV]
  clear hV h h1 h2 h3 hw
  go_enter Try.func24, Try.ntmps24
  go_upto_region 1 with fail
  have hb0 : Below w.heap.size w (w.alloc (.cells V 46)) := below_alloc (Below.refl _ _) _
  refine cut_world (fun X => RingC X r L cs p ∧ Whole X w.heap.size 46 V ∧ Below w.heap.size w X ∧ Whole X a 5 (byteCells x.f x.len).toArray) ⟨H.out.below hb0, whole_new _ _ rfl, hb0, HB.out.below hb0 HB.out.lt⟩ ?_
  rintro X ⟨x1, x2, x3, x4⟩
  have R1 := Lib.hid x1
  have R2 := Lib.hid x2
  have R3 := Lib.hid x3
  have R4 := Lib.hid x4
  clear hb0 x1 x2 x3 x4 HB H
  have hrN : r ≠ w.heap.size := by omega
  generalize hN : w.heap.size = N at hrl R2 R3 hrN ⊢
  have c16 : X.cell? ⟨r, 16, none⟩ = some (.int .i64 (p : Nat)) := by
    rw [R1.out.blk.cell, List.getElem?_toArray]; exact R1.out.at16
  have c17 : X.cell? ⟨r, 17, none⟩ = some (.int .i64 (L.length : Nat)) := by
    rw [R1.out.blk.cell, List.getElem?_toArray]; exact R1.out.at17
  have hw1 : IntKind.i64.wrap ((p : Int) + (L.length : Int)) = (p : Int) + (L.length : Int) := by rw [IntKind.wrap_i64]; omega
  have hm1 : ((p : Int) + (L.length : Int)) % 8 = (q : Int) := by omega
  have hm2 : ((p : Int) + (L.length : Int)).tmod 8 = (q : Int) := by rw [Int.tmod_eq_emod_of_nonneg (by omega)]; exact hm1
  have hq8' : (q : Int) < 8 := by omega
  refine wp_region_still_tail 15 (by kernel_rfl) (by kernel_rfl) ?_
  simp only [List.take_succ_cons, List.take_zero, List.drop_succ_cons, List.drop_zero]
  still_step
  still_step
  still_step
  still_step
  still_step
  still_step
  still_step
  still_step
  still_step
  still_step
  still_step
  refine still_take _ (by rfl) (run_load_in 46 (.tmp 3) rfl N rfl V 2 HVS.out R2.out.drew rfl rfl (by kernel_rfl)) ?_
  go_frame
  repeat still_step
  refine wpStill_nil ?_
  change wpList _ _ _ _ _ X.drew
  have TH : X.drew.there r (q * 2) V.size := by rw [HVS.out]; exact there_of (show Whole X.drew r _ _ from R1.out.blk) _ _ (by rw [R1.out.len]; omega)
  refine wpList_store_mid rfl 46 (.tmp 18) (.tmp 15) rfl r (q * 2) V rfl rfl TH (by rw [HVS.out]; kernel_rfl) HVO.out ?_
  clear TH
  go_upto_region 2 with fail
  obtain ⟨c2, hc2⟩ : ∃ c2, (cs.set (q * 2) (.int .u64 (x.num : Nat))).set (q * 2 + 1) (.slice (some ⟨a, 0, none⟩) x.len x.len) = c2 := ⟨_, rfl⟩
  have HC2 := Lib.hid hc2
  have hgX : w.grownBy X (some r) := ⟨R3.out.os, R3.out.tape, R3.out.output, R3.out.size, fun k hk _ => R3.out.block k (by omega)⟩
  have h17 := R1.out.at17
  have H17 := Lib.hid (show c2[17]? = some (.int .i64 (L.length : Nat)) by rw [← hc2, List.getElem?_set_ne (by omega), List.getElem?_set_ne (by omega)]; exact h17)
  have hVl : V.toList = pkL a x := by rw [← HV.out]
  rw [hVl]
  refine cut_world (fun Y => Whole Y r 66 c2.toArray ∧ KpB X Y ∧ w.grownBy Y (some r)) (by
    have hs : X.grownBy (X.drew.setCells r (q * 2) (pkL a x)) (some r) := grown_undrew (grown_set2 X.drew r (q * 2) (.int .u64 (x.num : Nat)) (.slice (some ⟨a, 0, none⟩) x.len x.len))
    have hb := whole_set2 (show Whole X.drew r 66 cs.toArray from R1.out.blk) (q * 2) (.int .u64 (x.num : Nat)) (.slice (some ⟨a, 0, none⟩) x.len x.len)
    rw [hc2] at hb
    exact ⟨hb, KpB.grown hs R1.out.blk (by decide), grown_tr hgX hs⟩) ?_
  rintro Y ⟨y1, y2, y3⟩
  have Y1 := Lib.hid y1
  have Y2 := Lib.hid y2
  have Y3 := Lib.hid y3
  clear y1 y2 y3 hc2 hVl hgX h17 c16 c17 hw1 hm1 hm2 hq8'
  have c17 : Y.cell? ⟨r, 17, none⟩ = some (.int .i64 (L.length : Nat)) := by rw [Y1.out.cell, List.getElem?_toArray]; exact H17.out
  have f17 : Y.frozen? ⟨r, 17, none⟩ = false := Y1.out.free 17
  have hw2 : IntKind.i64.wrap ((L.length : Int) + 1) = (L.length : Int) + 1 := by rw [IntKind.wrap_i64]; omega
  go_wp2_with fail
  go_end0
  have hg2 := grown_set1 Y r 17 (.int .i64 ((L.length : Int) + 1))
  have hk2 : KpB X (Y.setCell ⟨r, 17, none⟩ (.int .i64 ((L.length : Int) + 1))) := Y2.out.trans (KpB.grown hg2 Y1.out (by decide))
  have hb2 := Y1.out.put 17 (.int .i64 ((L.length : Int) + 1))
  rw [List.setIfInBounds_toArray, ← HC2.out] at hb2
  exact ⟨rfl, ⟨_, _, ring_put R1.out hk2 hfew h123.out.1 h123.out.2.1 h123.out.2.2 (hk2 _ _ R4.out) HAV.out q HQ.out.symm hb2⟩, grown_tr Y3.out hg2⟩
end Yd
end Go.Proofs.Ytbmabfnjjflbnaa
