/- The calls Cut and Fill of package inner. -/
import Derived.Test.YtiemcfgjpcnloaaInnerRead
namespace Go.Proofs.Ytiemcfgjpcnloaa
namespace Inner
open Go.ChangeShapes Go.WideShapes Go.ChangeAt Go.RowKit
open Num Mem Words Chacha Aead

theorem rdL_at34 (f : Nat → Nat) (n : Nat) : (rdL f n)[34]? = some (.int .i64 (rdN f n : Nat)) := by
  unfold rdL rdN
  (repeat' split) <;> rfl

set_option maxRecDepth 100000 in
set_option maxHeartbeats 2000000 in
theorem cut_no (A : Option Addr) (n c : Nat) (f : Nat → Nat) (hf : ∀ i, f i < 256) (hn : n ≤ 4000) (hcn : n ≤ c) (hcm : c ≤ 9223372036854775807) (w : World) (hr : Rd w A n f) (hE : rdE f n ≠ 0) :
    Calls Try.prog 11 #[.slice A n c] w fun e w' => e = .returned (.tuple #[.slice none 0 0, .int .i64 (rdE f n : Nat)]) ∧ Below w.heap.size w w' := by
  obtain ⟨zs, hz, hzs⟩ : ∃ zs : Array Value, (∀ w, (zeroValue 28).run Try.prog w = .ok (.agg zs) w) ∧ zs.size = 35 := ⟨_, zero_pack, pack_size _ _ _ _ _⟩
  have HZS := Lib.hid hzs
  clear hzs
  have C := Lib.hid (read_any A n c f hf hn hcn hcm w hr)
  have HO2 := Lib.hid (rdL_each f n)
  have HLS := Lib.hid (show (rdL f n).toArray.size = 35 from by rw [List.size_toArray]; exact rdL_length f n)
  obtain ⟨E, hEE⟩ : ∃ E, rdE f n = E := ⟨_, rfl⟩
  rw [hEE] at C hE ⊢
  clear hEE hf hr
  obtain ⟨L, hL⟩ : ∃ L, rdL f n = L := ⟨_, rfl⟩
  rw [hL] at C HO2 HLS
  clear hL
  have hne : ((E : Int) != 0) = true := by rw [bne_iff_ne]; omega
  go_enter Try.func11, Try.ntmps11
  go_wp2_with fail
  refine C.out.mono ?_
  rintro e w1 ⟨rfl, hb1⟩
  have HB := Lib.hid hb1
  clear hb1
  go_wp2_with (refine wpList_store_row rfl 28 (.tmp 4) (.tmp 10) rfl w1.heap.size L.toArray rfl rfl 28 _ (Whole.new _ _ zs) (by rw [HLS.out]; kernel_rfl) (by rw [HLS.out, HZS.out]) HO2.out ?_)
  go_ret2
  exact ⟨rfl, below_setRow (below_alloc HB.out _) HB.out.size _⟩

set_option maxRecDepth 100000 in
set_option maxHeartbeats 2000000 in
theorem cut_ok (b off n c : Nat) (f : Nat → Nat) (hf : ∀ i, f i < 256) (hn : n ≤ 4000) (hcn : n ≤ c) (hcm : c ≤ 9223372036854775807) (w : World) (hb : b < w.heap.size)
    (hc : ∀ i, i < n → w.cell? ⟨b, off + i, none⟩ = some (.int .u8 (f i : Nat))) (hE : rdE f n = 0) :
    Calls Try.prog 11 #[.slice (some ⟨b, off, none⟩) n c] w fun e w' => ∃ G, e = .returned (.tuple #[.slice (some ⟨G, 0, none⟩) (rdN f n) (rdN f n), .int .i64 0]) ∧ Whole w' G 5 (byteCells f (rdN f n)).toArray ∧ w.heap.size ≤ G ∧ Below w.heap.size w w' := by
  obtain ⟨zs, hz, hzs⟩ : ∃ zs : Array Value, (∀ w, (zeroValue 28).run Try.prog w = .ok (.agg zs) w) ∧ zs.size = 35 := ⟨_, zero_pack, pack_size _ _ _ _ _⟩
  have HZS := Lib.hid hzs
  clear hzs
  have C := Lib.hid (read_any (some ⟨b, off, none⟩) n c f hf hn hcn hcm w (.inr ⟨b, off, rfl, hb, hc⟩))
  have HC := Lib.hid hc
  have HO2 := Lib.hid (rdL_each f n)
  have HLS := Lib.hid (show (rdL f n).toArray.size = 35 from by rw [List.size_toArray]; exact rdL_length f n)
  have HL34 := Lib.hid (rdL_at34 f n)
  rw [hE] at C
  have hN := rdN_le f n
  obtain ⟨N, hNN⟩ : ∃ N, rdN f n = N := ⟨_, rfl⟩
  rw [hNN] at hN HL34 ⊢
  obtain ⟨L, hL⟩ : ∃ L, rdL f n = L := ⟨_, rfl⟩
  rw [hL] at C HO2 HLS HL34
  clear hL hNN hE hf hc
  go_enter Try.func11, Try.ntmps11
  go_wp2_with fail
  refine C.out.mono ?_
  rintro e w1 ⟨rfl, hb1⟩
  have HB := Lib.hid hb1
  clear hb1
  go_upto_region 2 with (refine wpList_store_row rfl 28 (.tmp 4) (.tmp 10) rfl w1.heap.size L.toArray rfl rfl 28 _ (Whole.new _ _ zs) (by rw [HLS.out]; kernel_rfl) (by rw [HLS.out, HZS.out]) HO2.out ?_)
  refine cut_world (fun X => Whole X w1.heap.size 28 L.toArray ∧ Below w.heap.size w X) ⟨setRow_heap _ _ _ _ _ _ (Whole.new _ _ _), below_setRow (below_alloc HB.out _) HB.out.size _⟩ ?_
  have hs1 := HB.out.size
  clear HB
  generalize w1.heap.size = g at hs1 ⊢
  rintro W ⟨p1, pb⟩
  have hcell : W.cell? ⟨g, 34, none⟩ = some (.int .i64 (N : Nat)) := by
    rw [p1.cell, List.getElem?_toArray, HL34.out]
  have HB := Lib.hid pb
  have hgl := p1.lt
  clear p1 pb
  have hmk := made_bytes N (by omega) W
  go_upto_region 5 with fail
  refine cut_world (fun X => Whole X W.heap.size 5 (byteCells (fun _ => 0) N).toArray ∧ Below w.heap.size w X) ⟨whole_new _ _ rfl, below_alloc' HB.out (by omega) _⟩ ?_
  clear hmk hcell HB
  generalize W.heap.size = G at hgl ⊢
  rintro W2 ⟨p1, pb⟩
  have P1 := Lib.hid p1
  have HB := Lib.hid pb
  have HS := Lib.hid (rd_src (w := W2) (b := b) (off := off) (n := N) (f := f) fun i hi => (pb.cell (p := ⟨b, off + i, none⟩) hb).trans (HC.out i (by omega)))
  have hl := p1.lt
  clear p1 pb
  go_upto_region 6 with (refine wpList_copy rfl (.tmp 18) (.tmp 19) 22 22 rfl 5 rfl (by kernel_rfl) G 0 N N ⟨b, off, none⟩ n c rfl rfl (byteCells (fun _ => 0) N) 5 P1.out (byteCells f N) (by rw [byteCells_length]; exact (Nat.min_eq_right (by omega)).symm) HS.out (by rw [byteCells_length, byteCells_length]; omega) (bytes_each _ _) ?_; intro w8 hg8 hb8)
  have P2 := Lib.hid (show Whole w8 G 5 (byteCells f N).toArray from by
    have h := hg8.out
    rw [byteCells_splice (fun _ => 0) f f N 0 N (by omega) (fun i hi => by rw [if_pos ⟨by omega, by omega⟩, Nat.sub_zero])] at h
    exact h)
  have HB2 := Lib.hid (below_grown HB.out hb8 (by omega) (by omega))
  clear hg8 hb8 P1 HS HB
  go_wp2_with fail
  go_ret2
  exact ⟨G, rfl, P2.out, by omega, HB2.out⟩

set_option maxRecDepth 100000 in
set_option maxHeartbeats 2000000 in
theorem fill_ok (b off n c m : Nat) (f : Nat → Nat) (hn : n ≤ 1500) (hm : m = (n + 15) / 16 * 16) (w : World) (hb : b < w.heap.size)
    (hc : ∀ i, i < n → w.cell? ⟨b, off + i, none⟩ = some (.int .u8 (f i : Nat))) :
    Calls Try.prog 13 #[.slice (some ⟨b, off, none⟩) n c] w fun e w' => e = .returned (.tuple #[.slice (some ⟨w.heap.size, 0, none⟩) m m, .int .i64 0]) ∧ Whole w' w.heap.size 5 (byteCells (fun i => if i < n then f i else 0) m).toArray ∧ Below w.heap.size w w' := by
  have HC := Lib.hid hc
  have HM := Lib.hid (show ((n : Int) + 16 - 1) / 16 * 16 = (m : Int) from by omega)
  have hmn : n ≤ m := by omega
  have hm2 : m ≤ 4000 := by omega
  clear hc hm
  have hmk := made_bytes m (by omega) w
  have hM := HM.out
  go_enter Try.func13, Try.ntmps13
  go_upto_region 4 with fail
  refine cut_world (fun X => Whole X w.heap.size 5 (byteCells (fun _ => 0) m).toArray ∧ Below w.heap.size w X) ⟨whole_new _ _ rfl, below_alloc (Below.refl _ _) _⟩ ?_
  clear hmk hM
  rintro W2 ⟨p1, pb⟩
  have P1 := Lib.hid p1
  have HB := Lib.hid pb
  have HS := Lib.hid (rd_src (w := W2) (b := b) (off := off) (n := n) (f := f) fun i hi => (pb.cell (p := ⟨b, off + i, none⟩) hb).trans (HC.out i (by omega)))
  have hl := p1.lt
  clear p1 pb
  generalize hG : w.heap.size = G at P1 HB hl hb ⊢
  go_upto_region 5 with (refine wpList_copy rfl (.tmp 15) (.tmp 16) 22 22 rfl 5 rfl (by kernel_rfl) G 0 m m ⟨b, off, none⟩ n c rfl rfl (byteCells (fun _ => 0) m) 5 P1.out (byteCells f n) (by rw [byteCells_length]; exact (Nat.min_eq_left (by omega)).symm) HS.out (by rw [byteCells_length, byteCells_length]; omega) (bytes_each _ _) ?_; intro w8 hg8 hb8)
  have P2 := Lib.hid (show Whole w8 G 5 (byteCells (fun i => if i < n then f i else 0) m).toArray from by
    have h := hg8.out
    rw [byteCells_splice (fun _ => 0) f (fun i => if i < n then f i else 0) m 0 n (by omega) (fun i hi => by
      by_cases l : i < n
      · rw [if_pos l, if_pos ⟨by omega, by omega⟩, Nat.sub_zero]
      · rw [if_neg l, if_neg (by omega)])] at h
    exact h)
  have HB2 := Lib.hid (below_grown HB.out hb8 (by omega) (by omega))
  clear hg8 hb8 P1 HS HB
  go_wp2_with fail
  go_ret2
  exact ⟨by rw [hG]; rfl, by rw [hG]; exact P2.out, by rw [hG]; exact HB2.out⟩

end Inner
end Go.Proofs.Ytiemcfgjpcnloaa
