/- The call readSix of package inner. -/
import Derived.Test.YtiemcfgjpcnloaaInnerFour
namespace Go.Proofs.Ytiemcfgjpcnloaa
namespace Inner
open Go.ChangeShapes Go.WideShapes Go.ChangeAt Go.RowKit
open Num Mem Words Chacha Aead

set_option maxRecDepth 100000 in
set_option maxHeartbeats 2000000 in
theorem six_short (A : Option Addr) (n c : Nat) (hn : n < 40) (w : World) :
    Calls Try.prog 18 #[.slice A n c] w fun e w' => e = .returned (.tuple #[.agg (packL false nought false nought 0).toArray, .int .i64 10]) ∧ Below w.heap.size w w' := by
  obtain ⟨zs, hz, hzs, hzc⟩ : ∃ zs : Array Value, (∀ w, (zeroValue 28).run Try.prog w = .ok (.agg zs) w) ∧ zs.size = 35 ∧ zs = (packL false nought false nought 0).toArray := ⟨_, zero_pack, pack_size _ _ _ _ _, rfl⟩
  have HZC := Lib.hid hzc
  have HZS := Lib.hid hzs
  have HB0 := Lib.hid pack_built0
  have HO := Lib.hid (pack_one false nought false nought 0)
  rw [← hzc] at HB0 HO
  clear hzc hzs
  go_enter Try.func18, Try.ntmps18
  go_wp2_with (first | (refine wpList_built0 rfl 28 rfl zs HB0.out ?_) | (refine wpList_store_row rfl 28 (.tmp 2) (.tmp 8) rfl w.heap.size zs rfl rfl 28 _ (Whole.new _ _ zs) (by rw [HZS.out]; kernel_rfl) rfl HO.out ?_))
  have hret : Whole ((w.alloc (.cells zs 28)).setRow w.heap.size zs) w.heap.size 28 (packL false nought false nought 0).toArray := by
    rw [← HZC.out]
    exact setRow_heap _ _ _ _ _ _ (Whole.new _ _ _)
  refine bodyPost_ret (Poly.results_cell_tmp rfl _ _ w.heap.size 28 _ _ rfl hret rfl rfl (by rw [packL_length]; kernel_rfl)) rfl ?_
  exact ⟨rfl, below_setRow (below_alloc (Below.refl _ _) _) (Nat.le_refl _) _⟩

theorem pack_at34 (s1 : Bool) (f1 : Nat → Nat) (s2 : Bool) (f2 : Nat → Nat) (z : Int) : (packL s1 f1 s2 f2 z)[34]? = some (.int .i64 z) := rfl

set_option maxRecDepth 100000 in
set_option maxHeartbeats 4000000 in
theorem six_bad (b off n c : Nat) (f : Nat → Nat) (hf : ∀ i, f i < 256) (hn : n ≤ 4000) (h40 : 40 ≤ n) (_ : n ≤ c) (_ : c ≤ 9223372036854775807) (hk : ¬ sz6 f ≤ n) (w : World) (hb : b < w.heap.size)
    (hc : ∀ i, i < n → w.cell? ⟨b, off + i, none⟩ = some (.int .u8 (f i : Nat))) :
    Calls Try.prog 18 #[.slice (some ⟨b, off, none⟩) n c] w fun e w' => e = .returned (.tuple #[.agg (packL false nought false nought 0).toArray, .int .i64 50]) ∧ Below w.heap.size w w' := by
  obtain ⟨zs, hz, hzs, hzc⟩ : ∃ zs : Array Value, (∀ w, (zeroValue 28).run Try.prog w = .ok (.agg zs) w) ∧ zs.size = 35 ∧ zs = (packL false nought false nought 0).toArray := ⟨_, zero_pack, pack_size _ _ _ _ _, rfl⟩
  have HZS := Lib.hid hzs
  have HZC := Lib.hid hzc
  have HB0 := Lib.hid pack_built0
  have HO := Lib.hid (pack_one false nought false nought 0)
  rw [← hzc] at HB0 HO
  clear hzc hzs
  have HF := Lib.hid hf
  have HC := Lib.hid hc
  have hss : f 4 * 256 + f 5 ≤ 65535 := by have := hf 4; have := hf 5; omega
  have hk' : ¬ sz6 f ≤ n := hk
  clear hk
  unfold sz6 at hk'
  obtain ⟨s, hs⟩ : ∃ s, f 4 * 256 + f 5 = s := ⟨_, rfl⟩
  have HS4 := Lib.hid (show f 4 * 256 + f (4 + 1) = s from hs)
  have HSZ := Lib.hid (show sz6 f = s + 40 from by unfold sz6; omega)
  rw [hs] at hss hk'
  clear hf hc hs
  obtain ⟨ad, has⟩ : ∃ ad, (addrL true nought).toArray = ad := ⟨_, rfl⟩
  have HA := Lib.hid (show Try.prog.built 26 [(0, .bool true)] = some ad from has ▸ addr_built1 true)
  have HAS := Lib.hid has
  clear has
  go_enter Try.func18, Try.ntmps18
  go_upto_region 3 with fail
  refine cut_world (fun X => RdW w w.heap.size b off n f zs X) ⟨Whole.new _ _ _, fun i hi => ((below_alloc (Below.refl _ _) _).cell (p := ⟨b, off + i, none⟩) hb).trans (HC.out i hi), below_alloc (Below.refl _ _) _, hb⟩ ?_
  rintro W hr
  have HR := Lib.hid hr
  clear hr HC
  generalize hB : w.heap.size = B at HR hb ⊢
  go_wp2_with (refine wpList_built1 rfl 26 0 (.const (.bool true)) rfl (.bool true) rfl ad HA.out ?_)
  refine (number_any b off n c f HF.out 4 (by omega) (by omega) _ (fun i hi => HR.out.src i hi)).mono ?_
  rintro e w' ⟨rfl, rfl⟩
  rw [HS4.out]
  have HB3 := Lib.hid (pack_built3 true nought true nought (40 + (s : Int)))
  rw [HAS.out] at HB3
  have HO3 := Lib.hid (pack_one true nought true nought (40 + (s : Int)))
  have HZ3 := Lib.hid (pack_size true nought true nought (40 + (s : Int)))
  go_upto_region 4 with (first | (refine wpList_built3 rfl 28 0 1 2 (.tmp 9) (.tmp 10) (.tmp 13) rfl (.agg ad) (.agg ad) (.int .i64 (40 + (s : Int))) rfl rfl rfl (packL true nought true nought (40 + (s : Int))).toArray HB3.out ?_) | (refine wpList_store_row rfl 28 (.tmp 4) (.tmp 14) rfl W.heap.size (packL true nought true nought (40 + (s : Int))).toArray rfl rfl 28 _ (Whole.new _ _ zs) (by rw [HZ3.out]; kernel_rfl) (by rw [HZS.out, HZ3.out]) HO3.out ?_))
  refine cut_world (fun X => Whole X W.heap.size 28 (packL true nought true nought (40 + (s : Int))).toArray ∧ RdW w B b off n f zs X) ⟨setRow_heap _ _ _ _ _ _ (Whole.new _ _ _), ?_⟩ ?_
  · have q1 := HR.out.res
    have hbl : Below W.heap.size W ((W.alloc (.cells zs 28)).setRow W.heap.size (packL true nought true nought (40 + (s : Int))).toArray) := below_setRow (below_alloc (Below.refl _ _) _) (Nat.le_refl _) _
    exact ⟨q1.below hbl q1.lt, fun i hi => (hbl.cell (p := ⟨b, off + i, none⟩) (Nat.lt_trans HR.out.lt q1.lt)).trans (HR.out.src i hi), HR.out.bel.trans (hbl.mono (Nat.le_of_lt q1.lt)), HR.out.lt⟩
  have hBG := HR.out.res.lt
  clear HR HB3 HO3 HZ3 HA
  generalize hG : W.heap.size = G at hBG ⊢
  obtain ⟨sz, hsz⟩ : ∃ sz : Nat, 40 + (s : Int) = (sz : Int) := ⟨40 + s, by omega⟩
  rw [hsz]
  have hsz2 : sz = s + 40 := by omega
  have HSZ2 := Lib.hid hsz2
  clear hsz
  rintro W3 ⟨p1, hr⟩
  have P1 := Lib.hid p1
  have HR := Lib.hid hr
  have hc34 : W3.cell? ⟨G, 34, none⟩ = some (.int .i64 (sz : Int)) := by
    rw [p1.cell, List.getElem?_toArray, pack_at34]
  rw [← hsz2] at hk'
  clear p1 hr hG hsz2
  have hk2 : n < sz := by omega
  clear hk'
  go_wp2_with (first | (refine wpList_built0 rfl 28 rfl zs HB0.out ?_) | (refine wpList_store_row rfl 28 (.tmp 2) (.tmp 20) rfl B zs rfl rfl 28 _ HR.out.res (by rw [HZS.out]; kernel_rfl) rfl HO.out ?_))
  have hret : Whole (W3.setRow B zs) B 28 (packL false nought false nought 0).toArray := by
    rw [← HZC.out]
    exact setRow_heap _ _ _ _ _ _ HR.out.res
  refine bodyPost_ret (Poly.results_cell_tmp rfl _ _ B 28 _ _ rfl hret rfl rfl (by rw [packL_length]; kernel_rfl)) rfl ?_
  exact ⟨rfl, by first | exact below_setRow HR.out.bel (Nat.le_refl _) _ | (rw [hB]; exact below_setRow HR.out.bel (Nat.le_refl _) _)⟩

set_option maxRecDepth 100000 in
set_option maxHeartbeats 4000000 in
theorem six_ok (b off n c : Nat) (f : Nat → Nat) (hf : ∀ i, f i < 256) (hn : n ≤ 4000) (h40 : 40 ≤ n) (hcn : n ≤ c) (hcm : c ≤ 9223372036854775807) (hk : sz6 f ≤ n) (w : World) (hb : b < w.heap.size)
    (hc : ∀ i, i < n → w.cell? ⟨b, off + i, none⟩ = some (.int .u8 (f i : Nat))) :
    Calls Try.prog 18 #[.slice (some ⟨b, off, none⟩) n c] w fun e w' => e = .returned (.tuple #[.agg (packL true (at6 f 8) true (at6 f 24) (sz6 f : Nat)).toArray, .int .i64 0]) ∧ Below w.heap.size w w' := by
  obtain ⟨zs, hz, hzs, hzc⟩ : ∃ zs : Array Value, (∀ w, (zeroValue 28).run Try.prog w = .ok (.agg zs) w) ∧ zs.size = 35 ∧ zs = (packL false nought false nought 0).toArray := ⟨_, zero_pack, pack_size _ _ _ _ _, rfl⟩
  have HZS := Lib.hid hzs
  have HZC := Lib.hid hzc
  have HB0 := Lib.hid pack_built0
  have HO := Lib.hid (pack_one false nought false nought 0)
  rw [← hzc] at HB0 HO
  clear hzc hzs
  have HF := Lib.hid hf
  have HC := Lib.hid hc
  have hss : f 4 * 256 + f 5 ≤ 65535 := by have := hf 4; have := hf 5; omega
  have hk' : sz6 f ≤ n := hk
  clear hk
  unfold sz6 at hk'
  obtain ⟨s, hs⟩ : ∃ s, f 4 * 256 + f 5 = s := ⟨_, rfl⟩
  have HS4 := Lib.hid (show f 4 * 256 + f (4 + 1) = s from hs)
  have HSZ := Lib.hid (show sz6 f = s + 40 from by unfold sz6; omega)
  rw [hs] at hss hk'
  clear hf hc hs
  obtain ⟨ad, has⟩ : ∃ ad, (addrL true nought).toArray = ad := ⟨_, rfl⟩
  have HA := Lib.hid (show Try.prog.built 26 [(0, .bool true)] = some ad from has ▸ addr_built1 true)
  have HAS := Lib.hid has
  clear has
  go_enter Try.func18, Try.ntmps18
  go_upto_region 3 with fail
  refine cut_world (fun X => RdW w w.heap.size b off n f zs X) ⟨Whole.new _ _ _, fun i hi => ((below_alloc (Below.refl _ _) _).cell (p := ⟨b, off + i, none⟩) hb).trans (HC.out i hi), below_alloc (Below.refl _ _) _, hb⟩ ?_
  rintro W hr
  have HR := Lib.hid hr
  clear hr HC
  generalize hB : w.heap.size = B at HR hb ⊢
  go_wp2_with (refine wpList_built1 rfl 26 0 (.const (.bool true)) rfl (.bool true) rfl ad HA.out ?_)
  refine (number_any b off n c f HF.out 4 (by omega) (by omega) _ (fun i hi => HR.out.src i hi)).mono ?_
  rintro e w' ⟨rfl, rfl⟩
  rw [HS4.out]
  have HB3 := Lib.hid (pack_built3 true nought true nought (40 + (s : Int)))
  rw [HAS.out] at HB3
  have HO3 := Lib.hid (pack_one true nought true nought (40 + (s : Int)))
  have HZ3 := Lib.hid (pack_size true nought true nought (40 + (s : Int)))
  go_upto_region 4 with (first | (refine wpList_built3 rfl 28 0 1 2 (.tmp 9) (.tmp 10) (.tmp 13) rfl (.agg ad) (.agg ad) (.int .i64 (40 + (s : Int))) rfl rfl rfl (packL true nought true nought (40 + (s : Int))).toArray HB3.out ?_) | (refine wpList_store_row rfl 28 (.tmp 4) (.tmp 14) rfl W.heap.size (packL true nought true nought (40 + (s : Int))).toArray rfl rfl 28 _ (Whole.new _ _ zs) (by rw [HZ3.out]; kernel_rfl) (by rw [HZS.out, HZ3.out]) HO3.out ?_))
  refine cut_world (fun X => Whole X W.heap.size 28 (packL true nought true nought (40 + (s : Int))).toArray ∧ RdW w B b off n f zs X) ⟨setRow_heap _ _ _ _ _ _ (Whole.new _ _ _), ?_⟩ ?_
  · have q1 := HR.out.res
    have hbl : Below W.heap.size W ((W.alloc (.cells zs 28)).setRow W.heap.size (packL true nought true nought (40 + (s : Int))).toArray) := below_setRow (below_alloc (Below.refl _ _) _) (Nat.le_refl _) _
    exact ⟨q1.below hbl q1.lt, fun i hi => (hbl.cell (p := ⟨b, off + i, none⟩) (Nat.lt_trans HR.out.lt q1.lt)).trans (HR.out.src i hi), HR.out.bel.trans (hbl.mono (Nat.le_of_lt q1.lt)), HR.out.lt⟩
  have hBG := HR.out.res.lt
  clear HR HB3 HO3 HZ3 HA
  generalize hG : W.heap.size = G at hBG ⊢
  obtain ⟨sz, hsz⟩ : ∃ sz : Nat, 40 + (s : Int) = (sz : Int) := ⟨40 + s, by omega⟩
  rw [hsz]
  have hsz2 : sz = s + 40 := by omega
  have HSZ2 := Lib.hid hsz2
  clear hsz
  rintro W3 ⟨p1, hr⟩
  have P1 := Lib.hid p1
  have HR := Lib.hid hr
  have hc34 : W3.cell? ⟨G, 34, none⟩ = some (.int .i64 (sz : Int)) := by
    rw [p1.cell, List.getElem?_toArray, pack_at34]
  rw [← hsz2] at hk'
  clear p1 hr hG hsz2
  go_upto_region 6 with fail
  clear HB0 HO HZC hc34
  have hc24 : (24 : Int) ≤ (c : Int) := by omega
  have hc40 : (40 : Int) ≤ (c : Int) := by omega
  have hc8 : ¬ c = 8 := by omega
  have hcn24 : ¬ c = 24 := by omega
  have P1D := Lib.hid (show Whole W3.drew G 28 (packL true nought true nought (sz : Int)).toArray from P1.out.drew)
  have HS := Lib.hid (RdW.from_ (HR.out.drewN 1) 8 16 (by omega) (at6 f 8) (fun i hi => rfl))
  go_region_law (refine step_copy_grown rfl (.tmp 23) (.tmp 25) 22 22 rfl 5 rfl (by kernel_rfl) G 1 16 16 ⟨b, off + 8, none⟩ 16 (c - 8) rfl rfl (packL true nought true nought (sz : Int)) 28 P1D.out (byteCells (at6 f 8) 16) (by rw [byteCells_length]; rfl) HS.out (by rw [byteCells_length, packL_length]; omega) (bytes_each _ _) ?_; intro w8 hg8 hb8)
  have P2 := Lib.hid (show Whole w8 G 28 (packL true (at6 f 8) true nought (sz : Int)).toArray from by
    have h := hg8.out
    rw [pack_splice1 true nought true nought sz (at6 f 8) (at6 f 8) 16 (by omega) (fun i hi => by rw [if_pos hi])] at h
    exact h)
  have HR2 := Lib.hid ((HR.out.drewN 1).grown hb8 hBG)
  clear hg8 hb8 P1 P1D HS HR
  go_upto_region 7 with fail
  have P2D := Lib.hid (show Whole w8.drew G 28 (packL true (at6 f 8) true nought (sz : Int)).toArray from P2.out.drew)
  have HS := Lib.hid (RdW.from_ (HR2.out.drewN 1) 24 16 (by omega) (at6 f 24) (fun i hi => rfl))
  go_region_law (refine step_copy_grown rfl (.tmp 29) (.tmp 31) 22 22 rfl 5 rfl (by kernel_rfl) G 18 16 16 ⟨b, off + 24, none⟩ 16 (c - 24) rfl rfl (packL true (at6 f 8) true nought (sz : Int)) 28 P2D.out (byteCells (at6 f 24) 16) (by rw [byteCells_length]; rfl) HS.out (by rw [byteCells_length, packL_length]; omega) (bytes_each _ _) ?_; intro w9 hg9 hb9)
  have P3 := Lib.hid (show Whole w9 G 28 (packL true (at6 f 8) true (at6 f 24) (sz : Int)).toArray from by
    have h := hg9.out
    rw [pack_splice2 true (at6 f 8) true nought sz (at6 f 24) (at6 f 24) 16 (by omega) (fun i hi => by rw [if_pos hi])] at h
    exact h)
  have HR3 := Lib.hid ((HR2.out.drewN 1).grown hb9 hBG)
  clear hg9 hb9 P2 P2D HS HR2
  have HO3 := Lib.hid (pack_one true (at6 f 8) true (at6 f 24) (sz : Int))
  have HZ3 := Lib.hid (pack_size true (at6 f 8) true (at6 f 24) (sz : Int))
  go_wp2_with (first | (refine wpList_load_row rfl 28 (.tmp 4) rfl G rfl 28 (packL true (at6 f 8) true (at6 f 24) (sz : Int)).toArray (0, 0) _ P3.out rfl rfl (by rw [HZ3.out]; kernel_rfl) ?_) | (refine wpList_store_row rfl 28 (.tmp 2) (.tmp 33) rfl B (packL true (at6 f 8) true (at6 f 24) (sz : Int)).toArray rfl rfl 28 _ HR3.out.res (by rw [HZ3.out]; kernel_rfl) (by rw [HZ3.out, HZS.out]) HO3.out ?_))
  have hret : Whole (w9.setRow B (packL true (at6 f 8) true (at6 f 24) (sz : Int)).toArray) B 28 (packL true (at6 f 8) true (at6 f 24) (sz : Int)).toArray := setRow_heap w9 _ _ _ _ _ HR3.out.res
  refine bodyPost_ret (Poly.results_cell_tmp rfl _ _ B 28 _ _ rfl hret rfl rfl (by rw [packL_length]; kernel_rfl)) rfl ?_
  exact ⟨by rw [HSZ.out, ← HSZ2.out]; rfl, by rw [hB]; exact below_setRow HR3.out.bel (Nat.le_refl _) _⟩

end Inner
end Go.Proofs.Ytiemcfgjpcnloaa
