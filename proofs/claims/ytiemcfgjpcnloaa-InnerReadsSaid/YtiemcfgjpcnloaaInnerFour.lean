/- The call readFour of package inner. -/
import Derived.Test.YtiemcfgjpcnloaaInnerCells
import Derived.Test.YtiemcfgjpcnloaaKit
import Derived.IntWalk
namespace Go.Proofs.Ytiemcfgjpcnloaa
namespace Inner
open Go.ChangeShapes Go.WideShapes Go.ChangeAt Go.RowKit
open Num Mem Words Chacha Aead

theorem and15 (v : Nat) (hv : v < 256) : bits .and .u8 (v : Int) 15 = ((v % 16 : Nat) : Int) := by
  have h : ∀ v : Nat, v < 256 → bits .and .u8 (v : Int) 15 = ((v % 16 : Nat) : Int) := by decide +kernel
  exact h v hv

set_option maxRecDepth 100000 in
set_option maxHeartbeats 2000000 in
theorem four_short (A : Option Addr) (n c : Nat) (hn : n < 20) (w : World) :
    Calls Try.prog 17 #[.slice A n c] w fun e w' => e = .returned (.tuple #[.agg (packL false nought false nought 0).toArray, .int .i64 10]) ∧ Below w.heap.size w w' := by
  obtain ⟨zs, hz, hzs, hzc⟩ : ∃ zs : Array Value, (∀ w, (zeroValue 28).run Try.prog w = .ok (.agg zs) w) ∧ zs.size = 35 ∧ zs = (packL false nought false nought 0).toArray := ⟨_, zero_pack, pack_size _ _ _ _ _, rfl⟩
  have HZC := Lib.hid hzc
  have HZS := Lib.hid hzs
  have HB0 := Lib.hid pack_built0
  have HO := Lib.hid (pack_one false nought false nought 0)
  rw [← hzc] at HB0 HO
  clear hzc hzs
  go_enter Try.func17, Try.ntmps17
  go_wp2_with (first | (refine wpList_built0 rfl 28 rfl zs HB0.out ?_) | (refine wpList_store_row rfl 28 (.tmp 2) (.tmp 10) rfl w.heap.size zs rfl rfl 28 _ (Whole.new _ _ zs) (by rw [HZS.out]; kernel_rfl) rfl HO.out ?_))
  have hret : Whole ((w.alloc (.cells zs 28)).setRow w.heap.size zs) w.heap.size 28 (packL false nought false nought 0).toArray := by
    rw [← HZC.out]
    exact setRow_heap _ _ _ _ _ _ (Whole.new _ _ _)
  refine bodyPost_ret (Poly.results_cell_tmp rfl _ _ w.heap.size 28 _ _ rfl hret rfl rfl (by rw [packL_length]; kernel_rfl)) rfl ?_
  exact ⟨rfl, below_setRow (below_alloc (Below.refl _ _) _) (Nat.le_refl _) _⟩

/-- the world while a header is read: the result's cell, what the call was handed -/
structure RdW (w : World) (B b off n : Nat) (f : Nat → Nat) (zs : Array Value) (X : World) : Prop where
  res : Whole X B 28 zs
  src : ∀ i, i < n → X.cell? ⟨b, off + i, none⟩ = some (.int .u8 (f i : Nat))
  bel : Below B w X
  lt : b < B
theorem RdW.drewN {w X : World} {B b off n : Nat} {f : Nat → Nat} {zs : Array Value} (h : RdW w B b off n f zs X) (k : Nat) : RdW w B b off n f zs (X.drewN k) :=
  ⟨h.res, h.src, below_drewN h.bel k, h.lt⟩

theorem RdW.grown {w X Y : World} {B b off n G : Nat} {f : Nat → Nat} {zs : Array Value} (h : RdW w B b off n f zs X) (hg : X.grownBy Y (some G)) (hB : B < G) : RdW w B b off n f zs Y := by
  have h1 : Below B X Y := below_grown (Below.refl B X) hg (by omega) (Nat.le_of_lt h.res.lt)
  exact ⟨whole_grown h.res hg (by omega), fun i hi => (h1.cell (p := ⟨b, off + i, none⟩) h.lt).trans (h.src i hi), h.bel.trans h1, h.lt⟩
theorem RdW.grownSelf {w X Y : World} {B b off n : Nat} {f : Nat → Nat} {zs ys : Array Value} (h : RdW w B b off n f zs X) (hg : X.grownBy Y (some B)) (hY : Whole Y B 28 ys) : RdW w B b off n f ys Y := by
  have h1 : Below B X Y := below_grown (Below.refl B X) hg (Nat.le_refl _) (Nat.le_of_lt h.res.lt)
  exact ⟨hY, fun i hi => (h1.cell (p := ⟨b, off + i, none⟩) h.lt).trans (h.src i hi), h.bel.trans h1, h.lt⟩
theorem RdW.from_ {w X : World} {B b off n : Nat} {f : Nat → Nat} {zs : Array Value} (h : RdW w B b off n f zs X) (p m : Nat) (hm : p + m ≤ n) (F : Nat → Nat) (hF : ∀ i, i < m → F i = f (p + i)) :
    ∀ (j : Nat) (v : Value), (byteCells F m)[j]? = some v → X.cell? ((⟨b, off + p, none⟩ : Addr).add j) = some v :=
  rd_src fun i hi => by rw [Nat.add_assoc, hF i hi]; exact h.src (p + i) (by omega)

set_option maxRecDepth 100000 in
set_option maxHeartbeats 4000000 in
theorem four_ok (b off n c : Nat) (f : Nat → Nat) (hf : ∀ i, f i < 256) (hn : n ≤ 4000) (h20 : 20 ≤ n) (hcn : n ≤ c) (hcm : c ≤ 9223372036854775807) (hk : ok4 f n) (w : World) (hb : b < w.heap.size)
    (hc : ∀ i, i < n → w.cell? ⟨b, off + i, none⟩ = some (.int .u8 (f i : Nat))) :
    Calls Try.prog 17 #[.slice (some ⟨b, off, none⟩) n c] w fun e w' => e = .returned (.tuple #[.agg (packL false (at4 f 12) false (at4 f 16) (sz4 f : Nat)).toArray, .int .i64 0]) ∧ Below w.heap.size w w' := by
  obtain ⟨zs, hz, hzs, hzc⟩ : ∃ zs : Array Value, (∀ w, (zeroValue 28).run Try.prog w = .ok (.agg zs) w) ∧ zs.size = 35 ∧ zs = (packL false nought false nought 0).toArray := ⟨_, zero_pack, pack_size _ _ _ _ _, rfl⟩
  have HZS := Lib.hid hzs
  clear hzc hzs
  have HF := Lib.hid hf
  have HC := Lib.hid hc
  have hc0 := hc 0 (by omega)
  rw [Nat.add_zero] at hc0
  have hf0 := hf 0
  obtain ⟨m, hm⟩ : ∃ m, f 0 % 16 = m := ⟨_, rfl⟩
  have hm16 : m < 16 := by omega
  have HV4 := Lib.hid (show IntKind.i64.wrap ((4 : Int) * (m : Int)) = ((hd4 f : Nat) : Int) from by unfold hd4; rw [hm, IntWalk.i64_in _ (by omega)]; omega)
  have HM := Lib.hid (show IntKind.i64.wrap (m : Int) = (m : Int) from IntWalk.i64_in _ (by omega))
  have HS4 := Lib.hid (show f 2 * 256 + f (2 + 1) = sz4 f from rfl)
  have H15 := Lib.hid (and15 (f 0) (hf 0))
  rw [hm] at H15
  clear hm
  obtain ⟨k1, k2, k3, k4⟩ := hk
  have hh1 : hd4 f ≤ 60 := by unfold hd4; omega
  obtain ⟨hd, hhd⟩ : ∃ hd, hd4 f = hd := ⟨_, rfl⟩
  obtain ⟨sz, hsz⟩ : ∃ sz, sz4 f = sz := ⟨_, rfl⟩
  rw [hhd] at k1 k2 k4 HV4 hh1
  rw [hsz] at k2 k3 HS4
  have HK4 := Lib.hid k4
  have HSZ := Lib.hid hsz
  clear hf hc hhd hsz k4
  generalize hv : f 0 = v at hc0 hf0 HV4 H15
  have HV := Lib.hid hv
  clear hv
  go_enter Try.func17, Try.ntmps17
  go_upto_region 3 with fail
  refine cut_world (fun X => RdW w w.heap.size b off n f zs X) ⟨Whole.new _ _ _, fun i hi => ((below_alloc (Below.refl _ _) _).cell (p := ⟨b, off + i, none⟩) hb).trans (HC.out i hi), below_alloc (Below.refl _ _) _, hb⟩ ?_
  rintro W hr
  have HR := Lib.hid hr
  clear hr
  generalize hB : w.heap.size = B at HR hb ⊢
  have hcell : W.cell? ⟨b, off, none⟩ = some (.int .u8 (v : Nat)) := by
    have := HR.out.src 0 (by omega)
    rwa [Nat.add_zero, HV.out] at this
  clear hc0
  have hn0 : 0 < n := by omega
  have e15 := H15.out
  have eM := HM.out
  have eV := HV4.out
  go_quiet ((go_at_call 24; refine Calls.quiet_of_same (Calls.mono (number_any b off n c f HF.out 2 (by omega) (by omega) _ ?_) (fun e w' h => ⟨h.1, h.2.symm⟩)); exact fun i hi => HR.out.src i hi))
  rw [HS4.out]
  have HR2 := Lib.hid (HR.out.drewN nq)
  clear HR hcell e15 eM eV HV4 HM H15 HS4 HV hn0 hm16 hf0
  generalize W.drewN nq = W2 at HR2 ⊢
  go_wp2_with fail
  refine (sum_any (some ⟨b, off, none⟩) hd c f HF.out (by omega) _ (.inr ⟨b, off, rfl, Nat.lt_trans HR2.out.lt HR2.out.res.lt, fun i hi => HR2.out.src i (by omega)⟩)).mono ?_
  rintro e w' ⟨rfl, rfl⟩
  rw [HK4.out]
  have HB1 := Lib.hid (pack_built1 (sz : Int))
  have HO1 := Lib.hid (pack_one false nought false nought (sz : Int))
  have HZ1 := Lib.hid (pack_size false nought false nought (sz : Int))
  go_upto_region 7 with (first | (refine wpList_built1 rfl 28 2 (.tmp 40) rfl (.int .i64 (sz : Int)) rfl (packL false nought false nought (sz : Int)).toArray HB1.out ?_) | (refine wpList_store_row rfl 28 (.tmp 6) (.tmp 41) rfl W2.heap.size (packL false nought false nought (sz : Int)).toArray rfl rfl 28 _ (Whole.new _ _ zs) (by rw [HZ1.out]; kernel_rfl) (by rw [HZS.out, HZ1.out]) HO1.out ?_))
  refine cut_world (fun X => Whole X W2.heap.size 28 (packL false nought false nought (sz : Int)).toArray ∧ RdW w B b off n f zs X) ⟨setRow_heap _ _ _ _ _ _ (Whole.new _ _ _), ?_⟩ ?_
  · have q1 := HR2.out.res
    have hbl : Below W2.heap.size W2 ((W2.alloc (.cells zs 28)).setRow W2.heap.size (packL false nought false nought (sz : Int)).toArray) := below_setRow (below_alloc (Below.refl _ _) _) (Nat.le_refl _) _
    exact ⟨q1.below hbl q1.lt, fun i hi => (hbl.cell (p := ⟨b, off + i, none⟩) (Nat.lt_trans HR2.out.lt q1.lt)).trans (HR2.out.src i hi), HR2.out.bel.trans (hbl.mono (Nat.le_of_lt q1.lt)), HR2.out.lt⟩
  have hBG := HR2.out.res.lt
  clear HR2 HB1 HO1 HZ1
  generalize hG : W2.heap.size = G at hBG ⊢
  rintro W3 ⟨p1, hr⟩
  have P1 := Lib.hid p1
  have HR := Lib.hid hr
  clear p1 hr hG
  have hc16 : (16 : Int) ≤ (c : Int) := by omega
  have hc20 : (20 : Int) ≤ (c : Int) := by omega
  have hc12 : ¬ c = 12 := by omega
  have hcn16 : ¬ c = 16 := by omega
  have P1D := Lib.hid (show Whole W3.drew G 28 (packL false nought false nought (sz : Int)).toArray from P1.out.drew)
  have HS := Lib.hid (RdW.from_ (HR.out.drewN 1) 12 4 (by omega) (at4 f 12) (fun i hi => if_pos hi))
  go_region_law (refine step_copy_grown rfl (.tmp 44) (.tmp 46) 22 22 rfl 5 rfl (by kernel_rfl) G 1 16 16 ⟨b, off + 12, none⟩ 4 (c - 12) rfl rfl (packL false nought false nought (sz : Int)) 28 P1D.out (byteCells (at4 f 12) 4) (by rw [byteCells_length]; rfl) HS.out (by rw [byteCells_length, packL_length]; omega) (bytes_each _ _) ?_; intro w8 hg8 hb8)
  have P2 := Lib.hid (show Whole w8 G 28 (packL false (at4 f 12) false nought (sz : Int)).toArray from by
    have h := hg8.out
    rw [pack_splice1 false nought false nought sz (at4 f 12) (at4 f 12) 4 (by omega) (fun i hi => by
      by_cases l : i < 4
      · rw [if_pos l]
      · rw [if_neg l]; exact if_neg l)] at h
    exact h)
  have HR2 := Lib.hid ((HR.out.drewN 1).grown hb8 hBG)
  clear hg8 hb8 P1 P1D HS HR
  go_upto_region 8 with fail
  have P2D := Lib.hid (show Whole w8.drew G 28 (packL false (at4 f 12) false nought (sz : Int)).toArray from P2.out.drew)
  have HS := Lib.hid (RdW.from_ (HR2.out.drewN 1) 16 4 (by omega) (at4 f 16) (fun i hi => if_pos hi))
  go_region_law (refine step_copy_grown rfl (.tmp 50) (.tmp 52) 22 22 rfl 5 rfl (by kernel_rfl) G 18 16 16 ⟨b, off + 16, none⟩ 4 (c - 16) rfl rfl (packL false (at4 f 12) false nought (sz : Int)) 28 P2D.out (byteCells (at4 f 16) 4) (by rw [byteCells_length]; rfl) HS.out (by rw [byteCells_length, packL_length]; omega) (bytes_each _ _) ?_; intro w9 hg9 hb9)
  have P3 := Lib.hid (show Whole w9 G 28 (packL false (at4 f 12) false (at4 f 16) (sz : Int)).toArray from by
    have h := hg9.out
    rw [pack_splice2 false (at4 f 12) false nought sz (at4 f 16) (at4 f 16) 4 (by omega) (fun i hi => by
      by_cases l : i < 4
      · rw [if_pos l]
      · rw [if_neg l]; exact if_neg l)] at h
    exact h)
  have HR3 := Lib.hid ((HR2.out.drewN 1).grown hb9 hBG)
  clear hg9 hb9 P2 P2D HS HR2
  have HO3 := Lib.hid (pack_one false (at4 f 12) false (at4 f 16) (sz : Int))
  have HZ3 := Lib.hid (pack_size false (at4 f 12) false (at4 f 16) (sz : Int))
  go_wp2_with (first | (refine wpList_load_row rfl 28 (.tmp 6) rfl G rfl 28 (packL false (at4 f 12) false (at4 f 16) (sz : Int)).toArray (0, 0) _ P3.out rfl rfl (by rw [HZ3.out]; kernel_rfl) ?_) | (refine wpList_store_row rfl 28 (.tmp 2) (.tmp 54) rfl B (packL false (at4 f 12) false (at4 f 16) (sz : Int)).toArray rfl rfl 28 _ HR3.out.res (by rw [HZ3.out]; kernel_rfl) (by rw [HZ3.out, HZS.out]) HO3.out ?_))
  have hret : Whole (w9.setRow B (packL false (at4 f 12) false (at4 f 16) (sz : Int)).toArray) B 28 (packL false (at4 f 12) false (at4 f 16) (sz : Int)).toArray := setRow_heap w9 _ _ _ _ _ HR3.out.res
  refine bodyPost_ret (Poly.results_cell_tmp rfl _ _ B 28 _ _ rfl hret rfl rfl (by rw [packL_length]; kernel_rfl)) rfl ?_
  exact ⟨by rw [HSZ.out]; rfl, by rw [hB]; exact below_setRow HR3.out.bel (Nat.le_refl _) _⟩

theorem neq_wrap {a : Nat} (h : a ≠ 65535) : ((a : Int) != 65535) = true := by
  rw [bne_iff_ne]
  omega

set_option maxRecDepth 100000 in
set_option maxHeartbeats 4000000 in
theorem four_bad (b off n c : Nat) (f : Nat → Nat) (hf : ∀ i, f i < 256) (hn : n ≤ 4000) (h20 : 20 ≤ n) (hcn : n ≤ c) (_ : c ≤ 9223372036854775807) (hk : ¬ ok4 f n) (w : World) (hb : b < w.heap.size)
    (hc : ∀ i, i < n → w.cell? ⟨b, off + i, none⟩ = some (.int .u8 (f i : Nat))) :
    Calls Try.prog 17 #[.slice (some ⟨b, off, none⟩) n c] w fun e w' => e = .returned (.tuple #[.agg (packL false nought false nought 0).toArray, .int .i64 50]) ∧ Below w.heap.size w w' := by
  obtain ⟨zs, hz, hzs, hzc⟩ : ∃ zs : Array Value, (∀ w, (zeroValue 28).run Try.prog w = .ok (.agg zs) w) ∧ zs.size = 35 ∧ zs = (packL false nought false nought 0).toArray := ⟨_, zero_pack, pack_size _ _ _ _ _, rfl⟩
  have HZS := Lib.hid hzs
  have HZC := Lib.hid hzc
  have HB0 := Lib.hid pack_built0
  have HO := Lib.hid (pack_one false nought false nought 0)
  rw [← hzc] at HB0 HO
  clear hzc hzs
  have HF := Lib.hid hf
  have HC := Lib.hid hc
  have hc0 := hc 0 (by omega)
  rw [Nat.add_zero] at hc0
  have hf0 := hf 0
  obtain ⟨m, hm⟩ : ∃ m, f 0 % 16 = m := ⟨_, rfl⟩
  have hm16 : m < 16 := by omega
  have HV4 := Lib.hid (show IntKind.i64.wrap ((4 : Int) * (m : Int)) = ((hd4 f : Nat) : Int) from by unfold hd4; rw [hm, IntWalk.i64_in _ (by omega)]; omega)
  have HM := Lib.hid (show IntKind.i64.wrap (m : Int) = (m : Int) from IntWalk.i64_in _ (by omega))
  have HS4 := Lib.hid (show f 2 * 256 + f (2 + 1) = sz4 f from rfl)
  have H15 := Lib.hid (and15 (f 0) (hf 0))
  rw [hm] at H15
  clear hm
  have hh1 : hd4 f ≤ 60 := by unfold hd4; omega
  have hss : sz4 f ≤ 65535 := by have := HF.out 2; have := HF.out 3; unfold sz4; omega
  have hk' := hk
  unfold ok4 at hk'
  clear hk
  obtain ⟨hd, hhd⟩ : ∃ hd, hd4 f = hd := ⟨_, rfl⟩
  obtain ⟨sz, hsz⟩ : ∃ sz, sz4 f = sz := ⟨_, rfl⟩
  rw [hhd] at HV4 hh1 hk'
  rw [hsz] at HS4 hk' hss
  have HK := Lib.hid hk'
  clear hf hc hhd hsz hk'
  generalize hv : f 0 = v at hc0 hf0 HV4 H15
  have HV := Lib.hid hv
  clear hv
  go_enter Try.func17, Try.ntmps17
  go_upto_region 3 with fail
  refine cut_world (fun X => RdW w w.heap.size b off n f zs X) ⟨Whole.new _ _ _, fun i hi => ((below_alloc (Below.refl _ _) _).cell (p := ⟨b, off + i, none⟩) hb).trans (HC.out i hi), below_alloc (Below.refl _ _) _, hb⟩ ?_
  rintro W hr
  have HR := Lib.hid hr
  clear hr
  generalize hB : w.heap.size = B at HR hb ⊢
  have hcell : W.cell? ⟨b, off, none⟩ = some (.int .u8 (v : Nat)) := by
    have := HR.out.src 0 (by omega)
    rwa [Nat.add_zero, HV.out] at this
  clear hc0
  have hn0 : 0 < n := by omega
  have e15 := H15.out
  have eM := HM.out
  have eV := HV4.out
  go_quiet ((go_at_call 24; refine Calls.quiet_of_same (Calls.mono (number_any b off n c f HF.out 2 (by omega) (by omega) _ ?_) (fun e w' h => ⟨h.1, h.2.symm⟩)); exact fun i hi => HR.out.src i hi))
  rw [HS4.out]
  have HR2 := Lib.hid (HR.out.drewN nq)
  clear HR hcell e15 eM eV HV4 HM H15 HS4 HV hn0 hm16 hf0
  generalize W.drewN nq = W2 at HR2 ⊢
  by_cases k1 : hd < 20
  · clear HK
    go_wp2_with (first | (refine wpList_built0 rfl 28 rfl zs HB0.out ?_) | (refine wpList_store_row rfl 28 (.tmp 2) (.tmp 39) rfl B zs rfl rfl 28 _ HR2.out.res (by rw [HZS.out]; kernel_rfl) rfl HO.out ?_))
    have hret : Whole (W2.setRow B zs) B 28 (packL false nought false nought 0).toArray := by
      rw [← HZC.out]
      exact setRow_heap _ _ _ _ _ _ HR2.out.res
    refine bodyPost_ret (Poly.results_cell_tmp rfl _ _ B 28 _ _ rfl hret rfl rfl (by rw [packL_length]; kernel_rfl)) rfl ?_
    exact ⟨rfl, by first | exact below_setRow HR2.out.bel (Nat.le_refl _) _ | (rw [hB]; exact below_setRow HR2.out.bel (Nat.le_refl _) _)⟩
  have k1' : 20 ≤ hd := by omega
  clear k1
  by_cases k2 : sz < hd
  · clear HK
    go_wp2_with (first | (refine wpList_built0 rfl 28 rfl zs HB0.out ?_) | (refine wpList_store_row rfl 28 (.tmp 2) (.tmp 39) rfl B zs rfl rfl 28 _ HR2.out.res (by rw [HZS.out]; kernel_rfl) rfl HO.out ?_))
    have hret : Whole (W2.setRow B zs) B 28 (packL false nought false nought 0).toArray := by
      rw [← HZC.out]
      exact setRow_heap _ _ _ _ _ _ HR2.out.res
    refine bodyPost_ret (Poly.results_cell_tmp rfl _ _ B 28 _ _ rfl hret rfl rfl (by rw [packL_length]; kernel_rfl)) rfl ?_
    exact ⟨rfl, by first | exact below_setRow HR2.out.bel (Nat.le_refl _) _ | (rw [hB]; exact below_setRow HR2.out.bel (Nat.le_refl _) _)⟩
  have k2' : hd ≤ sz := by omega
  clear k2
  by_cases k3 : n < sz
  · clear HK
    go_wp2_with (first | (refine wpList_built0 rfl 28 rfl zs HB0.out ?_) | (refine wpList_store_row rfl 28 (.tmp 2) (.tmp 39) rfl B zs rfl rfl 28 _ HR2.out.res (by rw [HZS.out]; kernel_rfl) rfl HO.out ?_))
    have hret : Whole (W2.setRow B zs) B 28 (packL false nought false nought 0).toArray := by
      rw [← HZC.out]
      exact setRow_heap _ _ _ _ _ _ HR2.out.res
    refine bodyPost_ret (Poly.results_cell_tmp rfl _ _ B 28 _ _ rfl hret rfl rfl (by rw [packL_length]; kernel_rfl)) rfl ?_
    exact ⟨rfl, by first | exact below_setRow HR2.out.bel (Nat.le_refl _) _ | (rw [hB]; exact below_setRow HR2.out.bel (Nat.le_refl _) _)⟩
  have k3' : sz ≤ n := by omega
  clear k3
  have HNE := Lib.hid (neq_wrap (a := canon (sumS f hd)) (fun e => HK.out ⟨k1', k2', k3', e⟩))
  clear HK
  go_wp2_with fail
  refine (sum_any (some ⟨b, off, none⟩) hd c f HF.out (by omega) _ (.inr ⟨b, off, rfl, Nat.lt_trans HR2.out.lt HR2.out.res.lt, fun i hi => HR2.out.src i (by omega)⟩)).mono ?_
  rintro e w' ⟨rfl, rfl⟩
  have hcl := canon_le (sumS f hd)
  generalize canon (sumS f hd) = x at HNE hcl ⊢
  have hne := HNE.out
  go_wp2_with (first | (refine wpList_built0 rfl 28 rfl zs HB0.out ?_) | (refine wpList_store_row rfl 28 (.tmp 2) (.tmp 39) rfl B zs rfl rfl 28 _ HR2.out.res (by rw [HZS.out]; kernel_rfl) rfl HO.out ?_))
  have hret : Whole (W2.setRow B zs) B 28 (packL false nought false nought 0).toArray := by
    rw [← HZC.out]
    exact setRow_heap _ _ _ _ _ _ HR2.out.res
  refine bodyPost_ret (Poly.results_cell_tmp rfl _ _ B 28 _ _ rfl hret rfl rfl (by rw [packL_length]; kernel_rfl)) rfl ?_
  exact ⟨rfl, by first | exact below_setRow HR2.out.bel (Nat.le_refl _) _ | (rw [hB]; exact below_setRow HR2.out.bel (Nat.le_refl _) _)⟩

end Inner
end Go.Proofs.Ytiemcfgjpcnloaa
