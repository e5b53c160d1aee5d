/- The document's own answers of layer 12 (package aditref12): Read. -/
import Derived.Test.YtiemcfgjpcnloaaInnerRefB
import Derived.Test.YtiemcfgjpcnloaaInnerAlive
import Derived.IntWalk
namespace Go.Proofs.Ytiemcfgjpcnloaa
namespace Inner
open Go.ChangeShapes Go.WideShapes Go.ChangeAt Go.RowKit
open Num Mem Words Chacha Aead Poly Quiet

theorem zero_packR (w : World) : (zeroValue 32).run Try.prog w = .ok (.agg (packL false nought false nought 0).toArray) w := by kernel_rfl
theorem packR_built0 : Try.prog.built 32 [] = some (packL false nought false nought 0).toArray := by kernel_rfl
theorem packR_built3 (s1 : Bool) (f1 : Nat → Nat) (s2 : Bool) (f2 : Nat → Nat) (z : Int) : Try.prog.built 32 [(0, .agg (addrL s1 f1).toArray), (1, .agg (addrL s2 f2).toArray), (2, .int .i64 z)] = some (packL s1 f1 s2 f2 z).toArray := by kernel_rfl
/-- the world while a header is read -/
structure RfW (w : World) (B b off n : Nat) (f : Nat → Nat) (zs : Array Value) (X : World) : Prop where
  res : Whole X B 32 zs
  src : ∀ i, i < n → X.cell? ⟨b, off + i, none⟩ = some (.int .u8 (f i : Nat))
  bel : Below B w X
  lt : b < B
theorem RfW.drewN {w X : World} {B b off n : Nat} {f : Nat → Nat} {zs : Array Value} (h : RfW w B b off n f zs X) (k : Nat) : RfW w B b off n f zs (X.drewN k) :=
  ⟨h.res, h.src, below_drewN h.bel k, h.lt⟩
theorem RfW.below {w X Y : World} {B b off n : Nat} {f : Nat → Nat} {zs : Array Value} (h : RfW w B b off n f zs X) (hb : Below X.heap.size X Y) : RfW w B b off n f zs Y :=
  ⟨h.res.below hb h.res.lt, fun i hi => (hb.cell (p := ⟨b, off + i, none⟩) (Nat.lt_trans h.lt h.res.lt)).trans (h.src i hi), h.bel.trans (hb.mono (Nat.le_of_lt h.res.lt)), h.lt⟩
theorem at4_up (f : Nat → Nat) (p : Nat) : upK (fun i => f (p + i)) 4 = at4 f p := rfl
theorem at6_up (f : Nat → Nat) (p i : Nat) (h : i < 16) : upK (fun i => f (p + i)) 16 i = at6 f p i := by unfold upK at6; rw [if_pos h]
theorem rem16 (v : Nat) (_ : v < 256) : (v : Int) % 16 = ((v % 16 : Nat) : Int) := by omega


set_option maxRecDepth 100000 in
set_option maxHeartbeats 4000000 in
theorem rf_none (b off n c : Nat) (f : Nat → Nat) (hf : ∀ i, f i < 256) (hn : n ≤ 4000) (h0 : 0 < n) (hcn : n ≤ c) (hcm : c ≤ 9223372036854775807) (h4 : f 0 / 16 ≠ 4) (h6 : f 0 / 16 ≠ 6) (w : World) (hb : b < w.heap.size)
    (hc : ∀ i, i < n → w.cell? ⟨b, off + i, none⟩ = some (.int .u8 (f i : Nat))) :
    Calls Try.prog 10 #[.slice (some ⟨b, off, none⟩) n c] w fun e w' => e = .returned (.tuple #[.agg (packL false nought false nought 0).toArray, .int .i64 50]) ∧ Below w.heap.size w w' := by
  obtain ⟨zs, hz, hzs, hzc⟩ : ∃ zs : Array Value, (∀ w, (zeroValue 32).run Try.prog w = .ok (.agg zs) w) ∧ zs.size = 35 ∧ zs = (packL false nought false nought 0).toArray := ⟨_, zero_packR, pack_size _ _ _ _ _, rfl⟩
  have HZC := Lib.hid hzc
  have HZS := Lib.hid hzs
  have HB0 := Lib.hid packR_built0
  have HO := Lib.hid (pack_one false nought false nought 0)
  rw [← hzc] at HB0 HO
  clear hzc hzs
  have _u := And.intro hcn hcm
  clear _u
  have HF := Lib.hid hf
  have HC := Lib.hid hc
  have hf0 := hf 0

  obtain ⟨v, hv⟩ : ∃ v, f 0 = v := ⟨_, rfl⟩
  clear hf hc
  go_enter Try.func10, Try.ntmps10
  go_upto_region 3 with fail
  refine cut_world (fun X => RfW w w.heap.size b off n f zs X) ⟨Whole.new _ _ _, fun i hi => ((below_alloc (Below.refl _ _) _).cell (p := ⟨b, off + i, none⟩) hb).trans (HC.out i hi), below_alloc (Below.refl _ _) _, hb⟩ ?_
  rintro W hr
  have HR := Lib.hid hr
  have hcell : W.cell? ⟨b, off, none⟩ = some (.int .u8 (v : Nat)) := by
    have := hr.src 0 h0
    rwa [Nat.add_zero, hv] at this
  clear hr HC
  generalize hB : w.heap.size = B at HR hb ⊢
  rw [hv] at h4 h6 hf0
  obtain ⟨q, hq⟩ : ∃ q : Nat, (v : Int) / 16 = (q : Int) := ⟨v / 16, by omega⟩
  have hq4 : ((q : Int) != 4) = true := by rw [bne_iff_ne]; omega
  have hq6 : ((q : Int) != 6) = true := by rw [bne_iff_ne]; omega
  clear h4 h6 hv
  go_wp2_with (first | (refine wpList_built0 rfl 32 rfl zs HB0.out ?_) | (refine wpList_store_row rfl 32 (.tmp 2) (.tmp 22) rfl B zs rfl rfl 32 _ HR.out.res (by rw [HZS.out]; kernel_rfl) rfl HO.out ?_))
  have hret : Whole (W.setRow B zs) B 32 (packL false nought false nought 0).toArray := by
    rw [← HZC.out]
    exact setRow_heap _ _ _ _ _ _ HR.out.res
  refine bodyPost_ret (Poly.results_cell_tmp rfl _ _ B 32 _ _ rfl hret rfl rfl (by rw [packL_length]; kernel_rfl)) rfl ?_
  exact ⟨rfl, by first | exact below_setRow HR.out.bel (Nat.le_refl _) _ | (rw [hB]; exact below_setRow HR.out.bel (Nat.le_refl _) _)⟩

set_option maxRecDepth 100000 in
set_option maxHeartbeats 4000000 in
theorem rf_six_short (b off n c : Nat) (f : Nat → Nat) (hf : ∀ i, f i < 256) (hn : n ≤ 4000) (h0 : 0 < n) (hcn : n ≤ c) (hcm : c ≤ 9223372036854775807) (h6 : f 0 / 16 = 6) (h40 : n < 40) (w : World) (hb : b < w.heap.size)
    (hc : ∀ i, i < n → w.cell? ⟨b, off + i, none⟩ = some (.int .u8 (f i : Nat))) :
    Calls Try.prog 10 #[.slice (some ⟨b, off, none⟩) n c] w fun e w' => e = .returned (.tuple #[.agg (packL false nought false nought 0).toArray, .int .i64 10]) ∧ Below w.heap.size w w' := by
  obtain ⟨zs, hz, hzs, hzc⟩ : ∃ zs : Array Value, (∀ w, (zeroValue 32).run Try.prog w = .ok (.agg zs) w) ∧ zs.size = 35 ∧ zs = (packL false nought false nought 0).toArray := ⟨_, zero_packR, pack_size _ _ _ _ _, rfl⟩
  have HZC := Lib.hid hzc
  have HZS := Lib.hid hzs
  have HB0 := Lib.hid packR_built0
  have HO := Lib.hid (pack_one false nought false nought 0)
  rw [← hzc] at HB0 HO
  clear hzc hzs
  have _u := And.intro hcn hcm
  clear _u
  have HF := Lib.hid hf
  have HC := Lib.hid hc
  have hf0 := hf 0

  obtain ⟨v, hv⟩ : ∃ v, f 0 = v := ⟨_, rfl⟩
  clear hf hc
  go_enter Try.func10, Try.ntmps10
  go_upto_region 3 with fail
  refine cut_world (fun X => RfW w w.heap.size b off n f zs X) ⟨Whole.new _ _ _, fun i hi => ((below_alloc (Below.refl _ _) _).cell (p := ⟨b, off + i, none⟩) hb).trans (HC.out i hi), below_alloc (Below.refl _ _) _, hb⟩ ?_
  rintro W hr
  have HR := Lib.hid hr
  have hcell : W.cell? ⟨b, off, none⟩ = some (.int .u8 (v : Nat)) := by
    have := hr.src 0 h0
    rwa [Nat.add_zero, hv] at this
  clear hr HC
  generalize hB : w.heap.size = B at HR hb ⊢
  rw [hv] at h6 hf0
  have e6 : (v : Int) / 16 = 6 := by omega
  clear h6 hv
  go_wp2_with (first | (refine wpList_built0 rfl 32 rfl zs HB0.out ?_) | (refine wpList_store_row rfl 32 (.tmp 2) (.tmp 28) rfl B zs rfl rfl 32 _ HR.out.res (by rw [HZS.out]; kernel_rfl) rfl HO.out ?_))
  have hret : Whole (W.setRow B zs) B 32 (packL false nought false nought 0).toArray := by
    rw [← HZC.out]
    exact setRow_heap _ _ _ _ _ _ HR.out.res
  refine bodyPost_ret (Poly.results_cell_tmp rfl _ _ B 32 _ _ rfl hret rfl rfl (by rw [packL_length]; kernel_rfl)) rfl ?_
  exact ⟨rfl, by first | exact below_setRow HR.out.bel (Nat.le_refl _) _ | (rw [hB]; exact below_setRow HR.out.bel (Nat.le_refl _) _)⟩

set_option maxRecDepth 100000 in
set_option maxHeartbeats 4000000 in
theorem rf_six_bad (b off n c : Nat) (f : Nat → Nat) (hf : ∀ i, f i < 256) (hn : n ≤ 4000) (h0 : 0 < n) (hcn : n ≤ c) (hcm : c ≤ 9223372036854775807) (h6 : f 0 / 16 = 6) (h40 : 40 ≤ n) (hk : ¬ sz6 f ≤ n) (w : World) (hb : b < w.heap.size)
    (hc : ∀ i, i < n → w.cell? ⟨b, off + i, none⟩ = some (.int .u8 (f i : Nat))) :
    Calls Try.prog 10 #[.slice (some ⟨b, off, none⟩) n c] w fun e w' => e = .returned (.tuple #[.agg (packL false nought false nought 0).toArray, .int .i64 50]) ∧ Below w.heap.size w w' := by
  obtain ⟨zs, hz, hzs, hzc⟩ : ∃ zs : Array Value, (∀ w, (zeroValue 32).run Try.prog w = .ok (.agg zs) w) ∧ zs.size = 35 ∧ zs = (packL false nought false nought 0).toArray := ⟨_, zero_packR, pack_size _ _ _ _ _, rfl⟩
  have HZC := Lib.hid hzc
  have HZS := Lib.hid hzs
  have HB0 := Lib.hid packR_built0
  have HO := Lib.hid (pack_one false nought false nought 0)
  rw [← hzc] at HB0 HO
  clear hzc hzs
  have _u := And.intro hcn hcm
  clear _u
  have HF := Lib.hid hf
  have HC := Lib.hid hc
  have hf0 := hf 0
  obtain ⟨x, hx⟩ : ∃ x, f 4 = x := ⟨_, rfl⟩
  obtain ⟨y, hy⟩ : ∃ y, f 5 = y := ⟨_, rfl⟩
  have hx2 : x < 256 := by rw [← hx]; exact hf 4
  have hy2 : y < 256 := by rw [← hy]; exact hf 5
  obtain ⟨z, hzz⟩ : ∃ z, sz6 f = z := ⟨_, rfl⟩
  have hz3 : z = x * 256 + y + 40 := by rw [← hzz, ← hx, ← hy]; rfl
  have hz4 : z < 70000 := by omega
  have HX := Lib.hid hx
  have HY := Lib.hid hy
  have HZZ := Lib.hid hzz
  have W1 := Lib.hid (show IntKind.i64.wrap (x : Int) = (x : Int) from IntWalk.i64_in _ (by omega))
  have W2 := Lib.hid (show IntKind.i64.wrap (y : Int) = (y : Int) from IntWalk.i64_in _ (by omega))
  obtain ⟨u, hu⟩ : ∃ u : Nat, u = 256 * x := ⟨_, rfl⟩
  have W3 := Lib.hid (show IntKind.i64.wrap (256 * (x : Int)) = (u : Int) from by rw [IntWalk.i64_in _ (by omega)]; omega)
  obtain ⟨t, ht⟩ : ∃ t : Nat, t = u + y := ⟨_, rfl⟩
  have W4 := Lib.hid (show IntKind.i64.wrap ((u : Int) + (y : Int)) = (t : Int) from by rw [IntWalk.i64_in _ (by omega)]; omega)
  have W5 := Lib.hid (show IntKind.i64.wrap ((t : Int) + 40) = (z : Int) from by rw [IntWalk.i64_in _ (by omega)]; omega)
  clear hz3 hu ht
  rw [HZZ.out] at hk
  have hk2 : n < z := by omega
  clear hk hx hy hzz
  obtain ⟨v, hv⟩ : ∃ v, f 0 = v := ⟨_, rfl⟩
  clear hf hc
  go_enter Try.func10, Try.ntmps10
  go_upto_region 3 with fail
  refine cut_world (fun X => RfW w w.heap.size b off n f zs X) ⟨Whole.new _ _ _, fun i hi => ((below_alloc (Below.refl _ _) _).cell (p := ⟨b, off + i, none⟩) hb).trans (HC.out i hi), below_alloc (Below.refl _ _) _, hb⟩ ?_
  rintro W hr
  have HR := Lib.hid hr
  have hcell : W.cell? ⟨b, off, none⟩ = some (.int .u8 (v : Nat)) := by
    have := hr.src 0 h0
    rwa [Nat.add_zero, hv] at this
  clear hr HC
  generalize hB : w.heap.size = B at HR hb ⊢
  rw [hv] at h6 hf0
  have e6 : (v : Int) / 16 = 6 := by omega
  clear h6 hv
  go_upto_region 9 with fail
  have cx : W.cell? ⟨b, off + 4, none⟩ = some (.int .u8 (x : Nat)) := by rw [HR.out.src 4 (by omega), HX.out]
  have cy : W.cell? ⟨b, off + 5, none⟩ = some (.int .u8 (y : Nat)) := by rw [HR.out.src 5 (by omega), HY.out]
  have ln1 : ((4 : Nat) : Int) < (n : Int) := by omega
  have ln2 : ((5 : Nat) : Int) < (n : Int) := by omega
  have ln3 : 4 < n := by omega
  have ln4 : 5 < n := by omega
  have eW1 := W1.out
  have eW2 := W2.out
  have eW3 := W3.out
  have eW4 := W4.out
  have eW5 := W5.out
  go_quiet (fail)
  have HR2 := Lib.hid (HR.out.drewN nq)
  clear HR hcell cx cy ln1 ln2 eW1 eW2 eW3 eW4 eW5 W1 W2 W3 W4 W5
  generalize W.drewN nq = W2 at HR2 ⊢
  go_wp2_with (first | (refine wpList_built0 rfl 32 rfl zs HB0.out ?_) | (refine wpList_store_row rfl 32 (.tmp 2) (.tmp 44) rfl B zs rfl rfl 32 _ HR2.out.res (by rw [HZS.out]; kernel_rfl) rfl HO.out ?_))
  have hret : Whole (W2.setRow B zs) B 32 (packL false nought false nought 0).toArray := by
    rw [← HZC.out]
    exact setRow_heap _ _ _ _ _ _ HR2.out.res
  refine bodyPost_ret (Poly.results_cell_tmp rfl _ _ B 32 _ _ rfl hret rfl rfl (by rw [packL_length]; kernel_rfl)) rfl ?_
  exact ⟨rfl, by first | exact below_setRow HR2.out.bel (Nat.le_refl _) _ | (rw [hB]; exact below_setRow HR2.out.bel (Nat.le_refl _) _)⟩

set_option maxRecDepth 100000 in
set_option maxHeartbeats 4000000 in
theorem rf_six_ok (b off n c : Nat) (f : Nat → Nat) (hf : ∀ i, f i < 256) (hn : n ≤ 4000) (h0 : 0 < n) (hcn : n ≤ c) (hcm : c ≤ 9223372036854775807) (h6 : f 0 / 16 = 6) (h40 : 40 ≤ n) (hk : sz6 f ≤ n) (w : World) (hb : b < w.heap.size)
    (hc : ∀ i, i < n → w.cell? ⟨b, off + i, none⟩ = some (.int .u8 (f i : Nat))) :
    Calls Try.prog 10 #[.slice (some ⟨b, off, none⟩) n c] w fun e w' => e = .returned (.tuple #[.agg (packL true (at6 f 8) true (at6 f 24) (sz6 f : Nat)).toArray, .int .i64 0]) ∧ Below w.heap.size w w' := by
  obtain ⟨zs, hz, hzs, hzc⟩ : ∃ zs : Array Value, (∀ w, (zeroValue 32).run Try.prog w = .ok (.agg zs) w) ∧ zs.size = 35 ∧ zs = (packL false nought false nought 0).toArray := ⟨_, zero_packR, pack_size _ _ _ _ _, rfl⟩
  have HZC := Lib.hid hzc
  have HZS := Lib.hid hzs
  have HB0 := Lib.hid packR_built0
  have HO := Lib.hid (pack_one false nought false nought 0)
  rw [← hzc] at HB0 HO
  clear hzc hzs
  have _u := And.intro hcn hcm
  clear _u
  have HF := Lib.hid hf
  have HC := Lib.hid hc
  have hf0 := hf 0
  obtain ⟨x, hx⟩ : ∃ x, f 4 = x := ⟨_, rfl⟩
  obtain ⟨y, hy⟩ : ∃ y, f 5 = y := ⟨_, rfl⟩
  have hx2 : x < 256 := by rw [← hx]; exact hf 4
  have hy2 : y < 256 := by rw [← hy]; exact hf 5
  obtain ⟨z, hzz⟩ : ∃ z, sz6 f = z := ⟨_, rfl⟩
  have hz3 : z = x * 256 + y + 40 := by rw [← hzz, ← hx, ← hy]; rfl
  have hz4 : z < 70000 := by omega
  have HX := Lib.hid hx
  have HY := Lib.hid hy
  have HZZ := Lib.hid hzz
  have W1 := Lib.hid (show IntKind.i64.wrap (x : Int) = (x : Int) from IntWalk.i64_in _ (by omega))
  have W2 := Lib.hid (show IntKind.i64.wrap (y : Int) = (y : Int) from IntWalk.i64_in _ (by omega))
  obtain ⟨u, hu⟩ : ∃ u : Nat, u = 256 * x := ⟨_, rfl⟩
  have W3 := Lib.hid (show IntKind.i64.wrap (256 * (x : Int)) = (u : Int) from by rw [IntWalk.i64_in _ (by omega)]; omega)
  obtain ⟨t, ht⟩ : ∃ t : Nat, t = u + y := ⟨_, rfl⟩
  have W4 := Lib.hid (show IntKind.i64.wrap ((u : Int) + (y : Int)) = (t : Int) from by rw [IntWalk.i64_in _ (by omega)]; omega)
  have W5 := Lib.hid (show IntKind.i64.wrap ((t : Int) + 40) = (z : Int) from by rw [IntWalk.i64_in _ (by omega)]; omega)
  clear hz3 hu ht
  rw [HZZ.out] at hk
  clear hx hy hzz
  obtain ⟨v, hv⟩ : ∃ v, f 0 = v := ⟨_, rfl⟩
  clear hf hc
  go_enter Try.func10, Try.ntmps10
  go_upto_region 3 with fail
  refine cut_world (fun X => RfW w w.heap.size b off n f zs X) ⟨Whole.new _ _ _, fun i hi => ((below_alloc (Below.refl _ _) _).cell (p := ⟨b, off + i, none⟩) hb).trans (HC.out i hi), below_alloc (Below.refl _ _) _, hb⟩ ?_
  rintro W hr
  have HR := Lib.hid hr
  have hcell : W.cell? ⟨b, off, none⟩ = some (.int .u8 (v : Nat)) := by
    have := hr.src 0 h0
    rwa [Nat.add_zero, hv] at this
  clear hr HC
  generalize hB : w.heap.size = B at HR hb ⊢
  rw [hv] at h6 hf0
  have e6 : (v : Int) / 16 = 6 := by omega
  clear h6 hv
  go_upto_region 9 with fail
  have cx : W.cell? ⟨b, off + 4, none⟩ = some (.int .u8 (x : Nat)) := by rw [HR.out.src 4 (by omega), HX.out]
  have cy : W.cell? ⟨b, off + 5, none⟩ = some (.int .u8 (y : Nat)) := by rw [HR.out.src 5 (by omega), HY.out]
  have ln1 : ((4 : Nat) : Int) < (n : Int) := by omega
  have ln2 : ((5 : Nat) : Int) < (n : Int) := by omega
  have ln3 : 4 < n := by omega
  have ln4 : 5 < n := by omega
  have eW1 := W1.out
  have eW2 := W2.out
  have eW3 := W3.out
  have eW4 := W4.out
  have eW5 := W5.out
  go_quiet (fail)
  have HR2 := Lib.hid (HR.out.drewN nq)
  clear HR hcell cx cy ln1 ln2 eW1 eW2 eW3 eW4 eW5 W1 W2 W3 W4 W5
  generalize W.drewN nq = W2 at HR2 ⊢
  go_upto_region 12 with fail
  have hcA : (24 : Int) ≤ (c : Int) := by omega
  have hcB : (40 : Int) ≤ (c : Int) := by omega
  have hcC : ¬ c = 8 := by omega
  have hcD : ¬ c = 24 := by omega
  have HR3 := Lib.hid (HR2.out.drewN 1)
  refine region_drew (fun _ => True) (by kernel_rfl) trivial ?_
  intro _
  refine take 0 _ rfl (by kernel_rfl) (by kernel_rfl) (by kernel_rfl) (fun _ _ _ h => h) (by rfl) trivial (by intro w _; go_simp; try with_reducible rfl) ?_
  try simp only [Act.put, List.setIfInBounds_toArray, List.set_cons_zero, List.set_cons_succ]
  refine take 1 _ rfl (by kernel_rfl) (by kernel_rfl) (by kernel_rfl) (fun _ _ _ h => h) (by rfl) trivial (by intro w _; go_simp; try with_reducible rfl) ?_
  try simp only [Act.put, List.setIfInBounds_toArray, List.set_cons_zero, List.set_cons_succ]
  refine take 3 _ rfl (by kernel_rfl) (by kernel_rfl) (by kernel_rfl) (fun _ _ _ h => h) (by rfl) trivial (by intro w _; go_simp; try with_reducible rfl) ?_
  try simp only [Act.put, List.setIfInBounds_toArray, List.set_cons_zero, List.set_cons_succ]
  refine take 4 _ rfl (by kernel_rfl) (by kernel_rfl) (by kernel_rfl) (fun _ _ _ h => h) (by rfl) trivial (by intro w _; go_simp; try with_reducible rfl) ?_
  try simp only [Act.put, List.setIfInBounds_toArray, List.set_cons_zero, List.set_cons_succ]
  refine take 6 _ rfl (by kernel_rfl) (by kernel_rfl) (by kernel_rfl) (fun _ _ _ h => h) (by rfl) trivial (by intro w _; go_simp; try with_reducible rfl) ?_
  try simp only [Act.put, List.setIfInBounds_toArray, List.set_cons_zero, List.set_cons_succ]
  refine alone 2 rfl (by kernel_rfl) (by rfl) ?_
  intro K hK
  go_simp
  refine (addr_any true 16 rfl b (off + 8) (c - 8) (fun i => f (8 + i)) _ (Nat.lt_trans HR3.out.lt HR3.out.res.lt) (fun i hi => by rw [Nat.add_assoc]; exact HR3.out.src (8 + i) (by omega))).mono ?_
  rintro e w5 ⟨rfl, hb5⟩
  have HR4 := Lib.hid (HR3.out.below hb5)
  clear hb5
  go_simp
  refine hK.out _ _ trivial ?_
  clear hK K
  try simp only [Act.put, List.setIfInBounds_toArray, List.set_cons_zero, List.set_cons_succ]
  refine alone 5 rfl (by kernel_rfl) (by rfl) ?_
  intro K hK
  go_simp
  refine (addr_any true 16 rfl b (off + 24) (c - 24) (fun i => f (24 + i)) _ (Nat.lt_trans HR4.out.lt HR4.out.res.lt) (fun i hi => by rw [Nat.add_assoc]; exact HR4.out.src (24 + i) (by omega))).mono ?_
  rintro e w6 ⟨rfl, hb5⟩
  have HR5 := Lib.hid (HR4.out.below hb5)
  clear hb5
  go_simp
  refine hK.out _ _ trivial ?_
  clear hK K
  try simp only [Act.put, List.setIfInBounds_toArray, List.set_cons_zero, List.set_cons_succ]
  have HBB := Lib.hid (packR_built3 true (upK (fun i => f (8 + i)) 16) true (upK (fun i => f (24 + i)) 16) (z : Int))
  have HOO := Lib.hid (pack_one true (upK (fun i => f (8 + i)) 16) true (upK (fun i => f (24 + i)) 16) (z : Int))
  have HSS := Lib.hid (packL_length true (upK (fun i => f (8 + i)) 16) true (upK (fun i => f (24 + i)) 16) (z : Int))
  have HPP := Lib.hid (show packL true (at6 f 8) true (at6 f 24) (z : Int) = packL true (upK (fun i => f (8 + i)) 16) true (upK (fun i => f (24 + i)) 16) (z : Int) from by unfold packL; rw [addr_congr (at6_up f 8), addr_congr (at6_up f 24)])
  obtain ⟨P, hP⟩ : ∃ P, packL true (upK (fun i => f (8 + i)) 16) true (upK (fun i => f (24 + i)) 16) (z : Int) = P := ⟨_, rfl⟩
  rw [hP] at HBB HOO HSS HPP
  have HPS := Lib.hid (show P.toArray.size = 35 from by rw [List.size_toArray, HSS.out])
  clear hP
  refine take 7 (.agg P.toArray) rfl (by kernel_rfl) (by kernel_rfl) (by kernel_rfl) (fun _ _ _ h => h) (by rfl) trivial (fun w _ => run_built3 32 0 1 2 (.tmp 47) (.tmp 50) (.tmp 51) rfl _ _ (.int .i64 (z : Int)) rfl rfl rfl P.toArray HBB.out) ?_
  try simp only [Act.put, List.setIfInBounds_toArray, List.set_cons_zero, List.set_cons_succ]
  refine alone 8 rfl (by kernel_rfl) (by rfl) ?_
  intro K hK
  refine wp_store_row 32 (.tmp 2) (.tmp 52) rfl B P.toArray (by rfl) (by rfl) 32 _ HR5.out.res (by rw [HPS.out]; kernel_rfl) (by rw [HPS.out, HZS.out]) HOO.out ?_
  refine hK.out _ _ trivial ?_
  clear hK K
  try simp only [Act.put]
  refine alone_run 9 _ rfl (by kernel_rfl) (by rfl) trivial (by go_simp; try with_reducible rfl) ?_
  try simp only [Act.put, List.setIfInBounds_toArray, List.set_cons_zero, List.set_cons_succ]
  refine region_end (by kernel_rfl) ?_
  go_wp2_with fail
  have hret : Whole (w6.setRow B P.toArray) B 32 P.toArray := setRow_heap _ _ _ _ _ _ HR5.out.res
  refine bodyPost_ret (Poly.results_cell_tmp rfl _ _ B 32 _ _ rfl hret rfl rfl (by rw [HSS.out]; kernel_rfl)) rfl ?_
  exact ⟨by rw [HZZ.out, HPP.out]; rfl, by rw [hB]; exact below_setRow HR5.out.bel (Nat.le_refl _) _⟩

set_option maxRecDepth 100000 in
set_option maxHeartbeats 4000000 in
theorem rf_four_short (b off n c : Nat) (f : Nat → Nat) (hf : ∀ i, f i < 256) (hn : n ≤ 4000) (h0 : 0 < n) (hcn : n ≤ c) (hcm : c ≤ 9223372036854775807) (h4 : f 0 / 16 = 4) (h20 : n < 20) (w : World) (hb : b < w.heap.size)
    (hc : ∀ i, i < n → w.cell? ⟨b, off + i, none⟩ = some (.int .u8 (f i : Nat))) :
    Calls Try.prog 10 #[.slice (some ⟨b, off, none⟩) n c] w fun e w' => e = .returned (.tuple #[.agg (packL false nought false nought 0).toArray, .int .i64 10]) ∧ Below w.heap.size w w' := by
  obtain ⟨zs, hz, hzs, hzc⟩ : ∃ zs : Array Value, (∀ w, (zeroValue 32).run Try.prog w = .ok (.agg zs) w) ∧ zs.size = 35 ∧ zs = (packL false nought false nought 0).toArray := ⟨_, zero_packR, pack_size _ _ _ _ _, rfl⟩
  have HZC := Lib.hid hzc
  have HZS := Lib.hid hzs
  have HB0 := Lib.hid packR_built0
  have HO := Lib.hid (pack_one false nought false nought 0)
  rw [← hzc] at HB0 HO
  clear hzc hzs
  have _u := And.intro hcn hcm
  clear _u
  have HF := Lib.hid hf
  have HC := Lib.hid hc
  have hf0 := hf 0

  obtain ⟨v, hv⟩ : ∃ v, f 0 = v := ⟨_, rfl⟩
  clear hf hc
  go_enter Try.func10, Try.ntmps10
  go_upto_region 3 with fail
  refine cut_world (fun X => RfW w w.heap.size b off n f zs X) ⟨Whole.new _ _ _, fun i hi => ((below_alloc (Below.refl _ _) _).cell (p := ⟨b, off + i, none⟩) hb).trans (HC.out i hi), below_alloc (Below.refl _ _) _, hb⟩ ?_
  rintro W hr
  have HR := Lib.hid hr
  have hcell : W.cell? ⟨b, off, none⟩ = some (.int .u8 (v : Nat)) := by
    have := hr.src 0 h0
    rwa [Nat.add_zero, hv] at this
  clear hr HC
  generalize hB : w.heap.size = B at HR hb ⊢
  rw [hv] at h4 hf0
  have e4 : (v : Int) / 16 = 4 := by omega
  clear h4 hv
  go_wp2_with (first | (refine wpList_built0 rfl 32 rfl zs HB0.out ?_) | (refine wpList_store_row rfl 32 (.tmp 2) (.tmp 56) rfl B zs rfl rfl 32 _ HR.out.res (by rw [HZS.out]; kernel_rfl) rfl HO.out ?_))
  have hret : Whole (W.setRow B zs) B 32 (packL false nought false nought 0).toArray := by
    rw [← HZC.out]
    exact setRow_heap _ _ _ _ _ _ HR.out.res
  refine bodyPost_ret (Poly.results_cell_tmp rfl _ _ B 32 _ _ rfl hret rfl rfl (by rw [packL_length]; kernel_rfl)) rfl ?_
  exact ⟨rfl, by first | exact below_setRow HR.out.bel (Nat.le_refl _) _ | (rw [hB]; exact below_setRow HR.out.bel (Nat.le_refl _) _)⟩

set_option maxRecDepth 100000 in
set_option maxHeartbeats 4000000 in
theorem rf_four_bad (b off n c : Nat) (f : Nat → Nat) (hf : ∀ i, f i < 256) (hn : n ≤ 4000) (h0 : 0 < n) (hcn : n ≤ c) (hcm : c ≤ 9223372036854775807) (h4 : f 0 / 16 = 4) (h20 : 20 ≤ n) (hk : ¬ ok4 f n) (w : World) (hb : b < w.heap.size)
    (hc : ∀ i, i < n → w.cell? ⟨b, off + i, none⟩ = some (.int .u8 (f i : Nat))) :
    Calls Try.prog 10 #[.slice (some ⟨b, off, none⟩) n c] w fun e w' => e = .returned (.tuple #[.agg (packL false nought false nought 0).toArray, .int .i64 50]) ∧ Below w.heap.size w w' := by
  obtain ⟨zs, hz, hzs, hzc⟩ : ∃ zs : Array Value, (∀ w, (zeroValue 32).run Try.prog w = .ok (.agg zs) w) ∧ zs.size = 35 ∧ zs = (packL false nought false nought 0).toArray := ⟨_, zero_packR, pack_size _ _ _ _ _, rfl⟩
  have HZC := Lib.hid hzc
  have HZS := Lib.hid hzs
  have HB0 := Lib.hid packR_built0
  have HO := Lib.hid (pack_one false nought false nought 0)
  rw [← hzc] at HB0 HO
  clear hzc hzs
  have _u := And.intro hcn hcm
  clear _u
  have HF := Lib.hid hf
  have HC := Lib.hid hc
  have hf0 := hf 0
  obtain ⟨x, hx⟩ : ∃ x, f 2 = x := ⟨_, rfl⟩
  obtain ⟨y, hy⟩ : ∃ y, f 3 = y := ⟨_, rfl⟩
  have hx2 : x < 256 := by rw [← hx]; exact hf 2
  have hy2 : y < 256 := by rw [← hy]; exact hf 3
  obtain ⟨z, hzz⟩ : ∃ z, sz4 f = z := ⟨_, rfl⟩
  have hz3 : z = x * 256 + y := by rw [← hzz, ← hx, ← hy]; rfl
  have hz4 : z < 70000 := by omega
  have HX := Lib.hid hx
  have HY := Lib.hid hy
  have HZZ := Lib.hid hzz
  have W1 := Lib.hid (show IntKind.i64.wrap (x : Int) = (x : Int) from IntWalk.i64_in _ (by omega))
  have W2 := Lib.hid (show IntKind.i64.wrap (y : Int) = (y : Int) from IntWalk.i64_in _ (by omega))
  obtain ⟨u, hu⟩ : ∃ u : Nat, u = 256 * x := ⟨_, rfl⟩
  have W3 := Lib.hid (show IntKind.i64.wrap (256 * (x : Int)) = (u : Int) from by rw [IntWalk.i64_in _ (by omega)]; omega)
  have W4 := Lib.hid (show IntKind.i64.wrap ((u : Int) + (y : Int)) = (z : Int) from by rw [IntWalk.i64_in _ (by omega)]; omega)
  obtain ⟨hd, hhd⟩ : ∃ hd, hd4 f = hd := ⟨_, rfl⟩
  have HH := Lib.hid (show (4 : Int) * ((f 0 : Nat) % 16 : Int) = (hd : Int) from by rw [← hhd]; unfold hd4; omega)
  have hh1 : hd ≤ 60 := by rw [← hhd]; unfold hd4; omega
  have HHD := Lib.hid hhd
  clear hz3 hu
  have hk' := hk
  unfold ok4 at hk'
  rw [hhd, hzz] at hk'
  have HK := Lib.hid hk'
  clear hk hk' hx hy hzz hhd
  obtain ⟨v, hv⟩ : ∃ v, f 0 = v := ⟨_, rfl⟩
  clear hf hc
  go_enter Try.func10, Try.ntmps10
  go_upto_region 3 with fail
  refine cut_world (fun X => RfW w w.heap.size b off n f zs X) ⟨Whole.new _ _ _, fun i hi => ((below_alloc (Below.refl _ _) _).cell (p := ⟨b, off + i, none⟩) hb).trans (HC.out i hi), below_alloc (Below.refl _ _) _, hb⟩ ?_
  rintro W hr
  have HR := Lib.hid hr
  have hcell : W.cell? ⟨b, off, none⟩ = some (.int .u8 (v : Nat)) := by
    have := hr.src 0 h0
    rwa [Nat.add_zero, hv] at this
  clear hr HC
  generalize hB : w.heap.size = B at HR hb ⊢
  rw [hv] at h4 hf0 HH
  have e4 : (v : Int) / 16 = 4 := by omega
  clear h4 hv
  go_upto_region 16 with fail
  rw [HH.out]
  clear HH
  go_upto_region 16 with fail
  have cx : W.cell? ⟨b, off + 2, none⟩ = some (.int .u8 (x : Nat)) := by rw [HR.out.src 2 (by omega), HX.out]
  have cy : W.cell? ⟨b, off + 3, none⟩ = some (.int .u8 (y : Nat)) := by rw [HR.out.src 3 (by omega), HY.out]
  have ln1 : ((2 : Nat) : Int) < (n : Int) := by omega
  have ln2 : ((3 : Nat) : Int) < (n : Int) := by omega
  have ln3 : 2 < n := by omega
  have ln4 : 3 < n := by omega
  have eW1 := W1.out
  have eW2 := W2.out
  have eW3 := W3.out
  have eW4 := W4.out
  go_quiet (fail)
  have HR2 := Lib.hid (HR.out.drewN nq)
  clear HR hcell cx cy ln1 ln2 eW1 eW2 eW3 eW4 W1 W2 W3 W4
  generalize W.drewN nq = W2 at HR2 ⊢
  by_cases k1 : hd < 20
  · clear HK
    go_wp2_with (first | (refine wpList_built0 rfl 32 rfl zs HB0.out ?_) | (refine wpList_store_row rfl 32 (.tmp 2) (.tmp 93) rfl B zs rfl rfl 32 _ HR2.out.res (by rw [HZS.out]; kernel_rfl) rfl HO.out ?_))
    have hret : Whole (W2.setRow B zs) B 32 (packL false nought false nought 0).toArray := by
      rw [← HZC.out]
      exact setRow_heap _ _ _ _ _ _ HR2.out.res
    refine bodyPost_ret (Poly.results_cell_tmp rfl _ _ B 32 _ _ rfl hret rfl rfl (by rw [packL_length]; kernel_rfl)) rfl ?_
    exact ⟨rfl, by first | exact below_setRow HR2.out.bel (Nat.le_refl _) _ | (rw [hB]; exact below_setRow HR2.out.bel (Nat.le_refl _) _)⟩
  have k1' : 20 ≤ hd := by omega
  clear k1
  by_cases k2 : z < hd
  · clear HK
    go_wp2_with (first | (refine wpList_built0 rfl 32 rfl zs HB0.out ?_) | (refine wpList_store_row rfl 32 (.tmp 2) (.tmp 93) rfl B zs rfl rfl 32 _ HR2.out.res (by rw [HZS.out]; kernel_rfl) rfl HO.out ?_))
    have hret : Whole (W2.setRow B zs) B 32 (packL false nought false nought 0).toArray := by
      rw [← HZC.out]
      exact setRow_heap _ _ _ _ _ _ HR2.out.res
    refine bodyPost_ret (Poly.results_cell_tmp rfl _ _ B 32 _ _ rfl hret rfl rfl (by rw [packL_length]; kernel_rfl)) rfl ?_
    exact ⟨rfl, by first | exact below_setRow HR2.out.bel (Nat.le_refl _) _ | (rw [hB]; exact below_setRow HR2.out.bel (Nat.le_refl _) _)⟩
  have k2' : hd ≤ z := by omega
  clear k2
  by_cases k3 : n < z
  · clear HK
    go_wp2_with (first | (refine wpList_built0 rfl 32 rfl zs HB0.out ?_) | (refine wpList_store_row rfl 32 (.tmp 2) (.tmp 93) rfl B zs rfl rfl 32 _ HR2.out.res (by rw [HZS.out]; kernel_rfl) rfl HO.out ?_))
    have hret : Whole (W2.setRow B zs) B 32 (packL false nought false nought 0).toArray := by
      rw [← HZC.out]
      exact setRow_heap _ _ _ _ _ _ HR2.out.res
    refine bodyPost_ret (Poly.results_cell_tmp rfl _ _ B 32 _ _ rfl hret rfl rfl (by rw [packL_length]; kernel_rfl)) rfl ?_
    exact ⟨rfl, by first | exact below_setRow HR2.out.bel (Nat.le_refl _) _ | (rw [hB]; exact below_setRow HR2.out.bel (Nat.le_refl _) _)⟩
  have k3' : z ≤ n := by omega
  clear k3
  have HNE := Lib.hid (neq_wrap (a := canon (sumS f hd)) (fun e => HK.out ⟨k1', k2', k3', e⟩))
  clear HK
  go_wp2_with fail
  refine (sum_ref (some ⟨b, off, none⟩) hd c f HF.out (by omega) _ (.inr ⟨b, off, rfl, Nat.lt_trans HR2.out.lt HR2.out.res.lt, fun i hi => HR2.out.src i (by omega)⟩)).mono ?_
  rintro e w' ⟨rfl, rfl⟩
  have hcl := canon_le (sumS f hd)
  generalize canon (sumS f hd) = r at HNE hcl ⊢
  have hne := HNE.out
  go_wp2_with (first | (refine wpList_built0 rfl 32 rfl zs HB0.out ?_) | (refine wpList_store_row rfl 32 (.tmp 2) (.tmp 93) rfl B zs rfl rfl 32 _ HR2.out.res (by rw [HZS.out]; kernel_rfl) rfl HO.out ?_))
  have hret : Whole (W2.setRow B zs) B 32 (packL false nought false nought 0).toArray := by
    rw [← HZC.out]
    exact setRow_heap _ _ _ _ _ _ HR2.out.res
  refine bodyPost_ret (Poly.results_cell_tmp rfl _ _ B 32 _ _ rfl hret rfl rfl (by rw [packL_length]; kernel_rfl)) rfl ?_
  exact ⟨rfl, by first | exact below_setRow HR2.out.bel (Nat.le_refl _) _ | (rw [hB]; exact below_setRow HR2.out.bel (Nat.le_refl _) _)⟩

set_option maxRecDepth 100000 in
set_option maxHeartbeats 4000000 in
theorem rf_four_ok (b off n c : Nat) (f : Nat → Nat) (hf : ∀ i, f i < 256) (hn : n ≤ 4000) (h0 : 0 < n) (hcn : n ≤ c) (hcm : c ≤ 9223372036854775807) (h4 : f 0 / 16 = 4) (h20 : 20 ≤ n) (hk : ok4 f n) (w : World) (hb : b < w.heap.size)
    (hc : ∀ i, i < n → w.cell? ⟨b, off + i, none⟩ = some (.int .u8 (f i : Nat))) :
    Calls Try.prog 10 #[.slice (some ⟨b, off, none⟩) n c] w fun e w' => e = .returned (.tuple #[.agg (packL false (at4 f 12) false (at4 f 16) (sz4 f : Nat)).toArray, .int .i64 0]) ∧ Below w.heap.size w w' := by
  obtain ⟨zs, hz, hzs, hzc⟩ : ∃ zs : Array Value, (∀ w, (zeroValue 32).run Try.prog w = .ok (.agg zs) w) ∧ zs.size = 35 ∧ zs = (packL false nought false nought 0).toArray := ⟨_, zero_packR, pack_size _ _ _ _ _, rfl⟩
  have HZC := Lib.hid hzc
  have HZS := Lib.hid hzs
  have HB0 := Lib.hid packR_built0
  have HO := Lib.hid (pack_one false nought false nought 0)
  rw [← hzc] at HB0 HO
  clear hzc hzs
  have _u := And.intro hcn hcm
  clear _u
  have HF := Lib.hid hf
  have HC := Lib.hid hc
  have hf0 := hf 0
  obtain ⟨x, hx⟩ : ∃ x, f 2 = x := ⟨_, rfl⟩
  obtain ⟨y, hy⟩ : ∃ y, f 3 = y := ⟨_, rfl⟩
  have hx2 : x < 256 := by rw [← hx]; exact hf 2
  have hy2 : y < 256 := by rw [← hy]; exact hf 3
  obtain ⟨z, hzz⟩ : ∃ z, sz4 f = z := ⟨_, rfl⟩
  have hz3 : z = x * 256 + y := by rw [← hzz, ← hx, ← hy]; rfl
  have hz4 : z < 70000 := by omega
  have HX := Lib.hid hx
  have HY := Lib.hid hy
  have HZZ := Lib.hid hzz
  have W1 := Lib.hid (show IntKind.i64.wrap (x : Int) = (x : Int) from IntWalk.i64_in _ (by omega))
  have W2 := Lib.hid (show IntKind.i64.wrap (y : Int) = (y : Int) from IntWalk.i64_in _ (by omega))
  obtain ⟨u, hu⟩ : ∃ u : Nat, u = 256 * x := ⟨_, rfl⟩
  have W3 := Lib.hid (show IntKind.i64.wrap (256 * (x : Int)) = (u : Int) from by rw [IntWalk.i64_in _ (by omega)]; omega)
  have W4 := Lib.hid (show IntKind.i64.wrap ((u : Int) + (y : Int)) = (z : Int) from by rw [IntWalk.i64_in _ (by omega)]; omega)
  obtain ⟨hd, hhd⟩ : ∃ hd, hd4 f = hd := ⟨_, rfl⟩
  have HH := Lib.hid (show (4 : Int) * ((f 0 : Nat) % 16 : Int) = (hd : Int) from by rw [← hhd]; unfold hd4; omega)
  have hh1 : hd ≤ 60 := by rw [← hhd]; unfold hd4; omega
  have HHD := Lib.hid hhd
  clear hz3 hu
  obtain ⟨k1, k2, k3, k4⟩ := hk
  rw [hhd] at k1 k2 k4
  rw [hzz] at k2 k3
  have HK4 := Lib.hid k4
  clear k4 hx hy hzz hhd
  obtain ⟨v, hv⟩ : ∃ v, f 0 = v := ⟨_, rfl⟩
  clear hf hc
  go_enter Try.func10, Try.ntmps10
  go_upto_region 3 with fail
  refine cut_world (fun X => RfW w w.heap.size b off n f zs X) ⟨Whole.new _ _ _, fun i hi => ((below_alloc (Below.refl _ _) _).cell (p := ⟨b, off + i, none⟩) hb).trans (HC.out i hi), below_alloc (Below.refl _ _) _, hb⟩ ?_
  rintro W hr
  have HR := Lib.hid hr
  have hcell : W.cell? ⟨b, off, none⟩ = some (.int .u8 (v : Nat)) := by
    have := hr.src 0 h0
    rwa [Nat.add_zero, hv] at this
  clear hr HC
  generalize hB : w.heap.size = B at HR hb ⊢
  rw [hv] at h4 hf0 HH
  have e4 : (v : Int) / 16 = 4 := by omega
  clear h4 hv
  go_upto_region 16 with fail
  rw [HH.out]
  clear HH
  go_upto_region 16 with fail
  have cx : W.cell? ⟨b, off + 2, none⟩ = some (.int .u8 (x : Nat)) := by rw [HR.out.src 2 (by omega), HX.out]
  have cy : W.cell? ⟨b, off + 3, none⟩ = some (.int .u8 (y : Nat)) := by rw [HR.out.src 3 (by omega), HY.out]
  have ln1 : ((2 : Nat) : Int) < (n : Int) := by omega
  have ln2 : ((3 : Nat) : Int) < (n : Int) := by omega
  have ln3 : 2 < n := by omega
  have ln4 : 3 < n := by omega
  have eW1 := W1.out
  have eW2 := W2.out
  have eW3 := W3.out
  have eW4 := W4.out
  go_quiet (fail)
  have HR2 := Lib.hid (HR.out.drewN nq)
  clear HR hcell cx cy ln1 ln2 eW1 eW2 eW3 eW4 W1 W2 W3 W4
  generalize W.drewN nq = W2 at HR2 ⊢
  go_wp2_with fail
  refine (sum_ref (some ⟨b, off, none⟩) hd c f HF.out (by omega) _ (.inr ⟨b, off, rfl, Nat.lt_trans HR2.out.lt HR2.out.res.lt, fun i hi => HR2.out.src i (by omega)⟩)).mono ?_
  rintro e w' ⟨rfl, rfl⟩
  rw [HK4.out]
  go_upto_region 19 with fail
  have hcA : (16 : Int) ≤ (c : Int) := by omega
  have hcB : (20 : Int) ≤ (c : Int) := by omega
  have hcC : ¬ c = 12 := by omega
  have hcD : ¬ c = 16 := by omega
  have HR3 := Lib.hid (HR2.out.drewN 1)
  refine region_drew (fun _ => True) (by kernel_rfl) trivial ?_
  intro _
  refine take 0 _ rfl (by kernel_rfl) (by kernel_rfl) (by kernel_rfl) (fun _ _ _ h => h) (by rfl) trivial (by intro w _; go_simp; try with_reducible rfl) ?_
  try simp only [Act.put, List.setIfInBounds_toArray, List.set_cons_zero, List.set_cons_succ]
  refine take 1 _ rfl (by kernel_rfl) (by kernel_rfl) (by kernel_rfl) (fun _ _ _ h => h) (by rfl) trivial (by intro w _; go_simp; try with_reducible rfl) ?_
  try simp only [Act.put, List.setIfInBounds_toArray, List.set_cons_zero, List.set_cons_succ]
  refine take 3 _ rfl (by kernel_rfl) (by kernel_rfl) (by kernel_rfl) (fun _ _ _ h => h) (by rfl) trivial (by intro w _; go_simp; try with_reducible rfl) ?_
  try simp only [Act.put, List.setIfInBounds_toArray, List.set_cons_zero, List.set_cons_succ]
  refine take 4 _ rfl (by kernel_rfl) (by kernel_rfl) (by kernel_rfl) (fun _ _ _ h => h) (by rfl) trivial (by intro w _; go_simp; try with_reducible rfl) ?_
  try simp only [Act.put, List.setIfInBounds_toArray, List.set_cons_zero, List.set_cons_succ]
  refine take 6 _ rfl (by kernel_rfl) (by kernel_rfl) (by kernel_rfl) (fun _ _ _ h => h) (by rfl) trivial (by intro w _; go_simp; try with_reducible rfl) ?_
  try simp only [Act.put, List.setIfInBounds_toArray, List.set_cons_zero, List.set_cons_succ]
  refine alone 2 rfl (by kernel_rfl) (by rfl) ?_
  intro K hK
  go_simp
  refine (addr_any false 4 rfl b (off + 12) (c - 12) (fun i => f (12 + i)) _ (Nat.lt_trans HR3.out.lt HR3.out.res.lt) (fun i hi => by rw [Nat.add_assoc]; exact HR3.out.src (12 + i) (by omega))).mono ?_
  rintro e w5 ⟨rfl, hb5⟩
  have HR4 := Lib.hid (HR3.out.below hb5)
  clear hb5
  go_simp
  refine hK.out _ _ trivial ?_
  clear hK K
  try simp only [Act.put, List.setIfInBounds_toArray, List.set_cons_zero, List.set_cons_succ]
  refine alone 5 rfl (by kernel_rfl) (by rfl) ?_
  intro K hK
  go_simp
  refine (addr_any false 4 rfl b (off + 16) (c - 16) (fun i => f (16 + i)) _ (Nat.lt_trans HR4.out.lt HR4.out.res.lt) (fun i hi => by rw [Nat.add_assoc]; exact HR4.out.src (16 + i) (by omega))).mono ?_
  rintro e w6 ⟨rfl, hb5⟩
  have HR5 := Lib.hid (HR4.out.below hb5)
  clear hb5
  go_simp
  refine hK.out _ _ trivial ?_
  clear hK K
  try simp only [Act.put, List.setIfInBounds_toArray, List.set_cons_zero, List.set_cons_succ]
  have HBB := Lib.hid (packR_built3 false (upK (fun i => f (12 + i)) 4) false (upK (fun i => f (16 + i)) 4) (z : Int))
  have HOO := Lib.hid (pack_one false (upK (fun i => f (12 + i)) 4) false (upK (fun i => f (16 + i)) 4) (z : Int))
  have HSS := Lib.hid (packL_length false (upK (fun i => f (12 + i)) 4) false (upK (fun i => f (16 + i)) 4) (z : Int))
  have HPP := Lib.hid (show packL false (at4 f 12) false (at4 f 16) (z : Int) = packL false (upK (fun i => f (12 + i)) 4) false (upK (fun i => f (16 + i)) 4) (z : Int) from rfl)
  obtain ⟨P, hP⟩ : ∃ P, packL false (upK (fun i => f (12 + i)) 4) false (upK (fun i => f (16 + i)) 4) (z : Int) = P := ⟨_, rfl⟩
  rw [hP] at HBB HOO HSS HPP
  have HPS := Lib.hid (show P.toArray.size = 35 from by rw [List.size_toArray, HSS.out])
  clear hP
  refine take 7 (.agg P.toArray) rfl (by kernel_rfl) (by kernel_rfl) (by kernel_rfl) (fun _ _ _ h => h) (by rfl) trivial (fun w _ => run_built3 32 0 1 2 (.tmp 96) (.tmp 99) (.tmp 100) rfl _ _ (.int .i64 (z : Int)) rfl rfl rfl P.toArray HBB.out) ?_
  try simp only [Act.put, List.setIfInBounds_toArray, List.set_cons_zero, List.set_cons_succ]
  refine alone 8 rfl (by kernel_rfl) (by rfl) ?_
  intro K hK
  refine wp_store_row 32 (.tmp 2) (.tmp 101) rfl B P.toArray (by rfl) (by rfl) 32 _ HR5.out.res (by rw [HPS.out]; kernel_rfl) (by rw [HPS.out, HZS.out]) HOO.out ?_
  refine hK.out _ _ trivial ?_
  clear hK K
  try simp only [Act.put]
  refine alone_run 9 _ rfl (by kernel_rfl) (by rfl) trivial (by go_simp; try with_reducible rfl) ?_
  try simp only [Act.put, List.setIfInBounds_toArray, List.set_cons_zero, List.set_cons_succ]
  refine region_end (by kernel_rfl) ?_
  go_wp2_with fail
  have hret : Whole (w6.setRow B P.toArray) B 32 P.toArray := setRow_heap _ _ _ _ _ _ HR5.out.res
  refine bodyPost_ret (Poly.results_cell_tmp rfl _ _ B 32 _ _ rfl hret rfl rfl (by rw [HSS.out]; kernel_rfl)) rfl ?_
  exact ⟨by rw [HZZ.out, HPP.out]; rfl, by rw [hB]; exact below_setRow HR5.out.bel (Nat.le_refl _) _⟩

end Inner
end Go.Proofs.Ytiemcfgjpcnloaa
