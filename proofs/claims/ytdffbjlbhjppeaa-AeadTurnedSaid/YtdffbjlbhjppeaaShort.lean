/- The call shorten of package aead: the key and the nonce that a long nonce makes. -/
import Derived.Test.YtdffbjlbhjppeaaBehind
import Derived.Test.YtdffbjlbhjppeaaDer
namespace Go.Proofs.Ytdffbjlbhjppeaa
namespace Aead
open Go.ChangeShapes Go.WideShapes Go.ChangeAt Go.RowKit
open Num Mem Words State PolyN Chacha Quiet Poly Ref

theorem byteCells_lit24 (f : Nat → Nat) : (byteCells f 24).toArray = #[.int .u8 (f 0 : Nat), .int .u8 (f 1 : Nat), .int .u8 (f 2 : Nat), .int .u8 (f 3 : Nat), .int .u8 (f 4 : Nat), .int .u8 (f 5 : Nat), .int .u8 (f 6 : Nat), .int .u8 (f 7 : Nat), .int .u8 (f 8 : Nat), .int .u8 (f 9 : Nat), .int .u8 (f 10 : Nat), .int .u8 (f 11 : Nat), .int .u8 (f 12 : Nat), .int .u8 (f 13 : Nat), .int .u8 (f 14 : Nat), .int .u8 (f 15 : Nat), .int .u8 (f 16 : Nat), .int .u8 (f 17 : Nat), .int .u8 (f 18 : Nat), .int .u8 (f 19 : Nat), .int .u8 (f 20 : Nat), .int .u8 (f 21 : Nat), .int .u8 (f 22 : Nat), .int .u8 (f 23 : Nat)] := rfl

theorem results_cell_cell {fn : Func} {p q : Tmp} {ty ty2 : TypeId} {P : Program} (h : fn.results = #[.cell p ty, .cell q ty2]) (tmps : Array Value) (w : World) (g : Nat) (t : TypeId) (cs : List Value) (d : TypeDesc)
    (hp : tmps.getD p undef = .pointer (some ⟨g, 0, none⟩)) (hg : Whole w g t cs.toArray)
    (hu : P.underlying ty = some d) (hd : d.isRow = true) (hi : (P.info? ty).map (·.size) = some cs.length)
    (g2 : Nat) (t2 : TypeId) (cs2 : List Value) (d2 : TypeDesc)
    (hq : tmps.getD q undef = .pointer (some ⟨g2, 0, none⟩)) (hg2 : Whole w g2 t2 cs2.toArray)
    (hu2 : P.underlying ty2 = some d2) (hd2 : d2.isRow = true) (hi2 : (P.info? ty2).map (·.size) = some cs2.length) :
    (results fn tmps).run P w = .ok (.tuple #[.agg cs.toArray, .agg cs2.toArray]) w := by
  have hp' : tmps[p]?.getD undef = .pointer (some ⟨g, 0, none⟩) := by simpa using hp
  have hq' : tmps[q]?.getD undef = .pointer (some ⟨g2, 0, none⟩) := by simpa using hq
  simp [results, h, hp', hq', asAddr, run_loadVar_mid w g 0 ty cs d (whole_range hg) hu hd hi, run_loadVar_mid w g2 0 ty2 cs2 d2 (whole_range hg2) hu2 hd2 hi2]

/-- what stays while the results are made -/
def SS (w : World) (B : Nat) (key nonce : Nat → Nat) (X : World) : Prop :=
  Whole X B 40 (byteCells key 32).toArray ∧ Whole X (B + 1) 42 (byteCells nonce 24).toArray ∧ Whole X (B + 1 + 1 + 1 + 1) 25 (byteCells nonce 16).toArray ∧ Below B w X
theorem ss_below {w X Y : World} {B : Nat} {key nonce : Nat → Nat} (h : SS w B key nonce X) (hb : Below X.heap.size X Y) : SS w B key nonce Y :=
  ⟨h.1.below hb h.1.lt, h.2.1.below hb h.2.1.lt, h.2.2.1.below hb h.2.2.1.lt, h.2.2.2.trans (hb.mono (Nat.le_of_lt h.1.lt))⟩
theorem ss_set {w X : World} {B g : Nat} {key nonce : Nat → Nat} (h : SS w B key nonce X) (h1 : B ≠ g) (h2 : B + 1 ≠ g) (h3 : B + 1 + 1 + 1 + 1 ≠ g) (h4 : B ≤ g) (cs : Array Value) : SS w B key nonce (X.setRow g cs) :=
  ⟨(setRow_other _ _ _ _ h1).trans h.1, (setRow_other _ _ _ _ h2).trans h.2.1, (setRow_other _ _ _ _ h3).trans h.2.2.1, below_setRow h.2.2.2 h4 _⟩

set_option maxRecDepth 100000 in
set_option maxHeartbeats 1000000 in
theorem shorten_any (key nonce : Nat → Nat) (hk : ∀ i, key i < 256) (hn : ∀ i, nonce i < 256) (w : World) :
    Calls Try.prog 46 #[.agg (byteCells key 32).toArray, .agg (byteCells nonce 24).toArray] w fun e w' => e = .returned (.tuple #[.agg (byteCells (der key nonce) 32).toArray, .agg (byteCells (bn fun i => nonce (16 + i)) 12).toArray]) ∧ Below w.heap.size w w' := by
  have HK := Lib.hid hk
  have HN := Lib.hid hn
  clear hk hn
  rw [byteCells_lit32, byteCells_lit24]
  go_enter Try.func46, Try.ntmps46
  go_upto_region 2 with fail
  refine cut_world (fun W => Whole W w.heap.size 40 (byteCells key 32).toArray ∧ Whole W (w.heap.size + 1) 42 (byteCells nonce 24).toArray ∧ Whole W (w.heap.size + 1 + 1) 40 (byteCells (fun _ => 0) 32).toArray ∧ Whole W (w.heap.size + 1 + 1 + 1) 41 (byteCells (fun _ => 0) 12).toArray ∧ Whole W (w.heap.size + 1 + 1 + 1 + 1) 25 (byteCells (fun _ => 0) 16).toArray ∧ Below w.heap.size w W) ⟨?_, ?_, ?_, ?_, ?_, ?_⟩ ?_
  · rw [byteCells_lit32]
    exact ((((whole_new _ _ rfl).alloc _).alloc _).alloc _).alloc _
  · rw [byteCells_lit24]
    exact (((whole_new _ _ (by simp)).alloc _).alloc _).alloc _
  · exact ((whole_new _ _ (by simp)).alloc _).alloc _
  · exact (whole_new _ _ (by simp)).alloc _
  · exact whole_new _ _ (by simp)
  · exact below_alloc (below_alloc (below_alloc (below_alloc (below_alloc (Below.refl _ _) _) _) _) _) _
  rintro W ⟨k1, k2, k3, k4, k5, kb⟩
  have K1 := Lib.hid k1
  have K2 := Lib.hid k2
  have K3 := Lib.hid k3
  have K4 := Lib.hid k4
  have K5 := Lib.hid k5
  have KB := Lib.hid kb
  have K5D := Lib.hid (show Whole W.drew (w.heap.size + 1 + 1 + 1 + 1) 25 (byteCells (fun _ => 0) 16).toArray from k5.drew)
  have HS := Lib.hid (rd_src (w := W.drew) (b := w.heap.size + 1) (off := 0) (n := 16) (f := nonce) (fun i hi => k2.drew.bytes i (by omega)))
  have hl5 := k5.lt
  clear k1 k2 k3 k4 k5 kb
  generalize hB : w.heap.size = B at K1 K2 K3 K4 K5 KB K5D HS hl5 ⊢
  go_region_law (refine step_copy_grown rfl (.tmp 7) (.tmp 8) 23 23 rfl 5 rfl (by kernel_rfl) (B + 1 + 1 + 1 + 1) 0 16 16 ⟨B + 1, 0, none⟩ 24 24 rfl rfl (byteCells (fun _ => 0) 16) 25 K5D.out (byteCells nonce 16) (by rw [byteCells_length]; rfl) HS.out (by rw [byteCells_length, byteCells_length]; omega) (bytes_each _ _) ?_; intro w8 hg8 hb8)
  have L5 := Lib.hid (show Whole w8 (B + 1 + 1 + 1 + 1) 25 (byteCells nonce 16).toArray from by
    have h := hg8.out
    rw [byteCells_splice (fun _ => 0) nonce nonce 16 0 16 (by omega) (fun i hi => by rw [if_pos ⟨by omega, by omega⟩, Nat.sub_zero])] at h
    exact h)
  have L1 := Lib.hid (whole_grown (w := w8) K1.out.drew hb8 (by omega))
  have L2 := Lib.hid (whole_grown (w := w8) K2.out.drew hb8 (by omega))
  have L3 := Lib.hid (whole_grown (w := w8) K3.out.drew hb8 (by omega))
  have L4 := Lib.hid (whole_grown (w := w8) K4.out.drew hb8 (by omega))
  have LB := Lib.hid (below_grown (below_drewN KB.out 1) hb8 (by omega) (by show B ≤ W.heap.size; omega))
  have hl8 : B + 1 + 1 + 1 + 1 < w8.heap.size := L5.out.lt
  clear hg8 hb8 K1 K2 K3 K4 K5 KB K5D HS hl5
  obtain ⟨D, hD⟩ : ∃ D, der key nonce = D := ⟨_, rfl⟩
  obtain ⟨E, hE⟩ : ∃ E, (bn fun i => nonce (16 + i)) = E := ⟨_, rfl⟩
  have HD := Lib.hid hD
  have HE := Lib.hid hE
  go_wp2_with fail
  refine region_drew (SS w B key nonce) (by kernel_rfl) ⟨L1.out.drew, L2.out.drew, L5.out.drew, below_drewN LB.out 1⟩ ?_
  intro hS
  refine take 0 _ rfl (by kernel_rfl) (by kernel_rfl) (by kernel_rfl) (fun _ _ _ h => h) (by rfl) hS (fun w hw => run_load_op 40 (.tmp 2) rfl (B) rfl (hw.1) rfl rfl (by kernel_rfl)) ?_
  try simp only [Act.put, List.setIfInBounds_toArray, List.set_cons_zero, List.set_cons_succ]
  refine take 1 _ rfl (by kernel_rfl) (by kernel_rfl) (by kernel_rfl) (fun _ _ _ h => h) (by rfl) hS (fun w hw => run_load_op 25 (.tmp 6) rfl ((B+1+1+1+1)) rfl (hw.2.2.1) rfl rfl (by kernel_rfl)) ?_
  try simp only [Act.put, List.setIfInBounds_toArray, List.set_cons_zero, List.set_cons_succ]
  refine take 3 _ rfl (by kernel_rfl) (by kernel_rfl) (by kernel_rfl) (fun _ _ _ h => h) (by rfl) hS (by intro w _; go_simp; with_reducible rfl) ?_
  try simp only [Act.put, List.setIfInBounds_toArray, List.set_cons_zero, List.set_cons_succ]
  refine alone 2 rfl (by kernel_rfl) (by rfl) ?_
  intro K hK
  go_simp
  refine (derive_any key nonce HK.out HN.out _).mono ?_
  rintro e v1 ⟨rfl, hb⟩
  rw [HD.out]
  have P3 := Lib.hid (L3.out.drew.below hb L3.out.drew.lt)
  have P4 := Lib.hid (L4.out.drew.below hb L4.out.drew.lt)
  have hv1 := hb.size
  go_simp
  replace hS := ss_below hS hb
  refine hK.out _ _ hS ?_
  clear hK hb K
  try simp only [Act.put, List.setIfInBounds_toArray, List.set_cons_zero, List.set_cons_succ]
  refine alone 4 rfl (by kernel_rfl) (by rfl) ?_
  intro K hK
  go_simp
  refine (behind_any (B + 1) 16 8 (fun i => nonce (16 + i)) _ (by have := hS.2.1.lt; omega) (fun i hi => by rw [hS.2.1.cell, List.getElem?_toArray, byteCells_get nonce 24 (16 + i) (by omega)])).mono ?_
  rintro e v2 ⟨rfl, hb⟩
  rw [HE.out]
  have M3 := Lib.hid (P3.out.below hb P3.out.lt)
  have M4 := Lib.hid (P4.out.below hb P4.out.lt)
  have hv2 := hb.size
  go_simp
  replace hS := ss_below hS hb
  refine hK.out _ _ hS ?_
  clear hK hb K
  try simp only [Act.put, List.setIfInBounds_toArray, List.set_cons_zero, List.set_cons_succ]
  refine alone 5 rfl (by kernel_rfl) (by rfl) ?_
  intro K hK
  refine wp_store_row 40 (.tmp 4) (.tmp 12) rfl (B + 1 + 1) (byteCells (D) 32).toArray (by rfl) (by rfl) 40 _ M3.out (by rw [List.size_toArray, byteCells_length]; kernel_rfl) (by rw [List.size_toArray, List.size_toArray, byteCells_length, byteCells_length]) (bytes_one _ _) ?_
  have hS2 := ss_set (g := B + 1 + 1) hS (by omega) (by omega) (by omega) (by omega) (byteCells (D) 32).toArray
  refine hK.out _ _ hS2 ?_
  clear hK K hS
  have hS := hS2
  clear hS2
  try simp only [Act.put]
  refine alone 6 rfl (by kernel_rfl) (by rfl) ?_
  intro K hK
  refine wp_store_row 41 (.tmp 5) (.tmp 14) rfl (B + 1 + 1 + 1) (byteCells (E) 12).toArray (by rfl) (by rfl) 41 _ ((setRow_other _ _ _ _ (by omega)).trans M4.out) (by rw [List.size_toArray, byteCells_length]; kernel_rfl) (by rw [List.size_toArray, List.size_toArray, byteCells_length, byteCells_length]) (bytes_one _ _) ?_
  have hS2 := ss_set (g := B + 1 + 1 + 1) hS (by omega) (by omega) (by omega) (by omega) (byteCells (E) 12).toArray
  refine hK.out _ _ hS2 ?_
  clear hK K hS
  have hS := hS2
  clear hS2
  try simp only [Act.put]
  refine region_end (by kernel_rfl) ?_
  go_wp2_with fail
  have hr3 : Whole ((v2.setRow (B + 1 + 1) (byteCells D 32).toArray).setRow (B + 1 + 1 + 1) (byteCells E 12).toArray) (B + 1 + 1) 40 (byteCells D 32).toArray := (setRow_other _ _ _ _ (by omega)).trans (setRow_heap _ _ _ _ _ _ M3.out)
  have hr4 : Whole ((v2.setRow (B + 1 + 1) (byteCells D 32).toArray).setRow (B + 1 + 1 + 1) (byteCells E 12).toArray) (B + 1 + 1 + 1) 41 (byteCells E 12).toArray := setRow_heap _ _ _ _ _ _ ((setRow_other _ _ _ _ (by omega)).trans M4.out)
  refine bodyPost_ret (results_cell_cell rfl _ _ (B + 1 + 1) 40 _ _ rfl hr3 rfl rfl (by rw [byteCells_length]; kernel_rfl) (B + 1 + 1 + 1) 41 _ _ rfl hr4 rfl rfl (by rw [byteCells_length]; kernel_rfl)) rfl ?_
  rw [hD, hE, hB]
  exact ⟨rfl, hS.2.2.2⟩

end Aead
end Go.Proofs.Ytdffbjlbhjppeaa
