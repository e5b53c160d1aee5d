/- The call end of package poly: what is left of a mark on its way, and the key's other half. -/
import Derived.Test.YtdffbjlbhjppeaaMark
import Derived.Laws.Externs
namespace Go.Proofs.Ytdffbjlbhjppeaa
namespace Poly
open Go.ChangeShapes Go.WideShapes Go.ChangeAt Go.RowKit
open Num Mem Words PolyN Chacha Quiet

theorem add64_run (x y c s o : Nat) (hc : c ≤ 1) (hs : s = (x + y + c) % 18446744073709551616) (ho : o = (x + y + c) / 18446744073709551616) (w : World) :
    (callFunc 56 #[.int .u64 x, .int .u64 y, .int .u64 c]).run Try.prog w = .ok (.value (.tuple #[.int .u64 (s : Nat), .int .u64 (o : Nat)])) w := by
  rw [run_callFunc_extern Try.func56 (by kernel_rfl) (by kernel_rfl) (by kernel_rfl) (e := add64Entry) (by kernel_rfl), run_add64 x y c (by omega) (by omega) (by omega) (by omega)]
  simp only [Result.andThen]
  subst hs
  subst ho
  congr 5 <;> omega

theorem or_u64 (x y i : Nat) (hx : x % 2 ^ i = 0) (hy : y < 2 ^ i) (hx2 : x < 18446744073709551616) (hy2 : y < 18446744073709551616) : bits .or .u64 (y : Int) (x : Int) = ((y + x : Nat) : Int) := by
  rw [u64_or_nat _ _ hy2 hx2, Nat.or_comm, nat_join i x y hx hy, Nat.add_comm]

theorem low_bits (a b c V : Nat) (ha : a < 67108864) (hb : b < 67108864) (_hc : c < 67108864) (d : Nat) (hV : V = a + b * 67108864 + c * 4503599627370496 + d * 302231454903657293676544) :
    bits .or .u64 (bits .or .u64 (a : Int) ((b : Int) * 67108864)) (IntKind.u64.wrap ((c : Int) * 4503599627370496)) = ((V % 18446744073709551616 : Nat) : Int) := by
  have e1 : ((b : Int) * 67108864) = ((b * 67108864 : Nat) : Int) := by rw [Int.natCast_mul]; rfl
  have e2 : IntKind.u64.wrap ((c : Int) * 4503599627370496) = ((c * 4503599627370496 % 18446744073709551616 : Nat) : Int) := by
    rw [show ((c : Int) * 4503599627370496) = ((c * 4503599627370496 : Nat) : Int) by rw [Int.natCast_mul]; rfl, wrap64_nat]
  rw [e1, e2, or_u64 (b * 67108864) a 26 (by omega) ha (by omega) (by omega), or_u64 _ (a + b * 67108864) 52 (by omega) (by omega) (by omega) (by omega)]
  congr 1
  omega

theorem high_bits (c d e V : Nat) (hc : c < 67108864) (hd : d < 67108864) (_he : e < 67108864) (x : Nat) (hx : x < 4503599627370496) (hV : V = x + c * 4503599627370496 + d * 302231454903657293676544 + e * 20282409603651670423947251286016) :
    bits .or .u64 (bits .or .u64 ((c : Int) / 4096) ((d : Int) * 16384)) (IntKind.u64.wrap ((e : Int) * 1099511627776)) = ((V / 18446744073709551616 % 18446744073709551616 : Nat) : Int) := by
  have e0 : ((c : Int) / 4096) = ((c / 4096 : Nat) : Int) := by omega
  have e1 : ((d : Int) * 16384) = ((d * 16384 : Nat) : Int) := by rw [Int.natCast_mul]; rfl
  have e2 : IntKind.u64.wrap ((e : Int) * 1099511627776) = ((e * 1099511627776 % 18446744073709551616 : Nat) : Int) := by
    rw [show ((e : Int) * 1099511627776) = ((e * 1099511627776 : Nat) : Int) by rw [Int.natCast_mul]; rfl, wrap64_nat]
  rw [e0, e1, e2, or_u64 (d * 16384) (c / 4096) 14 (by omega) (by omega) (by omega) (by omega), or_u64 _ (c / 4096 + d * 16384) 40 (by omega) (by omega) (by omega) (by omega)]
  congr 1
  omega

theorem byteAt_mod (x n j : Nat) (h : j < n) : byteAt (x % 2 ^ (8 * n)) j = byteAt x j := by
  unfold byteAt
  rw [show 2 ^ (8 * n) = 2 ^ (8 * j) * (2 ^ (8 * (n - j - 1)) * 256) by
    rw [show (256 : Nat) = 2 ^ 8 from rfl, ← Nat.pow_add, ← Nat.pow_add]
    congr 1
    omega, Nat.mod_mul_right_div_self, Nat.mod_mul_left_mod]
theorem byteAt_div (x n j : Nat) : byteAt (x / 2 ^ (8 * n)) j = byteAt x (n + j) := by
  unfold byteAt
  rw [Nat.div_div_eq_div_mul, ← Nat.pow_add, ← Nat.mul_add]

/-- both halves of a sum of numbers of sixteen bytes -/
theorem halves (V s t low high : Nat) (hl : low = (V % 18446744073709551616 + s) % 18446744073709551616) (hh : high = (V / 18446744073709551616 % 18446744073709551616 + t + (V % 18446744073709551616 + s) / 18446744073709551616) % 18446744073709551616) (i : Nat) (hi : i < 16) :
    byteAt (V + (s + t * 18446744073709551616)) i = if i < 8 then byteAt low i else byteAt high (i - 8) := by
  split
  · rename_i h
    rw [← byteAt_mod _ 8 i h]
    congr 1
    show (V + (s + t * 18446744073709551616)) % 18446744073709551616 = low
    omega
  · rename_i h
    rw [show i = 8 + (i - 8) by omega, ← byteAt_div, ← byteAt_mod _ 8 (i - 8) (by omega), show 8 + (i - 8) - 8 = i - 8 by omega]
    congr 1
    show (V + (s + t * 18446744073709551616)) / 18446744073709551616 % 18446744073709551616 = high
    omega

theorem lv5 (a : Nat → Nat) : lv a 5 = a 0 + a 1 * 67108864 + a 2 * 4503599627370496 + a 3 * 302231454903657293676544 + a 4 * 20282409603651670423947251286016 := by
  simp only [lv]
  omega

/-- the number of a mark -/
def tag (V : Nat) (key : Nat → Nat) (i : Nat) : Nat := byteAt (V + le key 16 16) i
theorem tag_lt (V : Nat) (key : Nat → Nat) (i : Nat) : tag V key i < 256 := byteAt_lt _ _
theorem le_two (f : Nat → Nat) (p : Nat) : le f p 16 = le f p 8 + le f (p + 8) 8 * 18446744073709551616 := by
  simp only [le, Nat.add_zero, Nat.add_assoc, Nat.reduceAdd, Nat.reduceMul, Nat.reducePow]
  omega

set_option maxRecDepth 100000 in
theorem end_any (g : Nat) (r h : Nat → Nat) (hh : ∀ i, i < 5 → h i < 67108869) (hh' : ∀ i, 1 ≤ i → i < 5 → h i < 67108864) (key : Nat → Nat) (hk : ∀ i, key i < 256) (w : World) (hw : Whole w g 63 (qcells (mk2 r h) 10).toArray) :
    Calls Try.prog 35 #[.pointer (some ⟨g, 0, none⟩), .agg (byteCells key 32).toArray] w fun e w' => e = .returned (.agg (byteCells (tag (lv h 5 % P) key) 16).toArray) ∧ Below w.heap.size w w' := by
  have HK := Lib.hid hk
  have HW := Lib.hid hw
  have hgl := hw.lt
  have HLO := Lib.hid (lo_spec h hh hh')
  have HH := Lib.hid hh
  have HH' := Lib.hid hh'
  clear hk hw hh hh'
  rw [byteCells_lit32]
  go_enter Try.func35, Try.ntmps35
  go_upto_region 1 with fail
  refine cut_world (fun W => Whole W w.heap.size 22 (byteCells key 32).toArray ∧ Whole W (w.heap.size + 1) 25 (byteCells (fun _ => 0) 16).toArray ∧ Below w.heap.size w W) ⟨?_, ?_, ?_⟩ ?_
  · rw [byteCells_lit32]
    exact (whole_new _ _ rfl).alloc _
  · exact whole_new _ _ (by simp)
  · exact below_alloc (below_alloc (Below.refl _ _) _) _
  rintro W ⟨k1, k2, kb⟩
  have K0 := Lib.hid (HW.out.below kb hgl)
  have K1 := Lib.hid k1
  have K2 := Lib.hid k2
  have KB := Lib.hid kb
  have hl2 := k2.lt
  clear k1 k2 kb HW hgl
  generalize hB : w.heap.size = B at K1 K2 KB hl2 ⊢
  go_wp2_with (refine wpList_load_mid rfl 61 _ rfl g 5 rfl (qcells h 5) _ (whole_part K0.out 5 5 h (mk2_h r h) (by omega)) rfl rfl (by rw [qcells_length]; kernel_rfl) ?_)
  refine (lowest_any h HH.out HH'.out _).mono ?_
  rintro e w1 ⟨rfl, hb⟩
  have L1 := Lib.hid (K1.out.below hb K1.out.lt)
  have L2 := Lib.hid (K2.out.below hb K2.out.lt)
  have LB := Lib.hid (KB.out.trans (hb.mono (by omega)))
  have hl3 := hb.size
  clear hb K0 K1 K2 KB
  go_upto_region 2 with (refine wpList_store_row rfl 61 (.tmp 5) (.tmp 20) rfl w1.heap.size (qcells (lo h) 5).toArray rfl rfl 61 _ (Whole.new _ _ _) (by rw [qcells_size]; kernel_rfl) (by rw [qcells_size]; rfl) (qcells_one _ _) ?_)
  refine cut_world (fun W => Whole W B 22 (byteCells key 32).toArray ∧ Whole W (B + 1) 25 (byteCells (fun _ => 0) 16).toArray ∧ Whole W w1.heap.size 61 (qcells (lo h) 5).toArray ∧ B + 1 < w1.heap.size ∧ Below B w W) ⟨?_, ?_, ?_, by omega, ?_⟩ ?_
  · exact (setRow_other _ _ B _ (by omega)).trans (L1.out.alloc _)
  · exact (setRow_other _ _ (B + 1) _ (by omega)).trans (L2.out.alloc _)
  · exact setRow_heap _ _ _ _ _ _ (Whole.new _ _ _)
  · exact below_setRow (LB.out.alloc (by omega) _) (by omega) _
  rintro W2 ⟨k1, k2, k3, hG, kb⟩
  have K1 := Lib.hid k1
  have K2 := Lib.hid k2
  have KB := Lib.hid kb
  have c0 := k3.num 0 (by omega)
  have c1 := k3.num 1 (by omega)
  have c2 := k3.num 2 (by omega)
  have c3 := k3.num 3 (by omega)
  have c4 := k3.num 4 (by omega)
  have hl4 := k3.lt
  obtain ⟨V, hV⟩ : ∃ V, lv h 5 % P = V := ⟨_, rfl⟩
  have b0 := HLO.out.2.2 0 (by omega)
  have b1 := HLO.out.2.2 1 (by omega)
  have b2 := HLO.out.2.2 2 (by omega)
  have b3 := HLO.out.2.2 3 (by omega)
  have b4 := HLO.out.2.2 4 (by omega)
  have hv5 := lv5 (lo h)
  rw [HLO.out.2.1, hV] at hv5
  have HV := Lib.hid hV
  clear k1 k2 k3 kb hV L1 L2 LB hl2 hl3 HLO HH HH'
  generalize w1.heap.size = G at c0 c1 c2 c3 c4 hG hl4 ⊢
  generalize lo h 0 = x0 at c0 b0 hv5
  generalize lo h 1 = x1 at c1 b1 hv5
  generalize lo h 2 = x2 at c2 b2 hv5
  generalize lo h 3 = x3 at c3 b3 hv5
  generalize lo h 4 = x4 at c4 b4 hv5
  have HLOW := Lib.hid (low_bits x0 x1 x2 V b0 b1 b2 (x3 + x4 * 67108864) (by omega))
  have HHIGH := Lib.hid (high_bits x2 x3 x4 V b2 b3 b4 (x0 + x1 * 67108864) (by omega) (by omega))
  obtain ⟨lw, hlw⟩ : ∃ x, V % 18446744073709551616 = x := ⟨_, rfl⟩
  obtain ⟨hg, hhg⟩ : ∃ x, V / 18446744073709551616 % 18446744073709551616 = x := ⟨_, rfl⟩
  have HLW := Lib.hid hlw
  have HHG := Lib.hid hhg
  rw [hlw] at HLOW
  rw [hhg] at HHIGH
  clear hlw hhg hv5
  go_upto_region 3 with fail
  rw [HLOW.out]
  go_upto_region 4 with fail
  rw [HHIGH.out]
  clear HLOW HHIGH c0 c1 c2 c3 c4 b0 b1 b2 b3 b4
  go_wp2_with fail
  refine (load64_ok B 0 32 32 key HK.out 16 (by omega) (by omega) _ (fun i hi => K1.out.bytes i hi)).mono ?_
  rintro e w5 ⟨rfl, rfl⟩
  go_wp2_with fail
  refine (load64_ok B 0 32 32 key HK.out 24 (by omega) (by omega) _ (fun i hi => K1.out.bytes i hi)).mono ?_
  rintro e w5 ⟨rfl, rfl⟩
  have HTW := Lib.hid (le_two key 16)
  have s0 : le key 16 8 < 18446744073709551616 := le_lt HK.out 16 8
  have s1 : le key 24 8 < 18446744073709551616 := le_lt HK.out 24 8
  generalize le key 16 8 = s at HTW s0
  generalize le key 24 8 = t at HTW s1
  obtain ⟨l2, hl2⟩ : ∃ x, (lw + s) % 18446744073709551616 = x := ⟨_, rfl⟩
  obtain ⟨o2, ho2⟩ : ∃ x, (lw + s) / 18446744073709551616 = x := ⟨_, rfl⟩
  obtain ⟨h2, hh2⟩ : ∃ x, (hg + t + o2) % 18446744073709551616 = x := ⟨_, rfl⟩
  obtain ⟨o3, ho3⟩ : ∃ x, (hg + t + o2) / 18446744073709551616 = x := ⟨_, rfl⟩
  have hlwb : lw < 18446744073709551616 := by have := HLW.out; omega
  have hhgb : hg < 18446744073709551616 := by have := HHG.out; omega
  have A1 := Lib.hid (show ∀ w, (callFunc 56 #[.int .u64 lw, .int .u64 s, .int .u64 0]).run Try.prog w = .ok (.value (.tuple #[.int .u64 (l2 : Nat), .int .u64 (o2 : Nat)])) w from add64_run lw s 0 l2 o2 (by omega) (by omega) (by omega))
  have A2 := Lib.hid (add64_run hg t o2 h2 o3 (by omega) (by omega) (by omega))
  have l2b : l2 < 18446744073709551616 := by omega
  have h2b : h2 < 18446744073709551616 := by omega
  have HTAG := Lib.hid (show ∀ i, i < 16 → tag V key i = if i < 8 then byteAt l2 i else byteAt h2 (i - 8) from fun i hi => by
    unfold tag
    rw [HTW.out]
    exact halves V s t l2 h2 (by rw [HLW.out, hl2]) (by rw [HLW.out, HHG.out, ho2, hh2]) i hi)
  clear hl2 ho2 hh2 ho3 hlwb hhgb HLW HHG HTW s0 s1
  go_upto_region 9 with (first | simp only [A1.out] | simp only [A2.out])
  refine cut_world (fun W => Whole W (B + 1) 25 (byteCells (fun _ => 0) 16).toArray ∧ Whole W W2.heap.size 25 (byteCells (fun _ => 0) 16).toArray ∧ B + 1 < W2.heap.size ∧ Below B w W) ⟨K2.out.alloc _, Whole.new _ _ _, by omega, KB.out.alloc (by omega) _⟩ ?_
  rintro W3 ⟨k2, k3, hE, kb⟩
  have K2' := Lib.hid k2
  have K3 := Lib.hid k3
  have KB' := Lib.hid kb
  have hl3 := k3.lt
  clear k2 k3 kb K1 K2 KB A1 A2 hl4
  generalize W2.heap.size = E at K3 hE hl3 ⊢
  go_wp2_with fail
  refine (put64_any l2 l2b _).mono ?_
  rintro e w6 ⟨rfl, hb6⟩
  have L2 := Lib.hid (K2'.out.below hb6 K2'.out.lt)
  have L3 := Lib.hid (K3.out.below hb6 K3.out.lt)
  have LB := Lib.hid (KB'.out.trans (hb6.mono (by omega)))
  have hl6 := hb6.size
  clear hb6 K2' K3 KB'
  go_wp2_with fail
  refine (put64_any h2 h2b _).mono ?_
  rintro e w7 ⟨rfl, hb7⟩
  have M2 := Lib.hid (L2.out.below hb7 L2.out.lt)
  have M3 := Lib.hid (L3.out.below hb7 L3.out.lt)
  have MB := Lib.hid (LB.out.trans (hb7.mono (by omega)))
  have hl7 := hb7.size
  clear hb7 L2 L3 LB
  have HZ8 := Lib.hid (show ∀ f, (byteCells f 8).toArray.size = 8 from fun f => by rw [List.size_toArray, byteCells_length])
  have HZ16 := Lib.hid (show ∀ f, (byteCells f 16).toArray.size = 16 from fun f => by rw [List.size_toArray, byteCells_length])
  go_upto_region 10 with (first | (refine wpList_store_row rfl 75 (.tmp 14) (.tmp 66) rfl w7.heap.size (byteCells (byteAt l2) 8).toArray rfl rfl 75 _ ((Whole.new _ _ _).alloc _) (by rw [HZ8.out]; kernel_rfl) (by rw [HZ8.out]; rfl) (bytes_one _ _) ?_) | (refine wpList_store_row rfl 75 (.tmp 15) (.tmp 68) rfl (w7.heap.size + 1) (byteCells (byteAt h2) 8).toArray rfl rfl 75 _ ((setRow_other _ _ _ _ (by omega)).trans (whole_new _ _ (by simp))) (by rw [HZ8.out]; kernel_rfl) (by rw [HZ8.out]; rfl) (bytes_one _ _) ?_))
  try simp only [Act.put]
  refine cut_world (fun W => Whole W (B + 1) 25 (byteCells (fun _ => 0) 16).toArray ∧ Whole W E 25 (byteCells (fun _ => 0) 16).toArray ∧ Whole W w7.heap.size 75 (byteCells (byteAt l2) 8).toArray ∧ Whole W (w7.heap.size + 1) 75 (byteCells (byteAt h2) 8).toArray ∧ E < w7.heap.size ∧ Below B w W) ⟨?_, ?_, ?_, ?_, by omega, ?_⟩ ?_
  · exact (setRow_other _ _ _ _ (by omega)).trans ((setRow_other _ _ _ _ (by omega)).trans ((M2.out.alloc _).alloc _))
  · exact (setRow_other _ _ _ _ (by omega)).trans ((setRow_other _ _ _ _ (by omega)).trans ((M3.out.alloc _).alloc _))
  · exact (setRow_other _ _ _ _ (by omega)).trans (setRow_heap _ _ _ _ _ _ ((Whole.new _ _ _).alloc _))
  · exact setRow_heap _ _ _ _ _ _ ((setRow_other _ _ _ _ (by omega)).trans (whole_new _ _ (by simp)))
  · exact below_setRow (below_setRow ((MB.out.alloc (by omega) _).alloc (by simp; omega) _) (by omega) _) (by omega) _
  rintro W4 ⟨k2, k3, k4, k5, hF, kb⟩
  have K2 := Lib.hid k2
  have K3 := Lib.hid k3
  have K5 := Lib.hid k5
  have K4 := Lib.hid k4
  have KB := Lib.hid kb
  have K3D := Lib.hid (show Whole W4.drew E 25 (byteCells (fun _ => 0) 16).toArray from k3.drew)
  have HS := Lib.hid (rd_src (w := W4.drew) (b := w7.heap.size) (off := 0) (n := 8) (f := byteAt l2) (fun i hi => k4.drew.bytes i hi))
  have hl9 := k5.lt
  clear k2 k3 k4 k5 kb M2 M3 MB hl3 hl6 hl7 HZ8
  generalize w7.heap.size = F at K5 K4 HS hF hl9 ⊢
  go_region_law (refine step_copy_grown rfl (.tmp 69) (.tmp 70) 23 23 rfl 5 rfl (by kernel_rfl) E 0 8 16 ⟨F, 0, none⟩ 8 8 rfl rfl (byteCells (fun _ => 0) 16) 25 K3D.out (byteCells (byteAt l2) 8) (by rw [byteCells_length]; rfl) HS.out (by rw [byteCells_length, byteCells_length]; omega) (bytes_each _ _) ?_; intro w8 hg8 hb8)
  have L3 := Lib.hid (show Whole w8 E 25 (byteCells (fun i => if i < 8 then byteAt l2 i else 0) 16).toArray from by
    have h := hg8.out
    rw [byteCells_splice (fun _ => 0) (byteAt l2) (fun i => if i < 8 then byteAt l2 i else 0) 16 0 8 (by omega) (fun i hi => by
      by_cases l : i < 8
      · rw [if_pos l, if_pos ⟨by omega, by omega⟩, Nat.sub_zero]
      · rw [if_neg l, if_neg (by omega)])] at h
    exact h)
  have L2 := Lib.hid (whole_grown (w := w8) K2.out.drew hb8 (by omega))
  have L5 := whole_grown (w := w8) K5.out.drew hb8 (by omega)
  have LB := Lib.hid (below_grown (below_drewN KB.out 1) hb8 (by omega) (by show B ≤ W4.heap.size; omega))
  have L3D := Lib.hid (show Whole w8.drew E 25 (byteCells (fun i => if i < 8 then byteAt l2 i else 0) 16).toArray from L3.out.drew)
  have HS2 := Lib.hid (rd_src (w := w8.drew) (b := F + 1) (off := 0) (n := 8) (f := byteAt h2) (fun i hi => L5.drew.bytes i hi))
  have hl8 := hb8.size
  clear hg8 hb8 K2 K3 K4 K5 KB K3D HS L5
  go_wp2_with fail
  go_region_law (refine step_copy_grown rfl (.tmp 72) (.tmp 73) 23 23 rfl 5 rfl (by kernel_rfl) E 8 8 8 ⟨F + 1, 0, none⟩ 8 8 rfl rfl (byteCells (fun i => if i < 8 then byteAt l2 i else 0) 16) 25 L3D.out (byteCells (byteAt h2) 8) (by rw [byteCells_length]; rfl) HS2.out (by rw [byteCells_length, byteCells_length]; omega) (bytes_each _ _) ?_; intro w9 hg9 hb9)
  have M3 := Lib.hid (show Whole w9 E 25 (byteCells (tag V key) 16).toArray from by
    have h := hg9.out
    rw [byteCells_splice (fun i => if i < 8 then byteAt l2 i else 0) (byteAt h2) (tag V key) 16 8 8 (by omega) (fun i hi => by
      rw [HTAG.out i hi]
      by_cases l : i < 8
      · rw [if_pos l, if_neg (by omega), if_pos l]
      · rw [if_neg l, if_pos ⟨by omega, by omega⟩])] at h
    exact h)
  have M2 := Lib.hid (whole_grown (w := w9) L2.out.drew hb9 (by omega))
  have MB := Lib.hid (below_grown (below_drewN LB.out 1) hb9 (by omega) (by show B ≤ w8.heap.size; have : W4.drew.heap.size = W4.heap.size := rfl; omega))
  clear hg9 hb9 L2 L3 LB L3D HS2 HTAG
  go_wp2_with (first | (refine wpList_load_row rfl 25 (.tmp 13) rfl E rfl 25 (byteCells (tag V key) 16).toArray (0, 0) _ M3.out rfl rfl (by rw [HZ16.out]; kernel_rfl) ?_) | (refine wpList_store_row rfl 25 (.tmp 4) (.tmp 75) rfl (B + 1) (byteCells (tag V key) 16).toArray rfl rfl 25 _ M2.out (by rw [HZ16.out]; kernel_rfl) (by rw [HZ16.out, HZ16.out]) (bytes_one _ _) ?_))
  have hret : Whole (w9.setRow (B + 1) (byteCells (tag V key) 16).toArray) (B + 1) 25 (byteCells (tag V key) 16).toArray := setRow_heap w9 _ _ _ _ _ M2.out
  refine bodyPost_ret (results_cell_row rfl _ _ (B + 1) 25 _ (0, 0) _ rfl hret rfl rfl (by rw [HZ16.out]; kernel_rfl)) rfl ?_
  exact ⟨by rw [HV.out], by rw [hB]; exact below_setRow MB.out (by omega) _⟩

end Poly
end Go.Proofs.Ytdffbjlbhjppeaa
