/- The calls none and bytes of package blake. -/
import Derived.Test.YtcoppcididemkaaDoorBlakeTake
namespace Go.Proofs.YtcoppcididemkaaDoor
namespace Blake
open Go.ChangeShapes Go.WideShapes Go.ChangeAt Go.RowKit
open Num Mem Words State Chacha Quiet

set_option maxRecDepth 100000 in
theorem none_nil (w : World) : Calls Tryd.prog 16 #[.pointer none] w fun e w' => e = .returned (.bool true) ∧ w = w' := by
  go_enter Tryd.func16, Tryd.ntmps16
  go_wp2_with fail
  go_ret
  exact ⟨rfl, rfl⟩

set_option maxRecDepth 100000 in
theorem none_any (g size : Nat) (w : World) (hc : w.cell? ⟨g, 0, none⟩ = some (.int .i64 size)) (b : Bool) (hb : b = true ↔ size = 0) : Calls Tryd.prog 16 #[.pointer (some ⟨g, 0, none⟩)] w fun e w' => e = .returned (.bool b) ∧ w = w' := by
  by_cases h : size = 0
  · subst h
    obtain rfl : b = true := hb.2 rfl
    clear hb
    go_enter Tryd.func16, Tryd.ntmps16
    go_wp2_with fail
    go_ret
    exact ⟨rfl, rfl⟩
  · obtain rfl : b = false := by
      rcases b with _ | _
      · rfl
      · exact absurd (hb.1 rfl) h
    have d : ((size : Int) == 0) = false := by
      rw [beq_eq_false_iff_ne]
      omega
    clear hb h
    go_enter Tryd.func16, Tryd.ntmps16
    go_wp2_with fail
    go_ret
    exact ⟨rfl, rfl⟩

def part (f : Nat → Nat) (n i : Nat) : Nat := if i < n then f i else 0

set_option maxRecDepth 100000 in
set_option maxHeartbeats 2000000 in
theorem bytes_any (g size filled count : Nat) (S : List Nat) (b : Nat → Nat) (hS : S.length = 8) (hf : Fits S) (w : World) (hw : HashAt w g size S b filled count) :
    Calls Tryd.prog 18 #[.pointer (some ⟨g, 0, none⟩)] w fun e w' => e = .returned (.agg (byteCells (sumAt S) 32).toArray) ∧ Below w.heap.size w w' := by
  have hgl := hw.lt
  have HS := Lib.hid hS
  have HF := Lib.hid hf
  have HW := Lib.hid hw
  have HA := Lib.hid (show ∀ k i, i < 4 → sumAt S (4 * k + i) = byteAt (S.getD k 0) i from fun k i hi => by
    unfold sumAt
    rw [show (4 * k + i) / 4 = k by omega, show (4 * k + i) % 4 = i by omega])
  have HZ32 := Lib.hid (show ∀ f, (byteCells f 32).toArray.size = 32 from fun f => by rw [List.size_toArray, byteCells_length])
  have HZ4 := Lib.hid (show ∀ f, (byteCells f 4).toArray.size = 4 from fun f => by rw [List.size_toArray, byteCells_length])
  clear hS hf hw
  generalize sumAt S = F at HA ⊢
  go_enter Tryd.func18, Tryd.ntmps18
  go_wp2_with fail
  refine cut_world (fun W => HashAt W g size S b filled count ∧ Whole W w.heap.size 34 (byteCells (part F 0) 32).toArray ∧ Whole W (w.heap.size + 1) 34 (byteCells (part F 0) 32).toArray ∧ Below w.heap.size w W) ⟨HW.out.below (below_alloc (below_alloc (Below.refl _ _) _) _) hgl, ?_, ?_, below_alloc (below_alloc (Below.refl _ _) _) _⟩ ?_
  · exact (whole_new _ _ rfl).alloc _
  · exact whole_new _ _ (by simp)
  rintro W ⟨k0, k1, k2, kb⟩
  have K0 := Lib.hid k0
  have K1 := Lib.hid k1
  have K2 := Lib.hid k2
  have KB := Lib.hid kb
  clear k0 k1 k2 kb HW
  generalize hB : w.heap.size = B at K1 K2 KB hgl ⊢
  go_loopw [6] (fun i wr => ∃ k : Nat, k ≤ 8 ∧ i = .int .i64 k ∧ HashAt wr g size S b filled count ∧ Whole wr B 34 (byteCells (part F 0) 32).toArray ∧ Whole wr (B + 1) 34 (byteCells (part F (4 * k)) 32).toArray ∧ Below B w wr) (fun i _ => 8 - (intOf i).toNat)
  case atStart => exact ⟨0, by omega, rfl, K0.out, K1.out, K2.out, KB.out⟩
  case round =>
    obtain ⟨k, hk, rfl, q0, q1, q2, qb⟩ := hrel
    by_cases hlt : k < 8
    · clear K0 K1 K2 KB
      have hki : (k : Int) < 8 := by omega
      have c1 := q0.cell_sum HS.out k hlt
      have K0 := Lib.hid q0
      have K1 := Lib.hid q1
      have K2 := Lib.hid q2
      have KB := Lib.hid qb
      have HAk := Lib.hid (HA.out k)
      have hb := HF.out k
      clear q0 q1 q2 qb
      generalize S.getD k 0 = z at c1 HAk hb
      go_wp2_with fail
      refine (put32_any z hb _).mono ?_
      rintro e w1 ⟨rfl, hb1⟩
      have L0 := Lib.hid (K0.out.below hb1 K0.out.lt)
      have L1 := Lib.hid (K1.out.below hb1 K1.out.lt)
      have L2 := Lib.hid (K2.out.below hb1 K2.out.lt)
      have l2 := K2.out.lt
      have LB := Lib.hid (KB.out.trans (hb1.mono (by omega)))
      have hs := hb1.size
      clear hb1 K0 K1 K2 KB c1
      go_upto_region 6 with (refine wpList_store_row rfl 59 (.tmp 5) (.tmp 15) rfl w1.heap.size (byteCells (byteAt z) 4).toArray rfl rfl 59 _ (Whole.new _ _ _) (by rw [HZ4.out]; kernel_rfl) (by rw [HZ4.out]; rfl) (bytes_one _ _) ?_)
      try simp only [Act.put]
      have hb2 : Below w1.heap.size w1 ((w1.alloc (.cells #[.int .u8 0, .int .u8 0, .int .u8 0, .int .u8 0] 59)).setRow w1.heap.size (byteCells (byteAt z) 4).toArray) := below_setRow (below_alloc (Below.refl _ _) _) (Nat.le_refl _) _
      refine cut_world (fun X => HashAt X g size S b filled count ∧ Whole X B 34 (byteCells (part F 0) 32).toArray ∧ Whole X (B + 1) 34 (byteCells (part F (4 * k)) 32).toArray ∧ Whole X w1.heap.size 59 (byteCells (byteAt z) 4).toArray ∧ Below B w X) ⟨L0.out.below hb2 L0.out.lt, L1.out.below hb2 L1.out.lt, L2.out.below hb2 L2.out.lt, setRow_heap _ _ _ _ _ _ (Whole.new _ _ _), LB.out.trans (hb2.mono (by omega))⟩ ?_
      have l3 := L2.out.lt
      clear hb2 L0 L1 L2 LB l2 hs
      rintro w2 ⟨k0, k1, k2, k3, kb⟩
      have K0 := Lib.hid k0
      have K1 := Lib.hid k1
      have K2 := Lib.hid k2
      have K3 := Lib.hid (row_reads k3)
      have KB := Lib.hid kb
      have lt2 := k3.lt
      clear k0 k1 k2 k3 kb
      generalize w1.heap.size = G at K3 l3 lt2 ⊢
      have hb0 := below_drewN (B := B + 1) (Below.refl (B + 1) w2) 1
      have m1 : IntKind.i64.wrap (4 * (k : Int)) = 4 * (k : Int) := by rw [IntKind.wrap_i64]; omega
      have m2 : (4 * (k : Int)).toNat = 4 * k := by omega
      have m3 : 4 * (k : Int) ≤ 32 := by omega
      have m4 : 0 ≤ 4 * (k : Int) := by omega
      have m5 : ¬ 32 = 4 * k := by omega
      go_wp2_with fail
      go_region_law (refine step_copy_splice rfl (.tmp 18) (.tmp 19) 22 22 rfl 5 rfl (by kernel_rfl) (some ⟨B + 1, 4 * k, none⟩) (some ⟨G, 0, none⟩) (32 - 4 * k) (32 - 4 * k) 4 4 rfl rfl (B + 1) (4 * k) (byteCells (part F (4 * k)) 32) 34 K2.out (byteCells (byteAt z) 4) (by rw [byteCells_length]; exact (Nat.min_eq_left (by omega)).symm) (fun _ => ⟨rfl, _, rfl, K3.out⟩) (by rw [byteCells_length, byteCells_length]; omega) (bytes_each _ _) (B + 1) w2 hb0 (Nat.le_refl _) ?_; intro w5 hg5 hb5)
      have hg5' : Whole w5 (B + 1) 34 (byteCells (part F (4 * (k + 1))) 32).toArray := by
        have h := hg5.out
        rw [byteCells_splice (part F (4 * k)) (byteAt z) (part F (4 * (k + 1))) 32 (4 * k) 4 (by omega) (fun i hi => by
          unfold part
          by_cases c1 : 4 * k ≤ i ∧ i < 4 * k + 4
          · rw [if_pos c1, if_pos (by omega), ← HAk.out (i - 4 * k) (by omega), show 4 * k + (i - 4 * k) = i by omega]
          · rw [if_neg c1]
            by_cases c2 : i < 4 * k
            · rw [if_pos c2, if_pos (by omega)]
            · rw [if_neg c2, if_neg (by omega)])] at h
        exact h
      have R0 := Lib.hid (K0.out.below hb5 (by omega))
      have R1 := Lib.hid (K1.out.below hb5 (by omega))
      have R2 := Lib.hid hg5'
      have RB := Lib.hid (KB.out.trans (hb5.mono (by omega)))
      clear hg5 hg5' hb5 hb0 m1 m2 m3 m4 m5 K0 K1 K2 K3 KB
      go_wp2_with fail
      go_roundw
      case rel => exact ⟨k + 1, by omega, by go_num, R0.out, R1.out, R2.out, RB.out⟩
      case measure => simp [intOf]; omega
    · obtain rfl : k = 8 := by omega
      have hG : byteCells (part F (4 * 8)) 32 = byteCells F 32 := byteCells_congr fun i hi => by
        unfold part
        rw [if_pos hi]
      rw [hG] at q2
      clear K0 K1 K2 KB hk hlt q0 hG
      have K1 := Lib.hid q1
      have K2 := Lib.hid q2
      have KB := Lib.hid (below_setRow qb (Nat.le_refl B) (byteCells F 32).toArray)
      clear q1 q2 qb
      have hnl : ¬ ((8 : Nat) : Int) < 8 := by omega
      go_wp2_with (first | (refine wpList_load_row rfl 34 (.tmp 3) rfl (B + 1) rfl 34 (byteCells F 32).toArray (0, 0) _ K2.out rfl rfl (by rw [HZ32.out]; kernel_rfl) ?_) | (refine wpList_store_row rfl 34 (.tmp 2) (.tmp 22) rfl B (byteCells F 32).toArray rfl rfl 34 _ K1.out (by rw [HZ32.out]; kernel_rfl) (by rw [HZ32.out, HZ32.out]) (bytes_one _ _) ?_))
      have hret : Whole (wr.setRow B (byteCells F 32).toArray) B 34 (byteCells F 32).toArray := setRow_heap wr _ _ _ _ _ K1.out
      refine bodyPost_ret (results_cell_row rfl _ _ B 34 _ (0, 0) _ rfl hret rfl rfl (by rw [HZ32.out]; kernel_rfl)) rfl ?_
      exact ⟨rfl, KB.out⟩

end Blake
end Go.Proofs.YtcoppcididemkaaDoor
