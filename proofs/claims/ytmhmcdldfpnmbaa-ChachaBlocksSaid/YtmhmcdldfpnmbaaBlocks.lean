/- 'aditlaw02.ChachaBlocks' returns true at every input and writes nothing that was there: the walk. No condition. -/
import Derived.Test.YtmhmcdldfpnmbaaDer
import Derived.Test.YtmhmcdldfpnmbaaTwice
namespace Go.Proofs.Ytmhmcdldfpnmbaa
namespace ChachaBlocks
open Go.ChangeShapes Go.WideShapes Go.ChangeAt Go.RowKit
open Num Mem Words State Quiet Chacha Ref

set_option maxRecDepth 100000 in
set_option maxHeartbeats 1000000 in
theorem run (key nonce long : Nat → Nat) (hk : ∀ i, key i < 256) (hno : ∀ i, nonce i < 256) (hlo : ∀ i, long i < 256) (ctr : Nat) (hc : ctr < 4294967296) (w : World) :
    Calls Try.prog 9 #[.agg (byteCells key 32).toArray, .agg (byteCells nonce 12).toArray, .int .u32 ctr, .agg (byteCells long 16).toArray] w fun e w' => e = .returned (.bool true) ∧ Below w.heap.size w w' := by
  have HK := Lib.hid hk
  have HN := Lib.hid hno
  have HL := Lib.hid hlo
  have HCW := Lib.hid (show IntKind.u64.wrap ((ctr : Nat) : Int) = ((ctr : Nat) : Int) by rw [IntKind.wrap_u64]; omega)
  clear hk hno hlo
  rw [byteCells_lit32, byteCells_lit12, byteCells_lit16]
  go_enter Try.func9, Try.ntmps9
  go_upto_region 1 with fail
  rw [← byteCells_lit32, ← byteCells_lit12, ← byteCells_lit16]
  refine cut_world (fun W => Whole W w.heap.size 53 (byteCells key 32).toArray ∧ Whole W (w.heap.size + 1) 54 (byteCells nonce 12).toArray ∧ Whole W (w.heap.size + 1 + 1) 55 (byteCells long 16).toArray ∧ Below w.heap.size w W) ⟨?_, ?_, ?_, ?_⟩ ?_
  · exact ((whole_new _ _ rfl).alloc _).alloc _
  · exact (whole_new _ _ (by simp)).alloc _
  · exact whole_new _ _ (by simp)
  · exact below_alloc (below_alloc (below_alloc (Below.refl _ _) _) _) _
  rintro W ⟨k1, k2, k3, kb⟩
  have K1 := Lib.hid k1
  have K2 := Lib.hid k2
  have K3 := Lib.hid k3
  have KB := Lib.hid kb
  clear k1 k2 k3 kb
  generalize hB : w.heap.size = B at K1 K2 K3 KB ⊢
  go_wp2_with (first | (refine wpList_load_row rfl 53 (.tmp 4) rfl B rfl 53 (byteCells key 32).toArray (0, 0) _ K1.out rfl rfl (by kernel_rfl) ?_) | (refine wpList_load_row rfl 54 (.tmp 5) rfl (B + 1) rfl 54 (byteCells nonce 12).toArray (0, 0) _ K2.out rfl rfl (by kernel_rfl) ?_))
  refine (block_any key nonce HK.out HN.out ctr hc _).mono ?_
  rintro e w1 ⟨rfl, hb1⟩
  have hz64 : (byteCells (blk key nonce ctr) 64).toArray.size = 64 := by rw [List.size_toArray, byteCells_length]
  have HZ64 := Lib.hid hz64
  have P1 := Lib.hid (K1.out.below hb1 K1.out.lt)
  have P2 := Lib.hid (K2.out.below hb1 K2.out.lt)
  have P3 := Lib.hid (K3.out.below hb1 K3.out.lt)
  have PB := Lib.hid (KB.out.trans (hb1.mono (by have := K1.out.lt; omega)))
  have l3 := P3.out.lt
  clear hb1 K1 K2 K3 KB hz64
  go_upto_region 2 with (refine wpList_store_row rfl 56 (.tmp 9) (.tmp 14) rfl w1.heap.size (byteCells (blk key nonce ctr) 64).toArray rfl rfl 56 _ (Whole.new _ _ _) (by rw [HZ64.out]; kernel_rfl) (by rw [HZ64.out]; rfl) (bytes_one _ _) ?_)
  refine cut_world (fun X => Whole X B 53 (byteCells key 32).toArray ∧ Whole X (B + 1) 54 (byteCells nonce 12).toArray ∧ Whole X (B + 1 + 1) 55 (byteCells long 16).toArray ∧ Whole X w1.heap.size 56 (byteCells (blk key nonce ctr) 64).toArray ∧ Below B w X) ⟨Whole.farRow (P1.out.alloc _) (Nat.ne_of_lt P1.out.lt) _, Whole.farRow (P2.out.alloc _) (Nat.ne_of_lt P2.out.lt) _, Whole.farRow (P3.out.alloc _) (Nat.ne_of_lt P3.out.lt) _, setRow_heap _ _ _ _ _ _ (Whole.new _ _ _), below_setRow (below_alloc' PB.out (by omega) _) (by omega) _⟩ ?_
  rintro X ⟨x1, x2, x3, x4, xb⟩
  have X1 := Lib.hid x1
  have X2 := Lib.hid x2
  have X3 := Lib.hid x3
  have X4 := Lib.hid x4
  have XB := Lib.hid xb
  clear x1 x2 x3 x4 xb P1 P2 P3 PB HZ64
  generalize w1.heap.size = g9 at X4 l3 ⊢
  go_wp2_with (first | (refine wpList_load_row rfl 53 (.tmp 4) rfl B rfl 53 (byteCells key 32).toArray (0, 0) _ X1.out rfl rfl (by kernel_rfl) ?_) | (refine wpList_load_row rfl 55 (.tmp 7) rfl (B + 1 + 1) rfl 55 (byteCells long 16).toArray (0, 0) _ X3.out rfl rfl (by kernel_rfl) ?_))
  refine (derive_any key long HK.out HL.out _).mono ?_
  rintro e w2 ⟨rfl, hb2⟩
  have hz32 : (byteCells (der key long) 32).toArray.size = 32 := by rw [List.size_toArray, byteCells_length]
  have HZ32 := Lib.hid hz32
  have P1 := Lib.hid (X1.out.below hb2 X1.out.lt)
  have P2 := Lib.hid (X2.out.below hb2 X2.out.lt)
  have P3 := Lib.hid (X3.out.below hb2 X3.out.lt)
  have P4 := Lib.hid (X4.out.below hb2 X4.out.lt)
  have PB := Lib.hid (XB.out.trans (hb2.mono (by have := X1.out.lt; omega)))
  have l4 := P4.out.lt
  clear hb2 X1 X2 X3 X4 XB hz32
  go_upto_region 3 with (refine wpList_store_row rfl 53 (.tmp 10) (.tmp 17) rfl w2.heap.size (byteCells (der key long) 32).toArray rfl rfl 53 _ (Whole.new _ _ _) (by rw [HZ32.out]; kernel_rfl) (by rw [HZ32.out]; rfl) (bytes_one _ _) ?_)
  refine cut_world (fun X => Whole X B 53 (byteCells key 32).toArray ∧ Whole X (B + 1) 54 (byteCells nonce 12).toArray ∧ Whole X (B + 1 + 1) 55 (byteCells long 16).toArray ∧ Whole X g9 56 (byteCells (blk key nonce ctr) 64).toArray ∧ Whole X w2.heap.size 53 (byteCells (der key long) 32).toArray ∧ Below B w X) ⟨Whole.farRow (P1.out.alloc _) (Nat.ne_of_lt P1.out.lt) _, Whole.farRow (P2.out.alloc _) (Nat.ne_of_lt P2.out.lt) _, Whole.farRow (P3.out.alloc _) (Nat.ne_of_lt P3.out.lt) _, Whole.farRow (P4.out.alloc _) (Nat.ne_of_lt P4.out.lt) _, setRow_heap _ _ _ _ _ _ (Whole.new _ _ _), below_setRow (below_alloc' PB.out (by omega) _) (by omega) _⟩ ?_
  rintro Y ⟨x1, x2, x3, x4, x5, xb⟩
  have S1 := Lib.hid x1
  have S2 := Lib.hid x2
  have S3 := Lib.hid x3
  have S9 := Lib.hid x4
  have S10 := Lib.hid x5
  have SB := Lib.hid xb
  have ly := x5.lt
  clear x1 x2 x3 x4 x5 xb P1 P2 P3 P4 PB HZ32
  generalize w2.heap.size = g10 at S10 l4 ly ⊢
  refine region_start (fun w' => Below Y.heap.size Y w') (by kernel_rfl) (below_drewN (Below.refl _ _) 1) ?_
  intro w4 hS
  refine alone 0 rfl (by kernel_rfl) (by rfl) ?_
  intro K hK
  go_simp
  refine (alive_any _).mono ?_
  rintro e w5 ⟨rfl, hb⟩
  go_simp
  replace hS := below_trans hS hb
  refine hK.out _ _ hS ?_
  clear hK hb K
  try simp only [Act.put, List.setIfInBounds_toArray, List.set_cons_zero, List.set_cons_succ]
  refine take 1 _ rfl (by kernel_rfl) (by kernel_rfl) (by kernel_rfl) (fun _ _ _ h => h) (by rfl) hS (by intro w _; go_simp; with_reducible rfl) ?_
  try simp only [Act.put, List.setIfInBounds_toArray, List.set_cons_zero, List.set_cons_succ]
  refine take 2 _ rfl (by kernel_rfl) (by kernel_rfl) (by kernel_rfl) (fun _ _ _ h => h) (by rfl) hS (by intro w _; go_simp; with_reducible rfl) ?_
  try simp only [Act.put, List.setIfInBounds_toArray, List.set_cons_zero, List.set_cons_succ]
  refine take 3 _ rfl (by kernel_rfl) (by kernel_rfl) (by kernel_rfl) (fun _ _ _ h => h) (by rfl) hS (fun w hw => run_string_op 22 9 5 _ rfl rfl Try.underlying22 Try.underlying5 Try.underlying9 (Rd.of_whole (S9.out.below hw S9.out.lt))) ?_
  try simp only [Act.put, List.setIfInBounds_toArray, List.set_cons_zero, List.set_cons_succ]
  refine take 4 _ rfl (by kernel_rfl) (by kernel_rfl) (by kernel_rfl) (fun _ _ _ h => h) (by rfl) hS (by intro w _; go_simp; with_reducible rfl) ?_
  try simp only [Act.put, List.setIfInBounds_toArray, List.set_cons_zero, List.set_cons_succ]
  refine take 5 _ rfl (by kernel_rfl) (by kernel_rfl) (by kernel_rfl) (fun _ _ _ h => h) (by rfl) hS (by intro w _; go_simp; with_reducible rfl) ?_
  try simp only [Act.put, List.setIfInBounds_toArray, List.set_cons_zero, List.set_cons_succ]
  refine take 6 _ rfl (by kernel_rfl) (by kernel_rfl) (by kernel_rfl) (fun _ _ _ h => h) (by rfl) hS (by intro w _; go_simp; with_reducible rfl) ?_
  try simp only [Act.put, List.setIfInBounds_toArray, List.set_cons_zero, List.set_cons_succ]
  refine take 7 _ rfl (by kernel_rfl) (by kernel_rfl) (by kernel_rfl) (fun _ _ _ h => h) (by rfl) hS (by intro w _; go_simp; with_reducible rfl) ?_
  try simp only [Act.put, List.setIfInBounds_toArray, List.set_cons_zero, List.set_cons_succ]
  rw [HCW.out]
  refine alone 8 rfl (by kernel_rfl) (by rfl) ?_
  intro K hK
  go_simp
  refine (block_ref B 0 32 (B + 1) 0 12 key nonce HK.out HN.out ctr hc (by omega) (by omega) _ (by have := hS.size; omega) (by have := hS.size; omega) (fun i hi => (S1.out.below hS S1.out.lt).bytes i hi) (fun i hi => (S2.out.below hS S2.out.lt).bytes i hi)).mono ?_
  rintro e w6 ⟨g6, d6, rfl, ho6, hb⟩
  have HR6 := Lib.hid (Own.rd ho6)
  clear ho6
  go_simp
  replace hS := below_trans hS hb
  refine hK.out _ _ hS ?_
  clear hK hb K
  try simp only [Act.put, List.setIfInBounds_toArray, List.set_cons_zero, List.set_cons_succ]
  refine alone_run 9 _ rfl (by kernel_rfl) (by rfl) hS (run_string_op 22 9 5 _ rfl rfl Try.underlying22 Try.underlying5 Try.underlying9 (HR6.out)) ?_
  try simp only [Act.put, List.setIfInBounds_toArray, List.set_cons_zero, List.set_cons_succ]
  refine take 10 _ rfl (by kernel_rfl) (by kernel_rfl) (by kernel_rfl) (fun _ _ _ h => h) (by rfl) hS (by intro w _; go_simp; with_reducible rfl) ?_
  try simp only [Act.put, List.setIfInBounds_toArray, List.set_cons_zero, List.set_cons_succ]
  refine take 11 _ rfl (by kernel_rfl) (by kernel_rfl) (by kernel_rfl) (fun _ _ _ h => h) (by rfl) hS (by intro w _; go_simp; with_reducible rfl) ?_
  try simp only [Act.put, List.setIfInBounds_toArray, List.set_cons_zero, List.set_cons_succ]
  refine take 12 _ rfl (by kernel_rfl) (by kernel_rfl) (by kernel_rfl) (fun _ _ _ h => h) (by rfl) hS (by intro w _; go_simp; with_reducible rfl) ?_
  try simp only [Act.put, List.setIfInBounds_toArray, List.set_cons_zero, List.set_cons_succ]
  refine take 13 _ rfl (by kernel_rfl) (by kernel_rfl) (by kernel_rfl) (fun _ _ _ h => h) (by rfl) hS (by intro w _; go_simp; with_reducible rfl) ?_
  try simp only [Act.put, List.setIfInBounds_toArray, List.set_cons_zero, List.set_cons_succ]
  refine take 14 _ rfl (by kernel_rfl) (by kernel_rfl) (by kernel_rfl) (fun _ _ _ h => h) (by rfl) hS (fun w hw => run_string_op 22 9 5 _ rfl rfl Try.underlying22 Try.underlying5 Try.underlying9 (Rd.of_whole (S10.out.below hw S10.out.lt))) ?_
  try simp only [Act.put, List.setIfInBounds_toArray, List.set_cons_zero, List.set_cons_succ]
  refine take 15 _ rfl (by kernel_rfl) (by kernel_rfl) (by kernel_rfl) (fun _ _ _ h => h) (by rfl) hS (by intro w _; go_simp; with_reducible rfl) ?_
  try simp only [Act.put, List.setIfInBounds_toArray, List.set_cons_zero, List.set_cons_succ]
  refine take 16 _ rfl (by kernel_rfl) (by kernel_rfl) (by kernel_rfl) (fun _ _ _ h => h) (by rfl) hS (by intro w _; go_simp; with_reducible rfl) ?_
  try simp only [Act.put, List.setIfInBounds_toArray, List.set_cons_zero, List.set_cons_succ]
  refine alone 17 rfl (by kernel_rfl) (by rfl) ?_
  intro K hK
  go_simp
  refine (derive_ref B 0 32 (B + 1 + 1) 0 16 key long HK.out HL.out (by omega) (by omega) (by omega) (by omega) _ (by have := hS.size; omega) (by have := hS.size; omega) (fun i hi => (S1.out.below hS S1.out.lt).bytes i hi) (fun i hi => (S3.out.below hS S3.out.lt).bytes i hi)).mono ?_
  rintro e w7 ⟨A7, d7, rfl, hr7, hb⟩
  have HR7 := Lib.hid hr7
  clear hr7
  go_simp
  replace hS := below_trans hS hb
  refine hK.out _ _ hS ?_
  clear hK hb K
  try simp only [Act.put, List.setIfInBounds_toArray, List.set_cons_zero, List.set_cons_succ]
  refine alone_run 18 _ rfl (by kernel_rfl) (by rfl) hS (run_string_op 22 9 5 _ rfl rfl Try.underlying22 Try.underlying5 Try.underlying9 (HR7.out)) ?_
  try simp only [Act.put, List.setIfInBounds_toArray, List.set_cons_zero, List.set_cons_succ]
  refine take 19 _ rfl (by kernel_rfl) (by kernel_rfl) (by kernel_rfl) (fun _ _ _ h => h) (by rfl) hS (by intro w _; go_simp; with_reducible rfl) ?_
  try simp only [Act.put, List.setIfInBounds_toArray, List.set_cons_zero, List.set_cons_succ]
  refine take 20 _ rfl (by kernel_rfl) (by kernel_rfl) (by kernel_rfl) (fun _ _ _ h => h) (by rfl) hS (by intro w _; go_simp; with_reducible rfl) ?_
  try simp only [Act.put, List.setIfInBounds_toArray, List.set_cons_zero, List.set_cons_succ]
  refine take 21 _ rfl (by kernel_rfl) (by kernel_rfl) (by kernel_rfl) (fun _ _ _ h => h) (by rfl) hS (by intro w _; go_simp; with_reducible rfl) ?_
  try simp only [Act.put, List.setIfInBounds_toArray, List.set_cons_zero, List.set_cons_succ]
  refine region_end (by kernel_rfl) ?_
  have HB8 := Lib.hid (SB.out.trans (hS.mono (by omega)))
  clear hS
  go_wp2_with fail
  go_ret
  exact ⟨rfl, by rw [hB]; exact HB8.out⟩

theorem walk (key nonce : Nat → Nat) (a2 : Int) (long : Nat → Nat) (w : World) (w0 : ∀ i, key i < 256) (w1 : ∀ i, nonce i < 256) (w2 : (Lit.int .u32 a2).wf = true) (w3 : ∀ i, long i < 256) :
    Calls Try.prog 9 #[.agg (byteCells key 32).toArray, .agg (byteCells nonce 12).toArray, .int .u32 a2, .agg (byteCells long 16).toArray] w fun e w' => e = .returned (.bool true) ∧ Below w.heap.size w w' := by
  obtain ⟨ctr, rfl, hc⟩ := nat_u32 w2
  exact run key nonce long w0 w1 w3 ctr hc w

end ChachaBlocks
end Go.Proofs.Ytmhmcdldfpnmbaa
