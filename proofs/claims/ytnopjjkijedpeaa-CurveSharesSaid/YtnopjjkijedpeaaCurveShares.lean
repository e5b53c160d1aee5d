/- The walk of 'CurveShares'. -/
import Derived.Test.YtnopjjkijedpeaaRefShare
namespace Go.Proofs.Ytnopjjkijedpeaa
namespace CurveShares
open Go.ChangeShapes Go.WideShapes Go.ChangeAt Go.RowKit
open Num Mem Words Radix FieldN Chacha Quiet Go.Proofs.Ytnopjjkijedpeaa.Field Edwards Curve

set_option maxRecDepth 100000 in
set_option maxHeartbeats 4000000 in
theorem core (s f m0 : Nat → Nat) (z : Int) (w : World) (HM : Gives 36 #[B32 s, B32 f] (.tuple #[B32 m0, .int .i64 z]))
    (RM : ∀ v, Rd v (some ⟨w.heap.size, 0, none⟩) 32 s → Rd v (some ⟨w.heap.size + 1, 0, none⟩) 32 f → Calls Try.prog 37 #[.slice (some ⟨w.heap.size, 0, none⟩) 32 32, .slice (some ⟨w.heap.size + 1, 0, none⟩) 32 32] v fun e w' => ∃ A2 c2, e = .returned (.tuple #[.slice A2 32 c2, .int .i64 z]) ∧ Own w' v.heap.size 5 A2 32 c2 m0 ∧ Below v.heap.size v w') :
    Calls Try.prog 6 #[B32 s, B32 f] w fun e w' => e = .returned (.bool true) ∧ Below w.heap.size w w' := by
  replace HM := Lib.hid HM
  replace RM := Lib.hid RM
  have HZ := Lib.hid (show ∀ f, (byteCells f 32).toArray.size = 32 from fun f => by rw [List.size_toArray, byteCells_length])
  unfold B32
  go_enter Try.func6, Try.ntmps6
  go_upto_region 1 with fail
  refine cut_world (fun W => Whole W w.heap.size 22 (byteCells s 32).toArray ∧ Whole W (w.heap.size + 1) 22 (byteCells f 32).toArray ∧ Below w.heap.size w W) ⟨?_, ?_, ?_⟩ ?_
  · exact (whole_new _ _ (by simp)).alloc _
  · exact whole_new _ _ (by simp)
  · exact below_alloc (below_alloc (Below.refl _ _) _) _
  rintro W ⟨k1, k2, kb⟩
  have K1 := Lib.hid k1
  have K2 := Lib.hid k2
  have KB := Lib.hid kb
  clear k1 k2 kb
  generalize hB : w.heap.size = B at K1 K2 KB RM ⊢
  go_wp2_with (first | (refine wpList_load_row rfl 22 (.tmp 2) rfl (B) rfl 22 (byteCells s 32).toArray (0, 0) _ K1.out rfl rfl (by rw [HZ.out]; kernel_rfl) ?_) | (refine wpList_load_row rfl 22 (.tmp 3) rfl (B + 1) rfl 22 (byteCells f 32).toArray (0, 0) _ K2.out rfl rfl (by rw [HZ.out]; kernel_rfl) ?_))
  refine (HM.out _).mono ?_
  rintro e v ⟨rfl, hb⟩
  have l1 := K1.out.lt
  have l2 := K2.out.lt
  replace K1 := Lib.hid (K1.out.below hb l1)
  replace K2 := Lib.hid (K2.out.below hb l2)
  replace KB := Lib.hid (KB.out.trans (hb.mono (by omega)))
  have hsz := hb.size
  clear hb
  go_upto_region 2 with (refine wpList_store_row rfl 22 (.tmp 5) (.tmp 13) rfl v.heap.size (byteCells m0 32).toArray rfl rfl 22 _ (Whole.new _ _ _) (by rw [HZ.out]; kernel_rfl) (by rw [HZ.out]; rfl) (bytes_one _ _) ?_)
  refine cut_world (fun X => Whole X B 22 (byteCells s 32).toArray ∧ Whole X (B + 1) 22 (byteCells f 32).toArray ∧ Whole X v.heap.size 22 (byteCells m0 32).toArray ∧ Below B w X ∧ B ≤ v.heap.size) ⟨Whole.farRow (K1.out.alloc _) (by omega) _, Whole.farRow (K2.out.alloc _) (by omega) _, setRow_heap _ _ _ _ _ _ (Whole.new _ _ _), below_setRow (KB.out.alloc (by omega) _) (by omega) _, by omega⟩ ?_
  clear K1 K2 KB l1 l2 hsz
  generalize v.heap.size = b5
  rintro V ⟨k1, k2, k5, kb, lo5⟩
  have hV : B ≤ V.heap.size := by have := Whole.lt k5; omega
  have RS := Lib.hid (Rd.of_whole k1)
  have RF := Lib.hid (Rd.of_whole k2)
  have RD5 := Lib.hid (Rd.of_whole k5)
  have KB := Lib.hid kb
  clear k1 k2 k5 kb
  refine region_drew (fun x => Below V.heap.size V x) (by kernel_rfl) (Below.drew (Below.refl _ _)) ?_
  intro hS
  refine take 0 _ rfl (by kernel_rfl) (by kernel_rfl) (by kernel_rfl) (fun _ _ _ h => h) (by rfl) hS (by intro w _; go_simp; with_reducible rfl) ?_
  try simp only [Act.put, List.setIfInBounds_toArray, List.set_cons_zero, List.set_cons_succ]
  refine take 1 _ rfl (by kernel_rfl) (by kernel_rfl) (by kernel_rfl) (fun _ _ _ h => h) (by rfl) hS (by intro w _; go_simp; with_reducible rfl) ?_
  try simp only [Act.put, List.setIfInBounds_toArray, List.set_cons_zero, List.set_cons_succ]
  refine alone 2 rfl (by kernel_rfl) (by rfl) ?_
  intro K hK
  go_simp
  refine (RM.out _ (RS.out.below hS (Nat.le_refl _)) (RF.out.below hS (Nat.le_refl _))).mono ?_
  rintro e q2 ⟨AC, cc, rfl, oc, hb⟩
  have OC := Lib.hid oc.rd
  clear oc
  go_simp
  replace hS := below_trans hS hb
  refine hK.out _ _ hS ?_
  clear hK hb K
  try simp only [Act.put, List.setIfInBounds_toArray, List.set_cons_zero, List.set_cons_succ]
  refine take 3 _ rfl (by kernel_rfl) (by kernel_rfl) (by kernel_rfl) (fun _ _ _ h => h) (by rfl) hS (by intro w _; go_simp; with_reducible rfl) ?_
  try simp only [Act.put, List.setIfInBounds_toArray, List.set_cons_zero, List.set_cons_succ]
  refine take 4 _ rfl (by kernel_rfl) (by kernel_rfl) (by kernel_rfl) (fun _ _ _ h => h) (by rfl) hS (by intro w _; go_simp; with_reducible rfl) ?_
  try simp only [Act.put, List.setIfInBounds_toArray, List.set_cons_zero, List.set_cons_succ]
  refine take 5 _ rfl (by kernel_rfl) (by kernel_rfl) (by kernel_rfl) (fun _ _ _ h => h) (by rfl) hS (by intro w _; go_simp; with_reducible rfl) ?_
  try simp only [Act.put, List.setIfInBounds_toArray, List.set_cons_zero, List.set_cons_succ]
  refine take 6 _ rfl (by kernel_rfl) (by kernel_rfl) (by kernel_rfl) (fun _ _ _ h => h) (by rfl) hS (by intro w _; go_simp; with_reducible rfl) ?_
  try simp only [Act.put, List.setIfInBounds_toArray, List.set_cons_zero, List.set_cons_succ]
  refine take 7 _ rfl (by kernel_rfl) (by kernel_rfl) (by kernel_rfl) (fun _ _ _ h => h) (by rfl) hS (by intro w _; go_simp; with_reducible rfl) ?_
  try simp only [Act.put, List.setIfInBounds_toArray, List.set_cons_zero, List.set_cons_succ]
  refine region_end (by kernel_rfl) ?_
  refine cut_post (F := Exit.then _ _) (fun Z => Rd Z (some ⟨b5, 0, none⟩) 32 m0 ∧ Rd Z AC 32 m0 ∧ Below B w Z ∧ B ≤ Z.heap.size) ⟨RD5.out.below hS (Nat.le_refl _), OC.out, KB.out.trans (hS.mono hV), Nat.le_trans hV hS.size⟩ ?_
  clear hS RS RF RD5 OC KB hV
  rintro Z ⟨k1, k2, kb, hZ⟩
  have RD5 := Lib.hid k1
  have OC := Lib.hid k2
  have KB := Lib.hid kb
  clear k1 k2 kb
  go_wp2_with fail
  refine region_drew (fun x => Below Z.heap.size Z x) (by kernel_rfl) (Below.drew (Below.refl _ _)) ?_
  intro hS
  refine alone 0 rfl (by kernel_rfl) (by rfl) ?_
  intro K hK
  go_simp
  refine (alive_six _).mono ?_
  rintro e q0 ⟨rfl, hb⟩
  go_simp
  replace hS := below_trans hS hb
  refine hK.out _ _ hS ?_
  clear hK hb K
  try simp only [Act.put, List.setIfInBounds_toArray, List.set_cons_zero, List.set_cons_succ]
  refine take 1 _ rfl (by kernel_rfl) (by kernel_rfl) (by kernel_rfl) (fun _ _ _ h => h) (by rfl) hS (by intro w _; go_simp; with_reducible rfl) ?_
  try simp only [Act.put, List.setIfInBounds_toArray, List.set_cons_zero, List.set_cons_succ]
  refine take 2 _ rfl (by kernel_rfl) (by kernel_rfl) (by kernel_rfl) (fun _ _ _ h => h) (by rfl) hS (by intro w _; go_simp; with_reducible rfl) ?_
  try simp only [Act.put, List.setIfInBounds_toArray, List.set_cons_zero, List.set_cons_succ]
  refine take 3 _ rfl (by kernel_rfl) (by kernel_rfl) (by kernel_rfl) (fun _ _ _ h => h) (by rfl) hS (fun w hw => run_string_op 26 9 5 _ rfl rfl Try.underlying26 Try.underlying5 Try.underlying9 (RD5.out.below hw (Nat.le_refl _))) ?_
  try simp only [Act.put, List.setIfInBounds_toArray, List.set_cons_zero, List.set_cons_succ]
  refine take 4 _ rfl (by kernel_rfl) (by kernel_rfl) (by kernel_rfl) (fun _ _ _ h => h) (by rfl) hS (by intro w _; go_simp; with_reducible rfl) ?_
  try simp only [Act.put, List.setIfInBounds_toArray, List.set_cons_zero, List.set_cons_succ]
  refine take 5 _ rfl (by kernel_rfl) (by kernel_rfl) (by kernel_rfl) (fun _ _ _ h => h) (by rfl) hS (fun w hw => run_string_op 26 9 5 _ rfl rfl Try.underlying26 Try.underlying5 Try.underlying9 (OC.out.below hw (Nat.le_refl _))) ?_
  try simp only [Act.put, List.setIfInBounds_toArray, List.set_cons_zero, List.set_cons_succ]
  refine take 6 _ rfl (by kernel_rfl) (by kernel_rfl) (by kernel_rfl) (fun _ _ _ h => h) (by rfl) hS (by intro w _; go_simp; with_reducible rfl) ?_
  try simp only [Act.put, List.setIfInBounds_toArray, List.set_cons_zero, List.set_cons_succ]
  refine take 7 _ rfl (by kernel_rfl) (by kernel_rfl) (by kernel_rfl) (fun _ _ _ h => h) (by rfl) hS (by intro w _; go_simp; with_reducible rfl) ?_
  try simp only [Act.put, List.setIfInBounds_toArray, List.set_cons_zero, List.set_cons_succ]
  refine take 8 _ rfl (by kernel_rfl) (by kernel_rfl) (by kernel_rfl) (fun _ _ _ h => h) (by rfl) hS (by intro w _; go_simp; with_reducible rfl) ?_
  try simp only [Act.put, List.setIfInBounds_toArray, List.set_cons_zero, List.set_cons_succ]
  refine take 9 _ rfl (by kernel_rfl) (by kernel_rfl) (by kernel_rfl) (fun _ _ _ h => h) (by rfl) hS (by intro w _; go_simp; with_reducible rfl) ?_
  try simp only [Act.put, List.setIfInBounds_toArray, List.set_cons_zero, List.set_cons_succ]
  refine take 10 _ rfl (by kernel_rfl) (by kernel_rfl) (by kernel_rfl) (fun _ _ _ h => h) (by rfl) hS (by intro w _; go_simp; with_reducible rfl) ?_
  try simp only [Act.put, List.setIfInBounds_toArray, List.set_cons_zero, List.set_cons_succ]
  refine take 11 _ rfl (by kernel_rfl) (by kernel_rfl) (by kernel_rfl) (fun _ _ _ h => h) (by rfl) hS (by intro w _; go_simp; with_reducible rfl) ?_
  try simp only [Act.put, List.setIfInBounds_toArray, List.set_cons_zero, List.set_cons_succ]
  refine take 12 _ rfl (by kernel_rfl) (by kernel_rfl) (by kernel_rfl) (fun _ _ _ h => h) (by rfl) hS (by intro w _; go_simp; with_reducible rfl) ?_
  try simp only [Act.put, List.setIfInBounds_toArray, List.set_cons_zero, List.set_cons_succ]
  refine take 13 _ rfl (by kernel_rfl) (by kernel_rfl) (by kernel_rfl) (fun _ _ _ h => h) (by rfl) hS (by intro w _; go_simp; with_reducible rfl) ?_
  try simp only [Act.put, List.setIfInBounds_toArray, List.set_cons_zero, List.set_cons_succ]
  refine region_end (by kernel_rfl) ?_
  have HB9 := Lib.hid (KB.out.trans (hS.mono hZ))
  clear hS
  go_wp2_with fail
  go_ret
  exact ⟨by simp, by rw [hB]; exact HB9.out⟩

theorem walk (s f : Nat → Nat) (w : World) (hs : ∀ i, s i < 256) (hf : ∀ i, f i < 256) :
    Calls Try.prog 6 #[.agg (byteCells s 32).toArray, .agg (byteCells f 32).toArray] w fun e w' => e = .returned (.bool true) ∧ Below w.heap.size w w' := by
  obtain ⟨u, hu⟩ : ∃ u : Fin P, tk f = u.val := ⟨⟨tk f, tk_lt f⟩, rfl⟩
  have hz : decide (mulN s u = 0) = true ↔ mulN s u = 0 := decide_eq_true_iff
  exact core s f _ _ w (shared_any s f hs hf u hu _ hz) (fun v h h' => RefC.shared_ref _ _ 32 32 s f v hs hf h h' u hu _ hz)

end CurveShares
end Go.Proofs.Ytnopjjkijedpeaa
