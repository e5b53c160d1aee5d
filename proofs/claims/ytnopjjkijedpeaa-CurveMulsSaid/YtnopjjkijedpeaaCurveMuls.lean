/- The walk of 'CurveMuls'. -/
import Derived.Test.YtnopjjkijedpeaaRefShare
namespace Go.Proofs.Ytnopjjkijedpeaa
namespace CurveMuls
open Go.ChangeShapes Go.WideShapes Go.ChangeAt Go.RowKit
open Num Mem Words Radix FieldN Chacha Quiet Go.Proofs.Ytnopjjkijedpeaa.Field Edwards Curve

set_option maxRecDepth 100000 in
set_option maxHeartbeats 4000000 in
theorem core (s f c0 m0 p0 : Nat → Nat) (w : World) (HA : Gives 29 #[B32 s] (B32 c0)) (HM : Gives 30 #[B32 s, B32 f] (B32 m0)) (HP : Gives 31 #[B32 s] (B32 p0))
    (RA : ∀ v, Rd v (some ⟨w.heap.size, 0, none⟩) 32 s → Calls Try.prog 33 #[.slice (some ⟨w.heap.size, 0, none⟩) 32 32] v fun e w' => ∃ A2 c2, e = .returned (.slice A2 32 c2) ∧ Own w' v.heap.size 5 A2 32 c2 c0 ∧ Below v.heap.size v w') (RM : ∀ v, Rd v (some ⟨w.heap.size, 0, none⟩) 32 s → Rd v (some ⟨w.heap.size + 1, 0, none⟩) 32 f → Calls Try.prog 34 #[.slice (some ⟨w.heap.size, 0, none⟩) 32 32, .slice (some ⟨w.heap.size + 1, 0, none⟩) 32 32] v fun e w' => ∃ A2 c2, e = .returned (.slice A2 32 c2) ∧ Own w' v.heap.size 5 A2 32 c2 m0 ∧ Below v.heap.size v w') (RP : ∀ v, Rd v (some ⟨w.heap.size, 0, none⟩) 32 s → Calls Try.prog 35 #[.slice (some ⟨w.heap.size, 0, none⟩) 32 32] v fun e w' => ∃ A2 c2, e = .returned (.slice A2 32 c2) ∧ Own w' v.heap.size 5 A2 32 c2 p0 ∧ Below v.heap.size v w') :
    Calls Try.prog 5 #[B32 s, B32 f] w fun e w' => e = .returned (.bool true) ∧ Below w.heap.size w w' := by
  replace HA := Lib.hid HA
  replace HM := Lib.hid HM
  replace HP := Lib.hid HP
  replace RA := Lib.hid RA
  replace RM := Lib.hid RM
  replace RP := Lib.hid RP
  have HZ := Lib.hid (show ∀ f, (byteCells f 32).toArray.size = 32 from fun f => by rw [List.size_toArray, byteCells_length])
  unfold B32
  go_enter Try.func5, Try.ntmps5
  go_upto_region 1 with fail
  refine cut_world (fun W => Whole W w.heap.size 22 (byteCells s 32).toArray ∧ Whole W (w.heap.size + 1) 22 (byteCells f 32).toArray ∧ Below w.heap.size w W) ⟨?_, ?_, ?_⟩ ?_
  · exact (whole_new _ _ (by simp)).alloc _
  · exact whole_new _ _ (by simp)
  · exact below_alloc (below_alloc (Below.refl _ _) _) _
  rintro W ⟨k1, k2, kb⟩
  have K1 := Lib.hid k1
  have K2 := Lib.hid k2
  have KB := Lib.hid kb
  clear k1 k2 kb
  generalize hB : w.heap.size = B at K1 K2 KB RA RM RP ⊢
  refine region_drew (fun _ => True) (by kernel_rfl) trivial ?_
  intro hT
  have hS : Below W.heap.size W W.drew := below_drewN (Below.refl _ _) 1
  refine Float.float (W := W) [(0, 8, .is (B32 s)), (1, 9, .is (B32 c0)), (2, 10, .is (B32 s)), (3, 11, .is (B32 f)), (4, 12, .is (B32 m0)), (5, 13, .is (B32 s)), (6, 14, .is (B32 p0)), (7, 5, .row 22 (byteCells (fun _ => 0) 32).toArray), (8, 6, .row 22 (byteCells (fun _ => 0) 32).toArray), (9, 7, .row 22 (byteCells (fun _ => 0) 32).toArray)] [0, 1, 2, 3, 4, 5, 6, 7, 8, 9] 3 rfl (by rfl) (by kernel_rfl) (by kernel_rfl) (by kernel_rfl) (by kernel_rfl) (by kernel_rfl) (fun γ => rfl) hS (fun _ _ => trivial) ?_ ?_
  · intro γ
    simp only [Float.puts, Act.put, List.setIfInBounds_toArray, List.set_cons_zero, List.set_cons_succ]
    refine ⟨?_, ?_, ?_, ?_, ?_, ?_, ?_, ?_, ?_, ?_, trivial⟩
    · exact ⟨_, _, rfl, Float.does_take (fun w hw => run_load_op 22 (.tmp 2) rfl (B) rfl (K1.out.below hw K1.out.lt) rfl rfl (by rw [HZ.out]; kernel_rfl))⟩
    · exact ⟨_, _, rfl, Float.does_call 29 (#[B32 s]) (by intro w; go_simp; try with_reducible rfl) (fun w hw => HA.out w)⟩
    · exact ⟨_, _, rfl, Float.does_take (fun w hw => run_load_op 22 (.tmp 2) rfl (B) rfl (K1.out.below hw K1.out.lt) rfl rfl (by rw [HZ.out]; kernel_rfl))⟩
    · exact ⟨_, _, rfl, Float.does_take (fun w hw => run_load_op 22 (.tmp 3) rfl (B + 1) rfl (K2.out.below hw K2.out.lt) rfl rfl (by rw [HZ.out]; kernel_rfl))⟩
    · exact ⟨_, _, rfl, Float.does_call 30 (#[B32 s, B32 f]) (by intro w; go_simp; try with_reducible rfl) (fun w hw => HM.out w)⟩
    · exact ⟨_, _, rfl, Float.does_take (fun w hw => run_load_op 22 (.tmp 2) rfl (B) rfl (K1.out.below hw K1.out.lt) rfl rfl (by rw [HZ.out]; kernel_rfl))⟩
    · exact ⟨_, _, rfl, Float.does_call 31 (#[B32 s]) (by intro w; go_simp; try with_reducible rfl) (fun w hw => HP.out w)⟩
    · exact ⟨_, _, rfl, fun w => by go_simp; try rfl⟩
    · exact ⟨_, _, rfl, fun w => by go_simp; try rfl⟩
    · exact ⟨_, _, rfl, fun w => by go_simp; try rfl⟩
  · intro γ v hS hrows hne
    simp only [Float.puts, Act.put, List.setIfInBounds_toArray, List.set_cons_zero, List.set_cons_succ]
    obtain ⟨⟨hge5, hg5⟩, ⟨hge6, hg6⟩, ⟨hge7, hg7⟩, -⟩ := hrows
    have hne5_6 := hne 7 8 rfl rfl (by decide) (by decide) (by decide)
    have hne5_7 := hne 7 9 rfl rfl (by decide) (by decide) (by decide)
    have hne6_7 := hne 8 9 rfl rfl (by decide) (by decide) (by decide)
    clear hne
    generalize γ 7 = b5 at *
    have Hg5 := Lib.hid hg5
    clear hg5
    generalize γ 8 = b6 at *
    have Hg6 := Lib.hid hg6
    clear hg6
    generalize γ 9 = b7 at *
    have Hg7 := Lib.hid hg7
    clear hg7
    clear γ
    have lt_K1 := K1.out.lt
    replace K1 := Lib.hid (K1.out.below hS lt_K1)
    have lt_K2 := K2.out.lt
    replace K2 := Lib.hid (K2.out.below hS lt_K2)
    replace KB := Lib.hid (KB.out.trans (hS.mono (by omega)))
    refine alone 10 rfl (by kernel_rfl) (by rfl) ?_
    intro K hK
    refine wp_store_row 22 (.tmp 5) (.tmp 9) rfl b5 (byteCells c0 32).toArray (by rfl) (by rfl) 22 _ Hg5.out (by rw [HZ.out]; kernel_rfl) (by rw [HZ.out, HZ.out]) (bytes_one _ _) ?_
    refine hK.out _ _ trivial ?_
    clear hK K
    try simp only [Act.put]
    replace K1 := Lib.hid (Whole.farRow K1.out (g := b5) (by omega) (byteCells c0 32).toArray)
    replace K2 := Lib.hid (Whole.farRow K2.out (g := b5) (by omega) (byteCells c0 32).toArray)
    replace Hg6 := Lib.hid (Whole.farRow Hg6.out (g := b5) (by omega) (byteCells c0 32).toArray)
    replace Hg7 := Lib.hid (Whole.farRow Hg7.out (g := b5) (by omega) (byteCells c0 32).toArray)
    replace KB := Lib.hid (below_setRow KB.out (by omega) (g := b5) (byteCells c0 32).toArray)
    replace Hg5 := Lib.hid (setRow_heap _ _ _ (byteCells c0 32).toArray _ _ Hg5.out)
    refine alone 11 rfl (by kernel_rfl) (by rfl) ?_
    intro K hK
    refine wp_store_row 22 (.tmp 6) (.tmp 12) rfl b6 (byteCells m0 32).toArray (by rfl) (by rfl) 22 _ Hg6.out (by rw [HZ.out]; kernel_rfl) (by rw [HZ.out, HZ.out]) (bytes_one _ _) ?_
    refine hK.out _ _ trivial ?_
    clear hK K
    try simp only [Act.put]
    replace K1 := Lib.hid (Whole.farRow K1.out (g := b6) (by omega) (byteCells m0 32).toArray)
    replace K2 := Lib.hid (Whole.farRow K2.out (g := b6) (by omega) (byteCells m0 32).toArray)
    replace Hg5 := Lib.hid (Whole.farRow Hg5.out (g := b6) (by omega) (byteCells m0 32).toArray)
    replace Hg7 := Lib.hid (Whole.farRow Hg7.out (g := b6) (by omega) (byteCells m0 32).toArray)
    replace KB := Lib.hid (below_setRow KB.out (by omega) (g := b6) (byteCells m0 32).toArray)
    replace Hg6 := Lib.hid (setRow_heap _ _ _ (byteCells m0 32).toArray _ _ Hg6.out)
    refine alone 12 rfl (by kernel_rfl) (by rfl) ?_
    intro K hK
    refine wp_store_row 22 (.tmp 7) (.tmp 14) rfl b7 (byteCells p0 32).toArray (by rfl) (by rfl) 22 _ Hg7.out (by rw [HZ.out]; kernel_rfl) (by rw [HZ.out, HZ.out]) (bytes_one _ _) ?_
    refine hK.out _ _ trivial ?_
    clear hK K
    try simp only [Act.put]
    replace K1 := Lib.hid (Whole.farRow K1.out (g := b7) (by omega) (byteCells p0 32).toArray)
    replace K2 := Lib.hid (Whole.farRow K2.out (g := b7) (by omega) (byteCells p0 32).toArray)
    replace Hg5 := Lib.hid (Whole.farRow Hg5.out (g := b7) (by omega) (byteCells p0 32).toArray)
    replace Hg6 := Lib.hid (Whole.farRow Hg6.out (g := b7) (by omega) (byteCells p0 32).toArray)
    replace KB := Lib.hid (below_setRow KB.out (by omega) (g := b7) (byteCells p0 32).toArray)
    replace Hg7 := Lib.hid (setRow_heap _ _ _ (byteCells p0 32).toArray _ _ Hg7.out)
    refine region_end (by kernel_rfl) ?_
    refine cut_post (F := Exit.then _ _) (fun X => Whole X (B) 22 (byteCells s 32).toArray ∧ Whole X (B + 1) 22 (byteCells f 32).toArray ∧ Whole X (b5) 22 (byteCells c0 32).toArray ∧ Whole X (b6) 22 (byteCells m0 32).toArray ∧ Whole X (b7) 22 (byteCells p0 32).toArray ∧ Below B w X ∧ B ≤ X.heap.size) ⟨K1.out, K2.out, Hg5.out, Hg6.out, Hg7.out, KB.out, ?_⟩ ?_
    · have := Whole.lt Hg7.out
      omega
    clear KB hS hT K1 K2 lt_K1 lt_K2 Hg5 Hg6 Hg7 hge5 hge6 hge7
    rintro V ⟨kK1, kK2, kM5, kM6, kM7, kb, hV⟩
    have K1 := Lib.hid kK1
    have K2 := Lib.hid kK2
    have M5 := Lib.hid kM5
    have M6 := Lib.hid kM6
    have M7 := Lib.hid kM7
    have KB := Lib.hid kb
    clear kb kK1 kK2 kM5 kM6 kM7
    have RS := Lib.hid (Rd.of_whole K1.out)
    have RF := Lib.hid (Rd.of_whole K2.out)
    have RD5 := Lib.hid (Rd.of_whole M5.out)
    have RD6 := Lib.hid (Rd.of_whole M6.out)
    have RD7 := Lib.hid (Rd.of_whole M7.out)
    clear K1 K2 M5 M6 M7
    go_wp2_with fail
    refine region_drew (fun x => Below V.heap.size V x) (by kernel_rfl) (Below.drew (Below.refl _ _)) ?_
    intro hS
    refine alone 0 rfl (by kernel_rfl) (by rfl) ?_
    intro K hK
    go_simp
    refine (alive_six _).mono ?_
    rintro e q0 ⟨rfl, hb⟩
    go_simp
    replace hS := below_trans hS hb
    refine hK.out _ _ hS ?_
    clear hK hb K
    try simp only [Act.put, List.setIfInBounds_toArray, List.set_cons_zero, List.set_cons_succ]
    refine take 1 _ rfl (by kernel_rfl) (by kernel_rfl) (by kernel_rfl) (fun _ _ _ h => h) (by rfl) hS (by intro w _; go_simp; with_reducible rfl) ?_
    try simp only [Act.put, List.setIfInBounds_toArray, List.set_cons_zero, List.set_cons_succ]
    refine take 2 _ rfl (by kernel_rfl) (by kernel_rfl) (by kernel_rfl) (fun _ _ _ h => h) (by rfl) hS (by intro w _; go_simp; with_reducible rfl) ?_
    try simp only [Act.put, List.setIfInBounds_toArray, List.set_cons_zero, List.set_cons_succ]
    refine take 3 _ rfl (by kernel_rfl) (by kernel_rfl) (by kernel_rfl) (fun _ _ _ h => h) (by rfl) hS (fun w hw => run_string_op 26 9 5 _ rfl rfl Try.underlying26 Try.underlying5 Try.underlying9 (RD5.out.below hw (Nat.le_refl _))) ?_
    try simp only [Act.put, List.setIfInBounds_toArray, List.set_cons_zero, List.set_cons_succ]
    refine take 4 _ rfl (by kernel_rfl) (by kernel_rfl) (by kernel_rfl) (fun _ _ _ h => h) (by rfl) hS (by intro w _; go_simp; with_reducible rfl) ?_
    try simp only [Act.put, List.setIfInBounds_toArray, List.set_cons_zero, List.set_cons_succ]
    refine alone 5 rfl (by kernel_rfl) (by rfl) ?_
    intro K hK
    go_simp
    refine (RA.out _ (RS.out.below hS (Nat.le_refl _))).mono ?_
    rintro e q5 ⟨AC1, cc1, rfl, oc, hb⟩
    have OC1 := Lib.hid oc.rd
    clear oc
    go_simp
    replace hS := below_trans hS hb
    refine hK.out _ _ hS ?_
    clear hK hb K
    try simp only [Act.put, List.setIfInBounds_toArray, List.set_cons_zero, List.set_cons_succ]
    refine alone_run 6 _ rfl (by kernel_rfl) (by rfl) hS (run_string_op 26 9 5 _ rfl rfl Try.underlying26 Try.underlying5 Try.underlying9 (OC1.out)) ?_
    try simp only [Act.put, List.setIfInBounds_toArray, List.set_cons_zero, List.set_cons_succ]
    refine take 7 _ rfl (by kernel_rfl) (by kernel_rfl) (by kernel_rfl) (fun _ _ _ h => h) (by rfl) hS (by intro w _; go_simp; with_reducible rfl) ?_
    try simp only [Act.put, List.setIfInBounds_toArray, List.set_cons_zero, List.set_cons_succ]
    refine take 8 _ rfl (by kernel_rfl) (by kernel_rfl) (by kernel_rfl) (fun _ _ _ h => h) (by rfl) hS (by intro w _; go_simp; with_reducible rfl) ?_
    try simp only [Act.put, List.setIfInBounds_toArray, List.set_cons_zero, List.set_cons_succ]
    refine take 9 _ rfl (by kernel_rfl) (by kernel_rfl) (by kernel_rfl) (fun _ _ _ h => h) (by rfl) hS (by intro w _; go_simp; with_reducible rfl) ?_
    try simp only [Act.put, List.setIfInBounds_toArray, List.set_cons_zero, List.set_cons_succ]
    refine take 10 _ rfl (by kernel_rfl) (by kernel_rfl) (by kernel_rfl) (fun _ _ _ h => h) (by rfl) hS (by intro w _; go_simp; with_reducible rfl) ?_
    try simp only [Act.put, List.setIfInBounds_toArray, List.set_cons_zero, List.set_cons_succ]
    refine take 11 _ rfl (by kernel_rfl) (by kernel_rfl) (by kernel_rfl) (fun _ _ _ h => h) (by rfl) hS (fun w hw => run_string_op 26 9 5 _ rfl rfl Try.underlying26 Try.underlying5 Try.underlying9 (RD6.out.below hw (Nat.le_refl _))) ?_
    try simp only [Act.put, List.setIfInBounds_toArray, List.set_cons_zero, List.set_cons_succ]
    refine take 12 _ rfl (by kernel_rfl) (by kernel_rfl) (by kernel_rfl) (fun _ _ _ h => h) (by rfl) hS (by intro w _; go_simp; with_reducible rfl) ?_
    try simp only [Act.put, List.setIfInBounds_toArray, List.set_cons_zero, List.set_cons_succ]
    refine take 13 _ rfl (by kernel_rfl) (by kernel_rfl) (by kernel_rfl) (fun _ _ _ h => h) (by rfl) hS (by intro w _; go_simp; with_reducible rfl) ?_
    try simp only [Act.put, List.setIfInBounds_toArray, List.set_cons_zero, List.set_cons_succ]
    refine alone 14 rfl (by kernel_rfl) (by rfl) ?_
    intro K hK
    go_simp
    refine (RM.out _ (RS.out.below hS (Nat.le_refl _)) (RF.out.below hS (Nat.le_refl _))).mono ?_
    rintro e q14 ⟨AC2, cc2, rfl, oc, hb⟩
    have OC2 := Lib.hid oc.rd
    clear oc
    go_simp
    replace hS := below_trans hS hb
    refine hK.out _ _ hS ?_
    clear hK hb K
    try simp only [Act.put, List.setIfInBounds_toArray, List.set_cons_zero, List.set_cons_succ]
    refine alone_run 15 _ rfl (by kernel_rfl) (by rfl) hS (run_string_op 26 9 5 _ rfl rfl Try.underlying26 Try.underlying5 Try.underlying9 (OC2.out)) ?_
    try simp only [Act.put, List.setIfInBounds_toArray, List.set_cons_zero, List.set_cons_succ]
    refine take 16 _ rfl (by kernel_rfl) (by kernel_rfl) (by kernel_rfl) (fun _ _ _ h => h) (by rfl) hS (by intro w _; go_simp; with_reducible rfl) ?_
    try simp only [Act.put, List.setIfInBounds_toArray, List.set_cons_zero, List.set_cons_succ]
    refine take 17 _ rfl (by kernel_rfl) (by kernel_rfl) (by kernel_rfl) (fun _ _ _ h => h) (by rfl) hS (by intro w _; go_simp; with_reducible rfl) ?_
    try simp only [Act.put, List.setIfInBounds_toArray, List.set_cons_zero, List.set_cons_succ]
    refine take 18 _ rfl (by kernel_rfl) (by kernel_rfl) (by kernel_rfl) (fun _ _ _ h => h) (by rfl) hS (by intro w _; go_simp; with_reducible rfl) ?_
    try simp only [Act.put, List.setIfInBounds_toArray, List.set_cons_zero, List.set_cons_succ]
    refine take 19 _ rfl (by kernel_rfl) (by kernel_rfl) (by kernel_rfl) (fun _ _ _ h => h) (by rfl) hS (by intro w _; go_simp; with_reducible rfl) ?_
    try simp only [Act.put, List.setIfInBounds_toArray, List.set_cons_zero, List.set_cons_succ]
    refine take 20 _ rfl (by kernel_rfl) (by kernel_rfl) (by kernel_rfl) (fun _ _ _ h => h) (by rfl) hS (fun w hw => run_string_op 26 9 5 _ rfl rfl Try.underlying26 Try.underlying5 Try.underlying9 (RD7.out.below hw (Nat.le_refl _))) ?_
    try simp only [Act.put, List.setIfInBounds_toArray, List.set_cons_zero, List.set_cons_succ]
    refine take 21 _ rfl (by kernel_rfl) (by kernel_rfl) (by kernel_rfl) (fun _ _ _ h => h) (by rfl) hS (by intro w _; go_simp; with_reducible rfl) ?_
    try simp only [Act.put, List.setIfInBounds_toArray, List.set_cons_zero, List.set_cons_succ]
    refine alone 22 rfl (by kernel_rfl) (by rfl) ?_
    intro K hK
    go_simp
    refine (RP.out _ (RS.out.below hS (Nat.le_refl _))).mono ?_
    rintro e q22 ⟨AC3, cc3, rfl, oc, hb⟩
    have OC3 := Lib.hid oc.rd
    clear oc
    go_simp
    replace hS := below_trans hS hb
    refine hK.out _ _ hS ?_
    clear hK hb K
    try simp only [Act.put, List.setIfInBounds_toArray, List.set_cons_zero, List.set_cons_succ]
    refine alone_run 23 _ rfl (by kernel_rfl) (by rfl) hS (run_string_op 26 9 5 _ rfl rfl Try.underlying26 Try.underlying5 Try.underlying9 (OC3.out)) ?_
    try simp only [Act.put, List.setIfInBounds_toArray, List.set_cons_zero, List.set_cons_succ]
    refine take 24 _ rfl (by kernel_rfl) (by kernel_rfl) (by kernel_rfl) (fun _ _ _ h => h) (by rfl) hS (by intro w _; go_simp; with_reducible rfl) ?_
    try simp only [Act.put, List.setIfInBounds_toArray, List.set_cons_zero, List.set_cons_succ]
    refine take 25 _ rfl (by kernel_rfl) (by kernel_rfl) (by kernel_rfl) (fun _ _ _ h => h) (by rfl) hS (by intro w _; go_simp; with_reducible rfl) ?_
    try simp only [Act.put, List.setIfInBounds_toArray, List.set_cons_zero, List.set_cons_succ]
    refine take 26 _ rfl (by kernel_rfl) (by kernel_rfl) (by kernel_rfl) (fun _ _ _ h => h) (by rfl) hS (by intro w _; go_simp; with_reducible rfl) ?_
    try simp only [Act.put, List.setIfInBounds_toArray, List.set_cons_zero, List.set_cons_succ]
    refine region_end (by kernel_rfl) ?_
    have HB9 := Lib.hid (KB.out.trans (hS.mono hV))
    clear hS
    go_wp2_with fail
    go_ret
    exact ⟨by simp, by rw [hB]; exact HB9.out⟩

theorem walk (s f : Nat → Nat) (w : World) (hs : ∀ i, s i < 256) (hf : ∀ i, f i < 256) :
    Calls Try.prog 5 #[.agg (byteCells s 32).toArray, .agg (byteCells f 32).toArray] w fun e w' => e = .returned (.bool true) ∧ Below w.heap.size w w' := by
  obtain ⟨u, hu⟩ : ∃ u : Fin P, tk f = u.val := ⟨⟨tk f, tk_lt f⟩, rfl⟩
  exact core s f _ _ _ w (clamp_any s hs) (mul_any s f hs hf u hu) (public_any s hs) (fun v h => RefC.clamp_ref _ 32 s v hs h) (fun v h h' => RefC.mul_ref _ _ 32 32 s f v hs hf h h' u hu) (fun v h => RefC.public_ref _ 32 s v hs h)

end CurveMuls
end Go.Proofs.Ytnopjjkijedpeaa
