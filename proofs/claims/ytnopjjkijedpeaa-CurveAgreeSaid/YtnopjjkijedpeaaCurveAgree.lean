/- The walk of 'CurveAgree'. -/
import Derived.Test.YtnopjjkijedpeaaCurveAlive
namespace Go.Proofs.Ytnopjjkijedpeaa
namespace CurveAgree
open Go.ChangeShapes Go.WideShapes Go.ChangeAt Go.RowKit
open Num Mem Words Radix FieldN Chacha Quiet Go.Proofs.Ytnopjjkijedpeaa.Field Edwards Curve

set_option maxRecDepth 100000 in
set_option maxHeartbeats 4000000 in
theorem core (a b pa pb r1 r2 : Nat → Nat) (c1 : Gives 31 #[B32 b] (B32 pb)) (c2 : Gives 31 #[B32 a] (B32 pa)) (d1 : Gives 36 #[B32 a, B32 pb] (.tuple #[B32 r1, .int .i64 0])) (d2 : Gives 36 #[B32 b, B32 pa] (.tuple #[B32 r2, .int .i64 0])) (e1 : ∀ w, (Op.equalIn 10000 22 (.agg (byteCells r1 32).toArray) (.agg (byteCells r2 32).toArray)).run Try.prog w = .ok true w) (w : World) :
    Calls Try.prog 7 #[B32 a, B32 b] w fun e w' => e = .returned (.bool true) ∧ Below w.heap.size w w' := by
  replace c1 := Lib.hid c1
  replace c2 := Lib.hid c2
  replace d1 := Lib.hid d1
  replace d2 := Lib.hid d2
  replace e1 := Lib.hid e1
  have HZ := Lib.hid (show ∀ f, (byteCells f 32).toArray.size = 32 from fun f => by rw [List.size_toArray, byteCells_length])
  unfold B32
  go_enter Try.func7, Try.ntmps7
  go_upto_region 1 with fail
  refine cut_world (fun W => Whole W (w.heap.size) 22 (byteCells a 32).toArray ∧ Whole W (w.heap.size + 1) 22 (byteCells b 32).toArray ∧ Below w.heap.size w W) ⟨?_, ?_, ?_⟩ ?_
  · exact (whole_new _ _ (by simp)).alloc _
  · exact whole_new _ _ (by simp)
  · exact below_alloc (below_alloc (Below.refl _ _) _) _
  rintro W ⟨k1, k2, kb⟩
  have K1 := Lib.hid k1
  have K2 := Lib.hid k2
  have KB := Lib.hid kb
  clear k1 k2 kb
  generalize hB : w.heap.size = B at K1 K2 KB ⊢
  refine region_drew (fun _ => True) (by kernel_rfl) trivial ?_
  intro hT
  have hS : Below W.heap.size W W.drew := below_drewN (Below.refl _ _) 1
  refine Float.float_one (W := W) [(0, 10, .is (B32 a)), (1, 11, .is (B32 b)), (2, 12, .is (B32 pb)), (3, 13, .is (.tuple #[B32 r1, .int .i64 0])), (4, 9, .is (.tuple #[B32 r1, .int .i64 0])), (5, 14, .is (B32 r1)), (6, 15, .is (.int .i64 0)), (7, 5, .row 22 (byteCells (fun _ => 0) 32).toArray)] [0, 1, 2, 3, 4, 5, 6, 7] 6 2 rfl (by rfl) (by kernel_rfl) (by kernel_rfl) (by kernel_rfl) (by kernel_rfl) (by kernel_rfl) (fun γ => rfl) rfl (.int .i64 0) rfl (by kernel_rfl) (by kernel_rfl) (by kernel_rfl) (fun _ _ _ h => h) hS (fun _ _ => trivial) ?_ ?_ ?_
  · intro γ w
    simp only [Float.puts, Act.put, List.setIfInBounds_toArray, List.set_cons_zero, List.set_cons_succ]
    go_simp
    try with_reducible rfl
  · intro γ
    simp only [Float.puts, Act.put, List.setIfInBounds_toArray, List.set_cons_zero, List.set_cons_succ]
    refine ⟨?_, ?_, ?_, ?_, ?_, ?_, ?_, ?_, trivial⟩
    · exact ⟨_, _, rfl, Float.does_take (fun w hw => run_load_op 22 (.tmp 2) rfl (B) rfl (K1.out.below hw K1.out.lt) rfl rfl (by rw [HZ.out]; kernel_rfl))⟩
    · exact ⟨_, _, rfl, Float.does_take (fun w hw => run_load_op 22 (.tmp 3) rfl (B + 1) rfl (K2.out.below hw K2.out.lt) rfl rfl (by rw [HZ.out]; kernel_rfl))⟩
    · exact ⟨_, _, rfl, Float.does_call 31 (#[B32 b]) (by intro w; go_simp; try with_reducible rfl) (fun w hw => c1.out w)⟩
    · exact ⟨_, _, rfl, Float.does_call 36 (#[B32 a, B32 pb]) (by intro w; go_simp; try with_reducible rfl) (fun w hw => d1.out w)⟩
    · exact ⟨_, _, rfl, Float.does_take (by intro w _; go_simp; try with_reducible rfl)⟩
    · exact ⟨_, _, rfl, Float.does_take (by intro w _; go_simp; try with_reducible rfl)⟩
    · exact ⟨_, _, rfl, Float.does_take (by intro w _; go_simp; try with_reducible rfl)⟩
    · exact ⟨_, _, rfl, fun w => by go_simp; try rfl⟩
  · intro γ v hS hrows hne
    simp only [Float.puts, Act.put, List.setIfInBounds_toArray, List.set_cons_zero, List.set_cons_succ]
    obtain ⟨⟨hge5, hg5⟩, -⟩ := hrows
    clear hne
    generalize γ 7 = b5 at *
    have Hg5 := Lib.hid hg5
    clear hg5
    clear γ
    have lt_1 := K1.out.lt
    have lt_K1 := K1.out.lt
    replace K1 := Lib.hid (K1.out.below hS lt_K1)
    have lt_K2 := K2.out.lt
    replace K2 := Lib.hid (K2.out.below hS lt_K2)
    replace KB := Lib.hid (KB.out.trans (hS.mono (by omega)))
    refine alone 8 rfl (by kernel_rfl) (by rfl) ?_
    intro K hK
    refine wp_store_row 22 (.tmp 5) (.tmp 14) rfl b5 (byteCells r1 32).toArray (by rfl) (by rfl) 22 _ Hg5.out (by rw [HZ.out]; kernel_rfl) (by rw [HZ.out, HZ.out]) (bytes_one _ _) ?_
    refine hK.out _ _ trivial ?_
    clear hK K
    try simp only [Act.put]
    refine alone 9 rfl (by kernel_rfl) (by rfl) ?_
    intro K hK
    go_simp
    refine hK.out _ _ trivial ?_
    clear hK K
    try simp only [Act.put, List.setIfInBounds_toArray, List.set_cons_zero, List.set_cons_succ]
    refine region_end (by kernel_rfl) ?_
    refine cut_post (F := Exit.then _ _) (fun X => Whole X (B) 22 (byteCells a 32).toArray ∧ Whole X (B + 1) 22 (byteCells b 32).toArray ∧ Whole X b5 22 (byteCells r1 32).toArray ∧ Below B w X ∧ B ≤ X.heap.size) ⟨Whole.farRow K1.out (by omega) _, Whole.farRow K2.out (by omega) _, setRow_heap _ _ _ _ _ _ Hg5.out, below_setRow KB.out (by omega) _, ?_⟩ ?_
    · have := (Whole.farRow K1.out (g := b5) (by omega) (byteCells r1 32).toArray).lt
      omega
    clear KB Hg5 hS hge5 lt_1 K1 K2 lt_K1 lt_K2
    rintro V ⟨kK1, kK2, kK5, kb, hV⟩
    have K1 := Lib.hid kK1
    have K2 := Lib.hid kK2
    have K5 := Lib.hid kK5
    have KB := Lib.hid kb
    clear kb kK1 kK2 kK5
    go_wp2_with fail
    refine region_drew (fun _ => True) (by kernel_rfl) trivial ?_
    intro hT
    have hS : Below V.heap.size V V.drew := below_drewN (Below.refl _ _) 1
    refine Float.float_one (W := V) [(0, 17, .is (B32 b)), (1, 18, .is (B32 a)), (2, 19, .is (B32 pa)), (3, 20, .is (.tuple #[B32 r2, .int .i64 0])), (4, 16, .is (.tuple #[B32 r2, .int .i64 0])), (5, 21, .is (B32 r2)), (6, 22, .is (.int .i64 0)), (7, 7, .row 22 (byteCells (fun _ => 0) 32).toArray)] [0, 1, 2, 3, 4, 5, 6, 7] 6 2 rfl (by rfl) (by kernel_rfl) (by kernel_rfl) (by kernel_rfl) (by kernel_rfl) (by kernel_rfl) (fun γ => rfl) rfl (.int .i64 0) rfl (by kernel_rfl) (by kernel_rfl) (by kernel_rfl) (fun _ _ _ h => h) hS (fun _ _ => trivial) ?_ ?_ ?_
    · intro γ w
      simp only [Float.puts, Act.put, List.setIfInBounds_toArray, List.set_cons_zero, List.set_cons_succ]
      go_simp
      try with_reducible rfl
    · intro γ
      simp only [Float.puts, Act.put, List.setIfInBounds_toArray, List.set_cons_zero, List.set_cons_succ]
      refine ⟨?_, ?_, ?_, ?_, ?_, ?_, ?_, ?_, trivial⟩
      · exact ⟨_, _, rfl, Float.does_take (fun w hw => run_load_op 22 (.tmp 3) rfl (B + 1) rfl (K2.out.below hw K2.out.lt) rfl rfl (by rw [HZ.out]; kernel_rfl))⟩
      · exact ⟨_, _, rfl, Float.does_take (fun w hw => run_load_op 22 (.tmp 2) rfl (B) rfl (K1.out.below hw K1.out.lt) rfl rfl (by rw [HZ.out]; kernel_rfl))⟩
      · exact ⟨_, _, rfl, Float.does_call 31 (#[B32 a]) (by intro w; go_simp; try with_reducible rfl) (fun w hw => c2.out w)⟩
      · exact ⟨_, _, rfl, Float.does_call 36 (#[B32 b, B32 pa]) (by intro w; go_simp; try with_reducible rfl) (fun w hw => d2.out w)⟩
      · exact ⟨_, _, rfl, Float.does_take (by intro w _; go_simp; try with_reducible rfl)⟩
      · exact ⟨_, _, rfl, Float.does_take (by intro w _; go_simp; try with_reducible rfl)⟩
      · exact ⟨_, _, rfl, Float.does_take (by intro w _; go_simp; try with_reducible rfl)⟩
      · exact ⟨_, _, rfl, fun w => by go_simp; try rfl⟩
    · intro γ v hS hrows hne
      simp only [Float.puts, Act.put, List.setIfInBounds_toArray, List.set_cons_zero, List.set_cons_succ]
      obtain ⟨⟨hge7, hg7⟩, -⟩ := hrows
      clear hne
      generalize γ 7 = b7 at *
      have Hg7 := Lib.hid hg7
      clear hg7
      clear γ
      have lt_1 := K1.out.lt
      have lt_K1 := K1.out.lt
      replace K1 := Lib.hid (K1.out.below hS lt_K1)
      have lt_K2 := K2.out.lt
      replace K2 := Lib.hid (K2.out.below hS lt_K2)
      have lt_K5 := K5.out.lt
      replace K5 := Lib.hid (K5.out.below hS lt_K5)
      replace KB := Lib.hid (KB.out.trans (hS.mono (by omega)))
      refine alone 8 rfl (by kernel_rfl) (by rfl) ?_
      intro K hK
      refine wp_store_row 22 (.tmp 7) (.tmp 21) rfl b7 (byteCells r2 32).toArray (by rfl) (by rfl) 22 _ Hg7.out (by rw [HZ.out]; kernel_rfl) (by rw [HZ.out, HZ.out]) (bytes_one _ _) ?_
      refine hK.out _ _ trivial ?_
      clear hK K
      try simp only [Act.put]
      refine alone 9 rfl (by kernel_rfl) (by rfl) ?_
      intro K hK
      go_simp
      refine hK.out _ _ trivial ?_
      clear hK K
      try simp only [Act.put, List.setIfInBounds_toArray, List.set_cons_zero, List.set_cons_succ]
      refine region_end (by kernel_rfl) ?_
      refine cut_post (F := Exit.then _ _) (fun X => Whole X (B) 22 (byteCells a 32).toArray ∧ Whole X (B + 1) 22 (byteCells b 32).toArray ∧ Whole X (b5) 22 (byteCells r1 32).toArray ∧ Whole X b7 22 (byteCells r2 32).toArray ∧ Below B w X ∧ B ≤ X.heap.size) ⟨Whole.farRow K1.out (by omega) _, Whole.farRow K2.out (by omega) _, Whole.farRow K5.out (by omega) _, setRow_heap _ _ _ _ _ _ Hg7.out, below_setRow KB.out (by omega) _, ?_⟩ ?_
      · have := (Whole.farRow K1.out (g := b7) (by omega) (byteCells r2 32).toArray).lt
        omega
      clear KB Hg7 hS hge7 lt_1 K1 K2 K5 lt_K1 lt_K2 lt_K5
      rintro V2 ⟨kK1, kK2, kK5, kK7, kb, hV⟩
      have K1 := Lib.hid kK1
      have K2 := Lib.hid kK2
      have K5 := Lib.hid kK5
      have K7 := Lib.hid kK7
      have KB := Lib.hid kb
      clear kb kK1 kK2 kK5 kK7
      have hB2 : B ≤ V2.heap.size := by have := K1.out.lt; omega
      go_wp2_with fail
      refine (alive_six _).mono ?_
      rintro e v ⟨rfl, hbel⟩
      replace K5 := Lib.hid (K5.out.below hbel K5.out.lt)
      replace K7 := Lib.hid (K7.out.below hbel K7.out.lt)
      replace KB := Lib.hid (KB.out.trans (hbel.mono hB2))
      clear hbel K1 K2 hB2
      go_wp2_with (first | (refine wpList_load_row_if (by rfl) 22 (.tmp 5) rfl b5 rfl 22 (byteCells r1 32) _ K5.out rfl rfl (by rw [byteCells_length]; kernel_rfl) ?_) | (refine wpList_load_row_if (by rfl) 22 (.tmp 7) rfl b7 rfl 22 (byteCells r2 32) _ K7.out rfl rfl (by rw [byteCells_length]; kernel_rfl) ?_) | simp only [e1.out, Result.andThen_ok])
      go_ret
      exact ⟨rfl, by rw [hB]; exact KB.out⟩

theorem walk (a b : Nat → Nat) (w : World) (ha : ∀ i, a i < 256) (hb : ∀ i, b i < 256) :
    Calls Try.prog 7 #[.agg (byteCells a 32).toArray, .agg (byteCells b 32).toArray] w fun e w' => e = .returned (.bool true) ∧ Below w.heap.size w w' := by
  have h1 := shared_any a _ ha (byteAt_lt _) _ (tk_of (mulN b Curve.nine)) false ⟨fun h => absurd h Bool.false_ne_true, fun h => absurd h (mulN_agree a b ha hb)⟩
  have h2 := shared_any b _ hb (byteAt_lt _) _ (tk_of (mulN a Curve.nine)) false ⟨fun h => absurd h Bool.false_ne_true, fun h => absurd h (mulN_agree b a hb ha)⟩
  rw [if_neg Bool.false_ne_true] at h1 h2
  refine core a b _ _ _ _ (public_any b hb) (public_any a ha) h1 h2 (same_of ?_) w
  rw [mulN_comm a b ha hb]

end CurveAgree
end Go.Proofs.Ytnopjjkijedpeaa
