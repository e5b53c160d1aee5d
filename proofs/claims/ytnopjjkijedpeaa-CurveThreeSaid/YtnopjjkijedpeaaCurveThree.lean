/- The walk of 'CurveThree'. -/
import Derived.Test.YtnopjjkijedpeaaCurveAlive
namespace Go.Proofs.Ytnopjjkijedpeaa
namespace CurveThree
open Go.ChangeShapes Go.WideShapes Go.ChangeAt Go.RowKit
open Num Mem Words Radix FieldN Chacha Quiet Go.Proofs.Ytnopjjkijedpeaa.Field Edwards Curve

set_option maxRecDepth 100000 in
set_option maxHeartbeats 4000000 in
theorem core (a b c f v1 v2 r3 v4 v5 v6 v8 v9 : Nat → Nat) (c1 : Gives 30 #[B32 c, B32 f] (B32 v1)) (c2 : Gives 30 #[B32 b, B32 v1] (B32 v2)) (c3 : Gives 30 #[B32 a, B32 v2] (B32 r3)) (c4 : Gives 30 #[B32 a, B32 f] (B32 v4)) (c5 : Gives 30 #[B32 b, B32 v4] (B32 v5)) (c6 : Gives 30 #[B32 c, B32 v5] (B32 v6)) (c8 : Gives 30 #[B32 a, B32 v1] (B32 v8)) (c9 : Gives 30 #[B32 b, B32 v8] (B32 v9)) (e1 : ∀ w, (Op.equalIn 10000 22 (.agg (byteCells r3 32).toArray) (.agg (byteCells v6 32).toArray)).run Try.prog w = .ok true w) (e2 : ∀ w, (Op.equalIn 10000 22 (.agg (byteCells r3 32).toArray) (.agg (byteCells v9 32).toArray)).run Try.prog w = .ok true w) (w : World) :
    Calls Try.prog 8 #[B32 a, B32 b, B32 c, B32 f] w fun e w' => e = .returned (.bool true) ∧ Below w.heap.size w w' := by
  replace c1 := Lib.hid c1
  replace c2 := Lib.hid c2
  replace c3 := Lib.hid c3
  replace c4 := Lib.hid c4
  replace c5 := Lib.hid c5
  replace c6 := Lib.hid c6
  replace c8 := Lib.hid c8
  replace c9 := Lib.hid c9
  replace e1 := Lib.hid e1
  replace e2 := Lib.hid e2
  have HZ := Lib.hid (show ∀ f, (byteCells f 32).toArray.size = 32 from fun f => by rw [List.size_toArray, byteCells_length])
  unfold B32
  go_enter Try.func8, Try.ntmps8
  go_upto_region 1 with fail
  refine cut_world (fun W => Whole W (w.heap.size) 22 (byteCells a 32).toArray ∧ Whole W (w.heap.size + 1) 22 (byteCells b 32).toArray ∧ Whole W (w.heap.size + 1 + 1) 22 (byteCells c 32).toArray ∧ Whole W (w.heap.size + 1 + 1 + 1) 22 (byteCells f 32).toArray ∧ Below w.heap.size w W) ⟨?_, ?_, ?_, ?_, ?_⟩ ?_
  · exact (((whole_new _ _ (by simp)).alloc _).alloc _).alloc _
  · exact ((whole_new _ _ (by simp)).alloc _).alloc _
  · exact (whole_new _ _ (by simp)).alloc _
  · exact whole_new _ _ (by simp)
  · exact below_alloc (below_alloc (below_alloc (below_alloc (Below.refl _ _) _) _) _) _
  rintro W ⟨k1, k2, k3, k4, kb⟩
  have K1 := Lib.hid k1
  have K2 := Lib.hid k2
  have K3 := Lib.hid k3
  have K4 := Lib.hid k4
  have KB := Lib.hid kb
  clear k1 k2 k3 k4 kb
  generalize hB : w.heap.size = B at K1 K2 K3 K4 KB ⊢
  refine region_drew (fun _ => True) (by kernel_rfl) trivial ?_
  intro _
  have hS : Below W.heap.size W W.drew := below_drewN (Below.refl _ _) 1
  refine Float.float (W := W) [(0, 10, .is (B32 a)), (1, 11, .is (B32 b)), (2, 12, .is (B32 c)), (3, 13, .is (B32 f)), (4, 14, .is (B32 v1)), (5, 15, .is (B32 v2)), (6, 16, .is (B32 r3)), (7, 9, .row 22 (byteCells (fun _ => 0) 32).toArray)] [0, 1, 2, 3, 4, 5, 6, 7] 1 rfl (by rfl) (by kernel_rfl) (by kernel_rfl) (by kernel_rfl) (by kernel_rfl) (by kernel_rfl) (fun γ => rfl) hS (fun _ _ => trivial) ?_ ?_
  · intro γ
    simp only [Float.puts, Act.put, List.setIfInBounds_toArray, List.set_cons_zero, List.set_cons_succ]
    refine ⟨?_, ?_, ?_, ?_, ?_, ?_, ?_, ?_, trivial⟩
    · exact ⟨_, _, rfl, Float.does_take (fun w hw => run_load_op 22 (.tmp 4) rfl (B) rfl (K1.out.below hw K1.out.lt) rfl rfl (by rw [HZ.out]; kernel_rfl))⟩
    · exact ⟨_, _, rfl, Float.does_take (fun w hw => run_load_op 22 (.tmp 5) rfl (B + 1) rfl (K2.out.below hw K2.out.lt) rfl rfl (by rw [HZ.out]; kernel_rfl))⟩
    · exact ⟨_, _, rfl, Float.does_take (fun w hw => run_load_op 22 (.tmp 6) rfl (B + 1 + 1) rfl (K3.out.below hw K3.out.lt) rfl rfl (by rw [HZ.out]; kernel_rfl))⟩
    · exact ⟨_, _, rfl, Float.does_take (fun w hw => run_load_op 22 (.tmp 7) rfl (B + 1 + 1 + 1) rfl (K4.out.below hw K4.out.lt) rfl rfl (by rw [HZ.out]; kernel_rfl))⟩
    · exact ⟨_, _, rfl, Float.does_call 30 (#[B32 c, B32 f]) (by intro w; go_simp; try with_reducible rfl) (fun w hw => c1.out w)⟩
    · exact ⟨_, _, rfl, Float.does_call 30 (#[B32 b, B32 v1]) (by intro w; go_simp; try with_reducible rfl) (fun w hw => c2.out w)⟩
    · exact ⟨_, _, rfl, Float.does_call 30 (#[B32 a, B32 v2]) (by intro w; go_simp; try with_reducible rfl) (fun w hw => c3.out w)⟩
    · exact ⟨_, _, rfl, fun w => by go_simp; try rfl⟩
  · intro γ v hS hrows hne
    simp only [Float.puts, Act.put, List.setIfInBounds_toArray, List.set_cons_zero, List.set_cons_succ]
    obtain ⟨⟨hge9, hg9⟩, -⟩ := hrows
    clear hne
    generalize γ 7 = b9 at *
    have Hg9 := Lib.hid hg9
    clear hg9
    clear γ
    have l4 := K4.out.lt
    replace K1 := Lib.hid (K1.out.below hS K1.out.lt)
    replace K2 := Lib.hid (K2.out.below hS K2.out.lt)
    replace K3 := Lib.hid (K3.out.below hS K3.out.lt)
    replace K4 := Lib.hid (K4.out.below hS K4.out.lt)
    replace KB := Lib.hid (KB.out.trans (hS.mono (by omega)))
    refine alone 8 rfl (by kernel_rfl) (by rfl) ?_
    intro K hK
    refine wp_store_row 22 (.tmp 9) (.tmp 16) rfl b9 (byteCells r3 32).toArray (by rfl) (by rfl) 22 _ Hg9.out (by rw [HZ.out]; kernel_rfl) (by rw [HZ.out, HZ.out]) (bytes_one _ _) ?_
    refine hK.out _ _ trivial ?_
    clear hK K
    try simp only [Act.put]
    refine region_end (by kernel_rfl) ?_
    refine cut_post (F := Exit.then _ _) (fun X => Whole X B 22 (byteCells a 32).toArray ∧ Whole X (B + 1) 22 (byteCells b 32).toArray ∧ Whole X (B + 1 + 1) 22 (byteCells c 32).toArray ∧ Whole X (B + 1 + 1 + 1) 22 (byteCells f 32).toArray ∧ Whole X b9 22 (byteCells r3 32).toArray ∧ Below B w X ∧ B ≤ X.heap.size) ⟨Whole.farRow K1.out (by omega) _, Whole.farRow K2.out (by omega) _, Whole.farRow K3.out (by omega) _, Whole.farRow K4.out (by omega) _, setRow_heap _ _ _ _ _ _ Hg9.out, below_setRow KB.out (by omega) _, ?_⟩ ?_
    · have := (Whole.farRow K4.out (g := b9) (by omega) (byteCells r3 32).toArray).lt
      omega
    clear K1 K2 K3 K4 KB Hg9 hS hge9 l4
    rintro V ⟨k1, k2, k3, k4, k9, kb, hV⟩
    have K1 := Lib.hid k1
    have K2 := Lib.hid k2
    have K3 := Lib.hid k3
    have K4 := Lib.hid k4
    have K9 := Lib.hid k9
    have KB := Lib.hid kb
    clear k1 k2 k3 k4 k9 kb
    go_wp2_with fail
    refine q_start (by kernel_rfl) (by kernel_rfl) ?_
    refine q_call (.bool true) 32 (#[]) (by rfl) (by intro w; go_simp; try with_reducible rfl) (fun x hx => (alive_six x).mono fun e w' ⟨he, hb⟩ => ⟨he, below_trans hx hb⟩) ?_
    try simp only [Act.put, List.setIfInBounds_toArray, List.set_cons_zero, List.set_cons_succ]
    refine q_take _ (by rfl) (by intro w _; go_simp; try with_reducible rfl) ?_
    try simp only [Act.put, List.setIfInBounds_toArray, List.set_cons_zero, List.set_cons_succ]
    refine q_take _ (by rfl) (fun x hx => run_load_in 22 (.tmp 9) rfl (b9) rfl (byteCells (r3) 32).toArray 32 (by rw [List.size_toArray, byteCells_length]) ((K9.out).below hx (K9.out).lt) rfl rfl (by kernel_rfl)) ?_
    try simp only [Act.put, List.setIfInBounds_toArray, List.set_cons_zero, List.set_cons_succ]
    refine q_take _ (by rfl) (fun x hx => run_load_in 22 (.tmp 6) rfl (B + 1 + 1) rfl (byteCells (c) 32).toArray 32 (by rw [List.size_toArray, byteCells_length]) ((K3.out).below hx (K3.out).lt) rfl rfl (by kernel_rfl)) ?_
    try simp only [Act.put, List.setIfInBounds_toArray, List.set_cons_zero, List.set_cons_succ]
    refine q_take _ (by rfl) (fun x hx => run_load_in 22 (.tmp 5) rfl (B + 1) rfl (byteCells (b) 32).toArray 32 (by rw [List.size_toArray, byteCells_length]) ((K2.out).below hx (K2.out).lt) rfl rfl (by kernel_rfl)) ?_
    try simp only [Act.put, List.setIfInBounds_toArray, List.set_cons_zero, List.set_cons_succ]
    refine q_take _ (by rfl) (fun x hx => run_load_in 22 (.tmp 4) rfl (B) rfl (byteCells (a) 32).toArray 32 (by rw [List.size_toArray, byteCells_length]) ((K1.out).below hx (K1.out).lt) rfl rfl (by kernel_rfl)) ?_
    try simp only [Act.put, List.setIfInBounds_toArray, List.set_cons_zero, List.set_cons_succ]
    refine q_take _ (by rfl) (fun x hx => run_load_in 22 (.tmp 7) rfl (B + 1 + 1 + 1) rfl (byteCells (f) 32).toArray 32 (by rw [List.size_toArray, byteCells_length]) ((K4.out).below hx (K4.out).lt) rfl rfl (by kernel_rfl)) ?_
    try simp only [Act.put, List.setIfInBounds_toArray, List.set_cons_zero, List.set_cons_succ]
    refine q_call (B32 v4) 30 (#[B32 a, B32 f]) (by rfl) (by intro w; go_simp; try with_reducible rfl) (fun x hx => (c4.out x).mono fun e w' ⟨he, hb⟩ => ⟨he, below_trans hx hb⟩) ?_
    try simp only [Act.put, List.setIfInBounds_toArray, List.set_cons_zero, List.set_cons_succ]
    refine q_call (B32 v5) 30 (#[B32 b, B32 v4]) (by rfl) (by intro w; go_simp; try with_reducible rfl) (fun x hx => (c5.out x).mono fun e w' ⟨he, hb⟩ => ⟨he, below_trans hx hb⟩) ?_
    try simp only [Act.put, List.setIfInBounds_toArray, List.set_cons_zero, List.set_cons_succ]
    refine q_call (B32 v6) 30 (#[B32 c, B32 v5]) (by rfl) (by intro w; go_simp; try with_reducible rfl) (fun x hx => (c6.out x).mono fun e w' ⟨he, hb⟩ => ⟨he, below_trans hx hb⟩) ?_
    try simp only [Act.put, List.setIfInBounds_toArray, List.set_cons_zero, List.set_cons_succ]
    refine q_take _ (by rfl) (by intro w _; go_simp; simp only [e1.out, Result.andThen_ok]; try with_reducible rfl) ?_
    try simp only [Act.put, List.setIfInBounds_toArray, List.set_cons_zero, List.set_cons_succ]
    refine q_take _ (by rfl) (by intro w _; go_simp; try with_reducible rfl) ?_
    try simp only [Act.put, List.setIfInBounds_toArray, List.set_cons_zero, List.set_cons_succ]
    refine q_take _ (by rfl) (by intro w _; go_simp; try with_reducible rfl) ?_
    try simp only [Act.put, List.setIfInBounds_toArray, List.set_cons_zero, List.set_cons_succ]
    refine q_take _ (by rfl) (fun x hx => run_load_in 22 (.tmp 9) rfl (b9) rfl (byteCells (r3) 32).toArray 32 (by rw [List.size_toArray, byteCells_length]) ((K9.out).below hx (K9.out).lt) rfl rfl (by kernel_rfl)) ?_
    try simp only [Act.put, List.setIfInBounds_toArray, List.set_cons_zero, List.set_cons_succ]
    refine q_take _ (by rfl) (fun x hx => run_load_in 22 (.tmp 5) rfl (B + 1) rfl (byteCells (b) 32).toArray 32 (by rw [List.size_toArray, byteCells_length]) ((K2.out).below hx (K2.out).lt) rfl rfl (by kernel_rfl)) ?_
    try simp only [Act.put, List.setIfInBounds_toArray, List.set_cons_zero, List.set_cons_succ]
    refine q_take _ (by rfl) (fun x hx => run_load_in 22 (.tmp 4) rfl (B) rfl (byteCells (a) 32).toArray 32 (by rw [List.size_toArray, byteCells_length]) ((K1.out).below hx (K1.out).lt) rfl rfl (by kernel_rfl)) ?_
    try simp only [Act.put, List.setIfInBounds_toArray, List.set_cons_zero, List.set_cons_succ]
    refine q_take _ (by rfl) (fun x hx => run_load_in 22 (.tmp 6) rfl (B + 1 + 1) rfl (byteCells (c) 32).toArray 32 (by rw [List.size_toArray, byteCells_length]) ((K3.out).below hx (K3.out).lt) rfl rfl (by kernel_rfl)) ?_
    try simp only [Act.put, List.setIfInBounds_toArray, List.set_cons_zero, List.set_cons_succ]
    refine q_take _ (by rfl) (fun x hx => run_load_in 22 (.tmp 7) rfl (B + 1 + 1 + 1) rfl (byteCells (f) 32).toArray 32 (by rw [List.size_toArray, byteCells_length]) ((K4.out).below hx (K4.out).lt) rfl rfl (by kernel_rfl)) ?_
    try simp only [Act.put, List.setIfInBounds_toArray, List.set_cons_zero, List.set_cons_succ]
    refine q_call (B32 v1) 30 (#[B32 c, B32 f]) (by rfl) (by intro w; go_simp; try with_reducible rfl) (fun x hx => (c1.out x).mono fun e w' ⟨he, hb⟩ => ⟨he, below_trans hx hb⟩) ?_
    try simp only [Act.put, List.setIfInBounds_toArray, List.set_cons_zero, List.set_cons_succ]
    refine q_call (B32 v8) 30 (#[B32 a, B32 v1]) (by rfl) (by intro w; go_simp; try with_reducible rfl) (fun x hx => (c8.out x).mono fun e w' ⟨he, hb⟩ => ⟨he, below_trans hx hb⟩) ?_
    try simp only [Act.put, List.setIfInBounds_toArray, List.set_cons_zero, List.set_cons_succ]
    refine q_call (B32 v9) 30 (#[B32 b, B32 v8]) (by rfl) (by intro w; go_simp; try with_reducible rfl) (fun x hx => (c9.out x).mono fun e w' ⟨he, hb⟩ => ⟨he, below_trans hx hb⟩) ?_
    try simp only [Act.put, List.setIfInBounds_toArray, List.set_cons_zero, List.set_cons_succ]
    refine q_take _ (by rfl) (by intro w _; go_simp; simp only [e2.out, Result.andThen_ok]; try with_reducible rfl) ?_
    try simp only [Act.put, List.setIfInBounds_toArray, List.set_cons_zero, List.set_cons_succ]
    refine q_take _ (by rfl) (by intro w _; go_simp; try with_reducible rfl) ?_
    try simp only [Act.put, List.setIfInBounds_toArray, List.set_cons_zero, List.set_cons_succ]
    refine q_take _ (by rfl) (by intro w _; go_simp; try with_reducible rfl) ?_
    try simp only [Act.put, List.setIfInBounds_toArray, List.set_cons_zero, List.set_cons_succ]
    refine wpQuiet_nil ?_
    intro w' hw'
    go_wp2_with fail
    go_ret
    exact ⟨rfl, by rw [hB]; exact KB.out.trans (hw'.mono hV)⟩

theorem walk (a b c f : Nat → Nat) (w : World) (ha : ∀ i, a i < 256) (hb : ∀ i, b i < 256) (hc : ∀ i, c i < 256) (hf : ∀ i, f i < 256) :
    Calls Try.prog 8 #[.agg (byteCells a 32).toArray, .agg (byteCells b 32).toArray, .agg (byteCells c 32).toArray, .agg (byteCells f 32).toArray] w fun e w' => e = .returned (.bool true) ∧ Below w.heap.size w w' := by
  obtain ⟨u, hu⟩ : ∃ u : Fin P, tk f = u.val := ⟨⟨tk f, tk_lt f⟩, rfl⟩
  refine core a b c f _ _ _ _ _ _ _ _ (mul_any c f hc hf u hu) (mul_any b _ hb (byteAt_lt _) _ (tk_of _)) (mul_any a _ ha (byteAt_lt _) _ (tk_of _)) (mul_any a f ha hf u hu) (mul_any b _ hb (byteAt_lt _) _ (tk_of _)) (mul_any c _ hc (byteAt_lt _) _ (tk_of _)) (mul_any a _ ha (byteAt_lt _) _ (tk_of _)) (mul_any b _ hb (byteAt_lt _) _ (tk_of _)) (same_of ?_) (same_of ?_) w
  · rw [mulN_comm b c hb hc, mulN_comm a c ha hc, mulN_comm a b ha hb]
  · rw [mulN_comm a b ha hb]

end CurveThree
end Go.Proofs.Ytnopjjkijedpeaa
