/- 'aditlaw09.StampTotal' returns true at every input and writes nothing that was there: the walk. No condition. -/
import Derived.Test.YthjmbfhakccomaaStampAlive
import Derived.Test.YthjmbfhakccomaaQuietB
namespace Go.Proofs.Ythjmbfhakccomaa
namespace StampTotal
open Go.ChangeShapes Go.WideShapes Go.ChangeAt Go.RowKit
open Num Mem Words Chacha Aead Ref Quiet Stamp

set_option maxRecDepth 100000 in
set_option maxHeartbeats 4000000 in
theorem runE (f g h : Nat → Nat) (hf : ∀ i, f i < 256) (hg : ∀ i, g i < 256) (_ : ∀ i, h i < 256) (he : whole f = whole g) (w : World) :
    Calls Try.prog 7 #[.agg (byteCells f 12).toArray, .agg (byteCells g 12).toArray, .agg (byteCells h 12).toArray] w fun e w' => e = .returned (.bool true) ∧ Below w.heap.size w w' := by
  have HZ12 := Lib.hid (show ∀ f, (byteCells f 12).toArray.size = 12 from fun f => by rw [List.size_toArray, byteCells_length])
  have Cfg := Lib.hid (fun w => after_any f g hf hg w)
  rw [show decide (whole g < whole f) = false from decide_eq_false (by omega)] at Cfg
  have Cgf := Lib.hid (fun w => after_any g f hg hf w)
  rw [show decide (whole f < whole g) = false from decide_eq_false (by omega)] at Cgf
  have EQ := Lib.hid (fun w => run_eql_arr (P := Try.prog) 22 5 12 Try.underlying22 Try.underlying5 size_u8 f g hf hg true (by rw [← whole_inj f g hf hg]; exact ⟨fun _ => he, fun _ => rfl⟩) w)
  clear he
  rw [byteCells_lit12 f, byteCells_lit12 g, byteCells_lit12 h]
  go_enter Try.func7, Try.ntmps7
  go_upto_region 1 with fail
  rw [← byteCells_lit12 f, ← byteCells_lit12 g, ← byteCells_lit12 h]
  refine cut_world (fun W => Whole W (w.heap.size) 22 (byteCells f 12).toArray ∧ Whole W (w.heap.size + 1) 22 (byteCells g 12).toArray ∧ Whole W (w.heap.size + 1 + 1) 22 (byteCells h 12).toArray ∧ Below w.heap.size w W) ⟨((whole_new _ _ rfl).alloc _).alloc _, (whole_new _ _ (by simp)).alloc _, whole_new _ _ (by simp), below_alloc (below_alloc (below_alloc (Below.refl _ _) _) _) _⟩ ?_
  rintro W ⟨kf, kg, kh, kb⟩
  have Kf := Lib.hid kf
  have Kg := Lib.hid kg
  have Kh := Lib.hid kh
  have KB := Lib.hid kb
  have lo := kb.size
  have lt := kh.lt
  clear kf kg kh kb
  generalize hB : w.heap.size = B at Kf Kg Kh KB lo lt ⊢
  have HB := Lib.hid hB
  clear hB
  go_upto_region 1 with fail
  refine q_start (by kernel_rfl) (by kernel_rfl) ?_
  refine q_take _ (by rfl) (fun x hx => run_load_in 22 (.tmp 3) rfl (B) rfl (byteCells (f) 12).toArray 12 (by rw [List.size_toArray, byteCells_length]) ((Kf.out).below hx (Kf.out).lt) rfl rfl (by kernel_rfl)) ?_
  try simp only [Act.put, List.setIfInBounds_toArray, List.set_cons_zero, List.set_cons_succ]
  refine q_take _ (by rfl) (fun x hx => run_load_in 22 (.tmp 4) rfl (B + 1) rfl (byteCells (g) 12).toArray 12 (by rw [List.size_toArray, byteCells_length]) ((Kg.out).below hx (Kg.out).lt) rfl rfl (by kernel_rfl)) ?_
  try simp only [Act.put, List.setIfInBounds_toArray, List.set_cons_zero, List.set_cons_succ]
  refine q_take _ (by rfl) (by intro w _; go_simp; simp only [EQ.out, Result.andThen_ok]; try with_reducible rfl) ?_
  try simp only [Act.put, List.setIfInBounds_toArray, List.set_cons_zero, List.set_cons_succ]
  refine q_take _ (by rfl) (by intro w _; go_simp; try with_reducible rfl) ?_
  try simp only [Act.put, List.setIfInBounds_toArray, List.set_cons_zero, List.set_cons_succ]
  refine q_pass (by rfl) ?_
  try simp only [Act.put, List.setIfInBounds_toArray, List.set_cons_zero, List.set_cons_succ]
  refine q_pass (by rfl) ?_
  try simp only [Act.put, List.setIfInBounds_toArray, List.set_cons_zero, List.set_cons_succ]
  refine q_pass (by rfl) ?_
  try simp only [Act.put, List.setIfInBounds_toArray, List.set_cons_zero, List.set_cons_succ]
  refine q_pass (by rfl) ?_
  try simp only [Act.put, List.setIfInBounds_toArray, List.set_cons_zero, List.set_cons_succ]
  refine q_pass (by rfl) ?_
  try simp only [Act.put, List.setIfInBounds_toArray, List.set_cons_zero, List.set_cons_succ]
  refine q_pass (by rfl) ?_
  try simp only [Act.put, List.setIfInBounds_toArray, List.set_cons_zero, List.set_cons_succ]
  refine q_pass (by rfl) ?_
  try simp only [Act.put, List.setIfInBounds_toArray, List.set_cons_zero, List.set_cons_succ]
  refine q_take _ (by rfl) (by intro w _; go_simp; try with_reducible rfl) ?_
  try simp only [Act.put, List.setIfInBounds_toArray, List.set_cons_zero, List.set_cons_succ]
  refine q_take _ (by rfl) (by intro w _; go_simp; try with_reducible rfl) ?_
  try simp only [Act.put, List.setIfInBounds_toArray, List.set_cons_zero, List.set_cons_succ]
  refine q_take _ (by rfl) (fun x hx => run_load_in 22 (.tmp 3) rfl (B) rfl (byteCells (f) 12).toArray 12 (by rw [List.size_toArray, byteCells_length]) ((Kf.out).below hx (Kf.out).lt) rfl rfl (by kernel_rfl)) ?_
  try simp only [Act.put, List.setIfInBounds_toArray, List.set_cons_zero, List.set_cons_succ]
  refine q_take _ (by rfl) (fun x hx => run_load_in 22 (.tmp 4) rfl (B + 1) rfl (byteCells (g) 12).toArray 12 (by rw [List.size_toArray, byteCells_length]) ((Kg.out).below hx (Kg.out).lt) rfl rfl (by kernel_rfl)) ?_
  try simp only [Act.put, List.setIfInBounds_toArray, List.set_cons_zero, List.set_cons_succ]
  refine q_take _ (by rfl) (by intro w _; go_simp; simp only [EQ.out, Result.andThen_ok]; try with_reducible rfl) ?_
  try simp only [Act.put, List.setIfInBounds_toArray, List.set_cons_zero, List.set_cons_succ]
  refine q_take _ (by rfl) (by intro w _; go_simp; try with_reducible rfl) ?_
  try simp only [Act.put, List.setIfInBounds_toArray, List.set_cons_zero, List.set_cons_succ]
  refine q_take _ (by rfl) (fun x hx => run_load_in 22 (.tmp 3) rfl (B) rfl (byteCells (f) 12).toArray 12 (by rw [List.size_toArray, byteCells_length]) ((Kf.out).below hx (Kf.out).lt) rfl rfl (by kernel_rfl)) ?_
  try simp only [Act.put, List.setIfInBounds_toArray, List.set_cons_zero, List.set_cons_succ]
  refine q_take _ (by rfl) (fun x hx => run_load_in 22 (.tmp 4) rfl (B + 1) rfl (byteCells (g) 12).toArray 12 (by rw [List.size_toArray, byteCells_length]) ((Kg.out).below hx (Kg.out).lt) rfl rfl (by kernel_rfl)) ?_
  try simp only [Act.put, List.setIfInBounds_toArray, List.set_cons_zero, List.set_cons_succ]
  refine q_call (.bool false) 20 (#[.agg (byteCells f 12).toArray, .agg (byteCells g 12).toArray]) (by rfl) (by intro w; go_simp; try try with_reducible rfl) (fun x hx => (Cfg.out x).mono fun e w' ⟨he, hb⟩ => ⟨he, below_trans hx hb⟩) ?_
  try simp only [Act.put, List.setIfInBounds_toArray, List.set_cons_zero, List.set_cons_succ]
  refine q_take _ (by rfl) (by intro w _; go_simp; try with_reducible rfl) ?_
  try simp only [Act.put, List.setIfInBounds_toArray, List.set_cons_zero, List.set_cons_succ]
  refine q_take _ (by rfl) (by intro w _; go_simp; try with_reducible rfl) ?_
  try simp only [Act.put, List.setIfInBounds_toArray, List.set_cons_zero, List.set_cons_succ]
  refine wpQuiet_nil ?_
  intro w2 hb
  have lt_f := Kf.out.lt
  have lt_g := Kg.out.lt
  have lt_h := Kh.out.lt
  replace Kf := Lib.hid (Kf.out.below hb lt_f)
  replace Kg := Lib.hid (Kg.out.below hb lt_g)
  replace Kh := Lib.hid (Kh.out.below hb lt_h)
  replace KB := Lib.hid (KB.out.trans (hb.mono (by omega)))
  have hsz0 := hb.size
  clear hb
  go_wp2_with fail
  refine (alive_any _).mono ?_
  rintro e w3 ⟨rfl, hb⟩
  have lt_Kf := Kf.out.lt
  have lt_Kg := Kg.out.lt
  have lt_Kh := Kh.out.lt
  replace Kf := Lib.hid (Kf.out.below hb lt_Kf)
  replace Kg := Lib.hid (Kg.out.below hb lt_Kg)
  replace Kh := Lib.hid (Kh.out.below hb lt_Kh)
  have hsz := hb.size
  replace KB := Lib.hid (KB.out.trans (hb.mono (by omega)))
  clear hb
  go_wp2_with (first | (refine wpList_load_row_if (by rfl) 22 (.tmp 3) rfl (B) rfl 22 (byteCells (f) 12) _ Kf.out rfl rfl (by rw [byteCells_length]; kernel_rfl) ?_) | (refine wpList_load_row_if (by rfl) 22 (.tmp 4) rfl (B + 1) rfl 22 (byteCells (g) 12) _ Kg.out rfl rfl (by rw [byteCells_length]; kernel_rfl) ?_) | (refine wpList_load_row_if (by rfl) 22 (.tmp 5) rfl (B + 1 + 1) rfl 22 (byteCells (h) 12) _ Kh.out rfl rfl (by rw [byteCells_length]; kernel_rfl) ?_))
  refine (Cfg.out _).mono ?_
  rintro e w4 ⟨rfl, hb⟩
  have lt_Kf := Kf.out.lt
  have lt_Kg := Kg.out.lt
  have lt_Kh := Kh.out.lt
  replace Kf := Lib.hid (Kf.out.below hb lt_Kf)
  replace Kg := Lib.hid (Kg.out.below hb lt_Kg)
  replace Kh := Lib.hid (Kh.out.below hb lt_Kh)
  have hsz := hb.size
  replace KB := Lib.hid (KB.out.trans (hb.mono (by omega)))
  clear hb
  go_wp2_with fail
  go_ret
  exact ⟨rfl, by rw [HB.out]; exact KB.out⟩

set_option maxRecDepth 100000 in
set_option maxHeartbeats 4000000 in
theorem runL (f g h : Nat → Nat) (hf : ∀ i, f i < 256) (hg : ∀ i, g i < 256) (_ : ∀ i, h i < 256) (he : whole f < whole g) (w : World) :
    Calls Try.prog 7 #[.agg (byteCells f 12).toArray, .agg (byteCells g 12).toArray, .agg (byteCells h 12).toArray] w fun e w' => e = .returned (.bool true) ∧ Below w.heap.size w w' := by
  have HZ12 := Lib.hid (show ∀ f, (byteCells f 12).toArray.size = 12 from fun f => by rw [List.size_toArray, byteCells_length])
  have Cfg := Lib.hid (fun w => after_any f g hf hg w)
  rw [show decide (whole g < whole f) = false from decide_eq_false (by omega)] at Cfg
  have Cgf := Lib.hid (fun w => after_any g f hg hf w)
  rw [show decide (whole f < whole g) = true from decide_eq_true (by omega)] at Cgf
  have EQ := Lib.hid (fun w => run_eql_arr (P := Try.prog) 22 5 12 Try.underlying22 Try.underlying5 size_u8 f g hf hg false (by rw [← whole_inj f g hf hg]; exact ⟨fun e => (by cases e), fun k => absurd k (by omega)⟩) w)
  clear he
  rw [byteCells_lit12 f, byteCells_lit12 g, byteCells_lit12 h]
  go_enter Try.func7, Try.ntmps7
  go_upto_region 1 with fail
  rw [← byteCells_lit12 f, ← byteCells_lit12 g, ← byteCells_lit12 h]
  refine cut_world (fun W => Whole W (w.heap.size) 22 (byteCells f 12).toArray ∧ Whole W (w.heap.size + 1) 22 (byteCells g 12).toArray ∧ Whole W (w.heap.size + 1 + 1) 22 (byteCells h 12).toArray ∧ Below w.heap.size w W) ⟨((whole_new _ _ rfl).alloc _).alloc _, (whole_new _ _ (by simp)).alloc _, whole_new _ _ (by simp), below_alloc (below_alloc (below_alloc (Below.refl _ _) _) _) _⟩ ?_
  rintro W ⟨kf, kg, kh, kb⟩
  have Kf := Lib.hid kf
  have Kg := Lib.hid kg
  have Kh := Lib.hid kh
  have KB := Lib.hid kb
  have lo := kb.size
  have lt := kh.lt
  clear kf kg kh kb
  generalize hB : w.heap.size = B at Kf Kg Kh KB lo lt ⊢
  have HB := Lib.hid hB
  clear hB
  go_upto_region 1 with fail
  refine q_start (by kernel_rfl) (by kernel_rfl) ?_
  refine q_take _ (by rfl) (fun x hx => run_load_in 22 (.tmp 3) rfl (B) rfl (byteCells (f) 12).toArray 12 (by rw [List.size_toArray, byteCells_length]) ((Kf.out).below hx (Kf.out).lt) rfl rfl (by kernel_rfl)) ?_
  try simp only [Act.put, List.setIfInBounds_toArray, List.set_cons_zero, List.set_cons_succ]
  refine q_take _ (by rfl) (fun x hx => run_load_in 22 (.tmp 4) rfl (B + 1) rfl (byteCells (g) 12).toArray 12 (by rw [List.size_toArray, byteCells_length]) ((Kg.out).below hx (Kg.out).lt) rfl rfl (by kernel_rfl)) ?_
  try simp only [Act.put, List.setIfInBounds_toArray, List.set_cons_zero, List.set_cons_succ]
  refine q_take _ (by rfl) (by intro w _; go_simp; simp only [EQ.out, Result.andThen_ok]; try with_reducible rfl) ?_
  try simp only [Act.put, List.setIfInBounds_toArray, List.set_cons_zero, List.set_cons_succ]
  refine q_take _ (by rfl) (by intro w _; go_simp; try with_reducible rfl) ?_
  try simp only [Act.put, List.setIfInBounds_toArray, List.set_cons_zero, List.set_cons_succ]
  refine q_take _ (by rfl) (fun x hx => run_load_in 22 (.tmp 3) rfl (B) rfl (byteCells (f) 12).toArray 12 (by rw [List.size_toArray, byteCells_length]) ((Kf.out).below hx (Kf.out).lt) rfl rfl (by kernel_rfl)) ?_
  try simp only [Act.put, List.setIfInBounds_toArray, List.set_cons_zero, List.set_cons_succ]
  refine q_take _ (by rfl) (fun x hx => run_load_in 22 (.tmp 4) rfl (B + 1) rfl (byteCells (g) 12).toArray 12 (by rw [List.size_toArray, byteCells_length]) ((Kg.out).below hx (Kg.out).lt) rfl rfl (by kernel_rfl)) ?_
  try simp only [Act.put, List.setIfInBounds_toArray, List.set_cons_zero, List.set_cons_succ]
  refine q_call (.bool false) 20 (#[.agg (byteCells f 12).toArray, .agg (byteCells g 12).toArray]) (by rfl) (by intro w; go_simp; try try with_reducible rfl) (fun x hx => (Cfg.out x).mono fun e w' ⟨he, hb⟩ => ⟨he, below_trans hx hb⟩) ?_
  try simp only [Act.put, List.setIfInBounds_toArray, List.set_cons_zero, List.set_cons_succ]
  refine q_take _ (by rfl) (fun x hx => run_load_in 22 (.tmp 4) rfl (B + 1) rfl (byteCells (g) 12).toArray 12 (by rw [List.size_toArray, byteCells_length]) ((Kg.out).below hx (Kg.out).lt) rfl rfl (by kernel_rfl)) ?_
  try simp only [Act.put, List.setIfInBounds_toArray, List.set_cons_zero, List.set_cons_succ]
  refine q_take _ (by rfl) (fun x hx => run_load_in 22 (.tmp 3) rfl (B) rfl (byteCells (f) 12).toArray 12 (by rw [List.size_toArray, byteCells_length]) ((Kf.out).below hx (Kf.out).lt) rfl rfl (by kernel_rfl)) ?_
  try simp only [Act.put, List.setIfInBounds_toArray, List.set_cons_zero, List.set_cons_succ]
  refine q_call (.bool true) 20 (#[.agg (byteCells g 12).toArray, .agg (byteCells f 12).toArray]) (by rfl) (by intro w; go_simp; try try with_reducible rfl) (fun x hx => (Cgf.out x).mono fun e w' ⟨he, hb⟩ => ⟨he, below_trans hx hb⟩) ?_
  try simp only [Act.put, List.setIfInBounds_toArray, List.set_cons_zero, List.set_cons_succ]
  refine q_take _ (by rfl) (by intro w _; go_simp; try with_reducible rfl) ?_
  try simp only [Act.put, List.setIfInBounds_toArray, List.set_cons_zero, List.set_cons_succ]
  refine q_take _ (by rfl) (by intro w _; go_simp; try with_reducible rfl) ?_
  try simp only [Act.put, List.setIfInBounds_toArray, List.set_cons_zero, List.set_cons_succ]
  refine q_take _ (by rfl) (by intro w _; go_simp; try with_reducible rfl) ?_
  try simp only [Act.put, List.setIfInBounds_toArray, List.set_cons_zero, List.set_cons_succ]
  refine q_take _ (by rfl) (fun x hx => run_load_in 22 (.tmp 3) rfl (B) rfl (byteCells (f) 12).toArray 12 (by rw [List.size_toArray, byteCells_length]) ((Kf.out).below hx (Kf.out).lt) rfl rfl (by kernel_rfl)) ?_
  try simp only [Act.put, List.setIfInBounds_toArray, List.set_cons_zero, List.set_cons_succ]
  refine q_take _ (by rfl) (fun x hx => run_load_in 22 (.tmp 4) rfl (B + 1) rfl (byteCells (g) 12).toArray 12 (by rw [List.size_toArray, byteCells_length]) ((Kg.out).below hx (Kg.out).lt) rfl rfl (by kernel_rfl)) ?_
  try simp only [Act.put, List.setIfInBounds_toArray, List.set_cons_zero, List.set_cons_succ]
  refine q_take _ (by rfl) (by intro w _; go_simp; simp only [EQ.out, Result.andThen_ok]; try with_reducible rfl) ?_
  try simp only [Act.put, List.setIfInBounds_toArray, List.set_cons_zero, List.set_cons_succ]
  refine q_take _ (by rfl) (by intro w _; go_simp; try with_reducible rfl) ?_
  try simp only [Act.put, List.setIfInBounds_toArray, List.set_cons_zero, List.set_cons_succ]
  refine q_pass (by rfl) ?_
  try simp only [Act.put, List.setIfInBounds_toArray, List.set_cons_zero, List.set_cons_succ]
  refine q_pass (by rfl) ?_
  try simp only [Act.put, List.setIfInBounds_toArray, List.set_cons_zero, List.set_cons_succ]
  refine q_pass (by rfl) ?_
  try simp only [Act.put, List.setIfInBounds_toArray, List.set_cons_zero, List.set_cons_succ]
  refine q_take _ (by rfl) (by intro w _; go_simp; try with_reducible rfl) ?_
  try simp only [Act.put, List.setIfInBounds_toArray, List.set_cons_zero, List.set_cons_succ]
  refine q_take _ (by rfl) (by intro w _; go_simp; try with_reducible rfl) ?_
  try simp only [Act.put, List.setIfInBounds_toArray, List.set_cons_zero, List.set_cons_succ]
  refine wpQuiet_nil ?_
  intro w2 hb
  have lt_f := Kf.out.lt
  have lt_g := Kg.out.lt
  have lt_h := Kh.out.lt
  replace Kf := Lib.hid (Kf.out.below hb lt_f)
  replace Kg := Lib.hid (Kg.out.below hb lt_g)
  replace Kh := Lib.hid (Kh.out.below hb lt_h)
  replace KB := Lib.hid (KB.out.trans (hb.mono (by omega)))
  have hsz0 := hb.size
  clear hb
  go_wp2_with fail
  refine (alive_any _).mono ?_
  rintro e w3 ⟨rfl, hb⟩
  have lt_Kf := Kf.out.lt
  have lt_Kg := Kg.out.lt
  have lt_Kh := Kh.out.lt
  replace Kf := Lib.hid (Kf.out.below hb lt_Kf)
  replace Kg := Lib.hid (Kg.out.below hb lt_Kg)
  replace Kh := Lib.hid (Kh.out.below hb lt_Kh)
  have hsz := hb.size
  replace KB := Lib.hid (KB.out.trans (hb.mono (by omega)))
  clear hb
  go_wp2_with (first | (refine wpList_load_row_if (by rfl) 22 (.tmp 3) rfl (B) rfl 22 (byteCells (f) 12) _ Kf.out rfl rfl (by rw [byteCells_length]; kernel_rfl) ?_) | (refine wpList_load_row_if (by rfl) 22 (.tmp 4) rfl (B + 1) rfl 22 (byteCells (g) 12) _ Kg.out rfl rfl (by rw [byteCells_length]; kernel_rfl) ?_) | (refine wpList_load_row_if (by rfl) 22 (.tmp 5) rfl (B + 1 + 1) rfl 22 (byteCells (h) 12) _ Kh.out rfl rfl (by rw [byteCells_length]; kernel_rfl) ?_))
  refine (Cfg.out _).mono ?_
  rintro e w4 ⟨rfl, hb⟩
  have lt_Kf := Kf.out.lt
  have lt_Kg := Kg.out.lt
  have lt_Kh := Kh.out.lt
  replace Kf := Lib.hid (Kf.out.below hb lt_Kf)
  replace Kg := Lib.hid (Kg.out.below hb lt_Kg)
  replace Kh := Lib.hid (Kh.out.below hb lt_Kh)
  have hsz := hb.size
  replace KB := Lib.hid (KB.out.trans (hb.mono (by omega)))
  clear hb
  go_wp2_with fail
  go_ret
  exact ⟨rfl, by rw [HB.out]; exact KB.out⟩

set_option maxRecDepth 100000 in
set_option maxHeartbeats 4000000 in
theorem runG0 (f g h : Nat → Nat) (hf : ∀ i, f i < 256) (hg : ∀ i, g i < 256) (hh : ∀ i, h i < 256) (he : whole g < whole f) (hk : ¬ whole h < whole g) (w : World) :
    Calls Try.prog 7 #[.agg (byteCells f 12).toArray, .agg (byteCells g 12).toArray, .agg (byteCells h 12).toArray] w fun e w' => e = .returned (.bool true) ∧ Below w.heap.size w w' := by
  have HZ12 := Lib.hid (show ∀ f, (byteCells f 12).toArray.size = 12 from fun f => by rw [List.size_toArray, byteCells_length])
  have Cfg := Lib.hid (fun w => after_any f g hf hg w)
  rw [show decide (whole g < whole f) = true from decide_eq_true (by omega)] at Cfg
  have Cgf := Lib.hid (fun w => after_any g f hg hf w)
  rw [show decide (whole f < whole g) = false from decide_eq_false (by omega)] at Cgf
  have Cgh := Lib.hid (fun w => after_any g h hg hh w)
  rw [show decide (whole h < whole g) = false from decide_eq_false (by omega)] at Cgh
  have EQ := Lib.hid (fun w => run_eql_arr (P := Try.prog) 22 5 12 Try.underlying22 Try.underlying5 size_u8 f g hf hg false (by rw [← whole_inj f g hf hg]; exact ⟨fun e => (by cases e), fun k => absurd k (by omega)⟩) w)
  clear he hk
  rw [byteCells_lit12 f, byteCells_lit12 g, byteCells_lit12 h]
  go_enter Try.func7, Try.ntmps7
  go_upto_region 1 with fail
  rw [← byteCells_lit12 f, ← byteCells_lit12 g, ← byteCells_lit12 h]
  refine cut_world (fun W => Whole W (w.heap.size) 22 (byteCells f 12).toArray ∧ Whole W (w.heap.size + 1) 22 (byteCells g 12).toArray ∧ Whole W (w.heap.size + 1 + 1) 22 (byteCells h 12).toArray ∧ Below w.heap.size w W) ⟨((whole_new _ _ rfl).alloc _).alloc _, (whole_new _ _ (by simp)).alloc _, whole_new _ _ (by simp), below_alloc (below_alloc (below_alloc (Below.refl _ _) _) _) _⟩ ?_
  rintro W ⟨kf, kg, kh, kb⟩
  have Kf := Lib.hid kf
  have Kg := Lib.hid kg
  have Kh := Lib.hid kh
  have KB := Lib.hid kb
  have lo := kb.size
  have lt := kh.lt
  clear kf kg kh kb
  generalize hB : w.heap.size = B at Kf Kg Kh KB lo lt ⊢
  have HB := Lib.hid hB
  clear hB
  go_upto_region 1 with fail
  refine q_start (by kernel_rfl) (by kernel_rfl) ?_
  refine q_take _ (by rfl) (fun x hx => run_load_in 22 (.tmp 3) rfl (B) rfl (byteCells (f) 12).toArray 12 (by rw [List.size_toArray, byteCells_length]) ((Kf.out).below hx (Kf.out).lt) rfl rfl (by kernel_rfl)) ?_
  try simp only [Act.put, List.setIfInBounds_toArray, List.set_cons_zero, List.set_cons_succ]
  refine q_take _ (by rfl) (fun x hx => run_load_in 22 (.tmp 4) rfl (B + 1) rfl (byteCells (g) 12).toArray 12 (by rw [List.size_toArray, byteCells_length]) ((Kg.out).below hx (Kg.out).lt) rfl rfl (by kernel_rfl)) ?_
  try simp only [Act.put, List.setIfInBounds_toArray, List.set_cons_zero, List.set_cons_succ]
  refine q_take _ (by rfl) (by intro w _; go_simp; simp only [EQ.out, Result.andThen_ok]; try with_reducible rfl) ?_
  try simp only [Act.put, List.setIfInBounds_toArray, List.set_cons_zero, List.set_cons_succ]
  refine q_take _ (by rfl) (by intro w _; go_simp; try with_reducible rfl) ?_
  try simp only [Act.put, List.setIfInBounds_toArray, List.set_cons_zero, List.set_cons_succ]
  refine q_take _ (by rfl) (fun x hx => run_load_in 22 (.tmp 3) rfl (B) rfl (byteCells (f) 12).toArray 12 (by rw [List.size_toArray, byteCells_length]) ((Kf.out).below hx (Kf.out).lt) rfl rfl (by kernel_rfl)) ?_
  try simp only [Act.put, List.setIfInBounds_toArray, List.set_cons_zero, List.set_cons_succ]
  refine q_take _ (by rfl) (fun x hx => run_load_in 22 (.tmp 4) rfl (B + 1) rfl (byteCells (g) 12).toArray 12 (by rw [List.size_toArray, byteCells_length]) ((Kg.out).below hx (Kg.out).lt) rfl rfl (by kernel_rfl)) ?_
  try simp only [Act.put, List.setIfInBounds_toArray, List.set_cons_zero, List.set_cons_succ]
  refine q_call (.bool true) 20 (#[.agg (byteCells f 12).toArray, .agg (byteCells g 12).toArray]) (by rfl) (by intro w; go_simp; try try with_reducible rfl) (fun x hx => (Cfg.out x).mono fun e w' ⟨he, hb⟩ => ⟨he, below_trans hx hb⟩) ?_
  try simp only [Act.put, List.setIfInBounds_toArray, List.set_cons_zero, List.set_cons_succ]
  refine q_take _ (by rfl) (fun x hx => run_load_in 22 (.tmp 4) rfl (B + 1) rfl (byteCells (g) 12).toArray 12 (by rw [List.size_toArray, byteCells_length]) ((Kg.out).below hx (Kg.out).lt) rfl rfl (by kernel_rfl)) ?_
  try simp only [Act.put, List.setIfInBounds_toArray, List.set_cons_zero, List.set_cons_succ]
  refine q_take _ (by rfl) (fun x hx => run_load_in 22 (.tmp 3) rfl (B) rfl (byteCells (f) 12).toArray 12 (by rw [List.size_toArray, byteCells_length]) ((Kf.out).below hx (Kf.out).lt) rfl rfl (by kernel_rfl)) ?_
  try simp only [Act.put, List.setIfInBounds_toArray, List.set_cons_zero, List.set_cons_succ]
  refine q_call (.bool false) 20 (#[.agg (byteCells g 12).toArray, .agg (byteCells f 12).toArray]) (by rfl) (by intro w; go_simp; try try with_reducible rfl) (fun x hx => (Cgf.out x).mono fun e w' ⟨he, hb⟩ => ⟨he, below_trans hx hb⟩) ?_
  try simp only [Act.put, List.setIfInBounds_toArray, List.set_cons_zero, List.set_cons_succ]
  refine q_take _ (by rfl) (by intro w _; go_simp; try with_reducible rfl) ?_
  try simp only [Act.put, List.setIfInBounds_toArray, List.set_cons_zero, List.set_cons_succ]
  refine q_take _ (by rfl) (by intro w _; go_simp; try with_reducible rfl) ?_
  try simp only [Act.put, List.setIfInBounds_toArray, List.set_cons_zero, List.set_cons_succ]
  refine q_take _ (by rfl) (by intro w _; go_simp; try with_reducible rfl) ?_
  try simp only [Act.put, List.setIfInBounds_toArray, List.set_cons_zero, List.set_cons_succ]
  refine q_take _ (by rfl) (fun x hx => run_load_in 22 (.tmp 3) rfl (B) rfl (byteCells (f) 12).toArray 12 (by rw [List.size_toArray, byteCells_length]) ((Kf.out).below hx (Kf.out).lt) rfl rfl (by kernel_rfl)) ?_
  try simp only [Act.put, List.setIfInBounds_toArray, List.set_cons_zero, List.set_cons_succ]
  refine q_take _ (by rfl) (fun x hx => run_load_in 22 (.tmp 4) rfl (B + 1) rfl (byteCells (g) 12).toArray 12 (by rw [List.size_toArray, byteCells_length]) ((Kg.out).below hx (Kg.out).lt) rfl rfl (by kernel_rfl)) ?_
  try simp only [Act.put, List.setIfInBounds_toArray, List.set_cons_zero, List.set_cons_succ]
  refine q_take _ (by rfl) (by intro w _; go_simp; simp only [EQ.out, Result.andThen_ok]; try with_reducible rfl) ?_
  try simp only [Act.put, List.setIfInBounds_toArray, List.set_cons_zero, List.set_cons_succ]
  refine q_take _ (by rfl) (by intro w _; go_simp; try with_reducible rfl) ?_
  try simp only [Act.put, List.setIfInBounds_toArray, List.set_cons_zero, List.set_cons_succ]
  refine q_pass (by rfl) ?_
  try simp only [Act.put, List.setIfInBounds_toArray, List.set_cons_zero, List.set_cons_succ]
  refine q_pass (by rfl) ?_
  try simp only [Act.put, List.setIfInBounds_toArray, List.set_cons_zero, List.set_cons_succ]
  refine q_pass (by rfl) ?_
  try simp only [Act.put, List.setIfInBounds_toArray, List.set_cons_zero, List.set_cons_succ]
  refine q_take _ (by rfl) (by intro w _; go_simp; try with_reducible rfl) ?_
  try simp only [Act.put, List.setIfInBounds_toArray, List.set_cons_zero, List.set_cons_succ]
  refine q_take _ (by rfl) (by intro w _; go_simp; try with_reducible rfl) ?_
  try simp only [Act.put, List.setIfInBounds_toArray, List.set_cons_zero, List.set_cons_succ]
  refine wpQuiet_nil ?_
  intro w2 hb
  have lt_f := Kf.out.lt
  have lt_g := Kg.out.lt
  have lt_h := Kh.out.lt
  replace Kf := Lib.hid (Kf.out.below hb lt_f)
  replace Kg := Lib.hid (Kg.out.below hb lt_g)
  replace Kh := Lib.hid (Kh.out.below hb lt_h)
  replace KB := Lib.hid (KB.out.trans (hb.mono (by omega)))
  have hsz0 := hb.size
  clear hb
  go_wp2_with fail
  refine (alive_any _).mono ?_
  rintro e w3 ⟨rfl, hb⟩
  have lt_Kf := Kf.out.lt
  have lt_Kg := Kg.out.lt
  have lt_Kh := Kh.out.lt
  replace Kf := Lib.hid (Kf.out.below hb lt_Kf)
  replace Kg := Lib.hid (Kg.out.below hb lt_Kg)
  replace Kh := Lib.hid (Kh.out.below hb lt_Kh)
  have hsz := hb.size
  replace KB := Lib.hid (KB.out.trans (hb.mono (by omega)))
  clear hb
  go_wp2_with (first | (refine wpList_load_row_if (by rfl) 22 (.tmp 3) rfl (B) rfl 22 (byteCells (f) 12) _ Kf.out rfl rfl (by rw [byteCells_length]; kernel_rfl) ?_) | (refine wpList_load_row_if (by rfl) 22 (.tmp 4) rfl (B + 1) rfl 22 (byteCells (g) 12) _ Kg.out rfl rfl (by rw [byteCells_length]; kernel_rfl) ?_) | (refine wpList_load_row_if (by rfl) 22 (.tmp 5) rfl (B + 1 + 1) rfl 22 (byteCells (h) 12) _ Kh.out rfl rfl (by rw [byteCells_length]; kernel_rfl) ?_))
  refine (Cfg.out _).mono ?_
  rintro e w4 ⟨rfl, hb⟩
  have lt_Kf := Kf.out.lt
  have lt_Kg := Kg.out.lt
  have lt_Kh := Kh.out.lt
  replace Kf := Lib.hid (Kf.out.below hb lt_Kf)
  replace Kg := Lib.hid (Kg.out.below hb lt_Kg)
  replace Kh := Lib.hid (Kh.out.below hb lt_Kh)
  have hsz := hb.size
  replace KB := Lib.hid (KB.out.trans (hb.mono (by omega)))
  clear hb
  go_wp2_with (first | (refine wpList_load_row_if (by rfl) 22 (.tmp 3) rfl (B) rfl 22 (byteCells (f) 12) _ Kf.out rfl rfl (by rw [byteCells_length]; kernel_rfl) ?_) | (refine wpList_load_row_if (by rfl) 22 (.tmp 4) rfl (B + 1) rfl 22 (byteCells (g) 12) _ Kg.out rfl rfl (by rw [byteCells_length]; kernel_rfl) ?_) | (refine wpList_load_row_if (by rfl) 22 (.tmp 5) rfl (B + 1 + 1) rfl 22 (byteCells (h) 12) _ Kh.out rfl rfl (by rw [byteCells_length]; kernel_rfl) ?_))
  refine (Cgh.out _).mono ?_
  rintro e w5 ⟨rfl, hb⟩
  have lt_Kf := Kf.out.lt
  have lt_Kg := Kg.out.lt
  have lt_Kh := Kh.out.lt
  replace Kf := Lib.hid (Kf.out.below hb lt_Kf)
  replace Kg := Lib.hid (Kg.out.below hb lt_Kg)
  replace Kh := Lib.hid (Kh.out.below hb lt_Kh)
  have hsz := hb.size
  replace KB := Lib.hid (KB.out.trans (hb.mono (by omega)))
  clear hb
  go_wp2_with fail
  go_ret
  exact ⟨rfl, by rw [HB.out]; exact KB.out⟩

set_option maxRecDepth 100000 in
set_option maxHeartbeats 4000000 in
theorem runG1 (f g h : Nat → Nat) (hf : ∀ i, f i < 256) (hg : ∀ i, g i < 256) (hh : ∀ i, h i < 256) (he : whole g < whole f) (hk : whole h < whole g) (w : World) :
    Calls Try.prog 7 #[.agg (byteCells f 12).toArray, .agg (byteCells g 12).toArray, .agg (byteCells h 12).toArray] w fun e w' => e = .returned (.bool true) ∧ Below w.heap.size w w' := by
  have HZ12 := Lib.hid (show ∀ f, (byteCells f 12).toArray.size = 12 from fun f => by rw [List.size_toArray, byteCells_length])
  have Cfg := Lib.hid (fun w => after_any f g hf hg w)
  rw [show decide (whole g < whole f) = true from decide_eq_true (by omega)] at Cfg
  have Cgf := Lib.hid (fun w => after_any g f hg hf w)
  rw [show decide (whole f < whole g) = false from decide_eq_false (by omega)] at Cgf
  have Cgh := Lib.hid (fun w => after_any g h hg hh w)
  rw [show decide (whole h < whole g) = true from decide_eq_true (by omega)] at Cgh
  have Cfh := Lib.hid (fun w => after_any f h hf hh w)
  rw [show decide (whole h < whole f) = true from decide_eq_true (by omega)] at Cfh
  have EQ := Lib.hid (fun w => run_eql_arr (P := Try.prog) 22 5 12 Try.underlying22 Try.underlying5 size_u8 f g hf hg false (by rw [← whole_inj f g hf hg]; exact ⟨fun e => (by cases e), fun k => absurd k (by omega)⟩) w)
  clear he hk
  rw [byteCells_lit12 f, byteCells_lit12 g, byteCells_lit12 h]
  go_enter Try.func7, Try.ntmps7
  go_upto_region 1 with fail
  rw [← byteCells_lit12 f, ← byteCells_lit12 g, ← byteCells_lit12 h]
  refine cut_world (fun W => Whole W (w.heap.size) 22 (byteCells f 12).toArray ∧ Whole W (w.heap.size + 1) 22 (byteCells g 12).toArray ∧ Whole W (w.heap.size + 1 + 1) 22 (byteCells h 12).toArray ∧ Below w.heap.size w W) ⟨((whole_new _ _ rfl).alloc _).alloc _, (whole_new _ _ (by simp)).alloc _, whole_new _ _ (by simp), below_alloc (below_alloc (below_alloc (Below.refl _ _) _) _) _⟩ ?_
  rintro W ⟨kf, kg, kh, kb⟩
  have Kf := Lib.hid kf
  have Kg := Lib.hid kg
  have Kh := Lib.hid kh
  have KB := Lib.hid kb
  have lo := kb.size
  have lt := kh.lt
  clear kf kg kh kb
  generalize hB : w.heap.size = B at Kf Kg Kh KB lo lt ⊢
  have HB := Lib.hid hB
  clear hB
  go_upto_region 1 with fail
  refine q_start (by kernel_rfl) (by kernel_rfl) ?_
  refine q_take _ (by rfl) (fun x hx => run_load_in 22 (.tmp 3) rfl (B) rfl (byteCells (f) 12).toArray 12 (by rw [List.size_toArray, byteCells_length]) ((Kf.out).below hx (Kf.out).lt) rfl rfl (by kernel_rfl)) ?_
  try simp only [Act.put, List.setIfInBounds_toArray, List.set_cons_zero, List.set_cons_succ]
  refine q_take _ (by rfl) (fun x hx => run_load_in 22 (.tmp 4) rfl (B + 1) rfl (byteCells (g) 12).toArray 12 (by rw [List.size_toArray, byteCells_length]) ((Kg.out).below hx (Kg.out).lt) rfl rfl (by kernel_rfl)) ?_
  try simp only [Act.put, List.setIfInBounds_toArray, List.set_cons_zero, List.set_cons_succ]
  refine q_take _ (by rfl) (by intro w _; go_simp; simp only [EQ.out, Result.andThen_ok]; try with_reducible rfl) ?_
  try simp only [Act.put, List.setIfInBounds_toArray, List.set_cons_zero, List.set_cons_succ]
  refine q_take _ (by rfl) (by intro w _; go_simp; try with_reducible rfl) ?_
  try simp only [Act.put, List.setIfInBounds_toArray, List.set_cons_zero, List.set_cons_succ]
  refine q_take _ (by rfl) (fun x hx => run_load_in 22 (.tmp 3) rfl (B) rfl (byteCells (f) 12).toArray 12 (by rw [List.size_toArray, byteCells_length]) ((Kf.out).below hx (Kf.out).lt) rfl rfl (by kernel_rfl)) ?_
  try simp only [Act.put, List.setIfInBounds_toArray, List.set_cons_zero, List.set_cons_succ]
  refine q_take _ (by rfl) (fun x hx => run_load_in 22 (.tmp 4) rfl (B + 1) rfl (byteCells (g) 12).toArray 12 (by rw [List.size_toArray, byteCells_length]) ((Kg.out).below hx (Kg.out).lt) rfl rfl (by kernel_rfl)) ?_
  try simp only [Act.put, List.setIfInBounds_toArray, List.set_cons_zero, List.set_cons_succ]
  refine q_call (.bool true) 20 (#[.agg (byteCells f 12).toArray, .agg (byteCells g 12).toArray]) (by rfl) (by intro w; go_simp; try try with_reducible rfl) (fun x hx => (Cfg.out x).mono fun e w' ⟨he, hb⟩ => ⟨he, below_trans hx hb⟩) ?_
  try simp only [Act.put, List.setIfInBounds_toArray, List.set_cons_zero, List.set_cons_succ]
  refine q_take _ (by rfl) (fun x hx => run_load_in 22 (.tmp 4) rfl (B + 1) rfl (byteCells (g) 12).toArray 12 (by rw [List.size_toArray, byteCells_length]) ((Kg.out).below hx (Kg.out).lt) rfl rfl (by kernel_rfl)) ?_
  try simp only [Act.put, List.setIfInBounds_toArray, List.set_cons_zero, List.set_cons_succ]
  refine q_take _ (by rfl) (fun x hx => run_load_in 22 (.tmp 3) rfl (B) rfl (byteCells (f) 12).toArray 12 (by rw [List.size_toArray, byteCells_length]) ((Kf.out).below hx (Kf.out).lt) rfl rfl (by kernel_rfl)) ?_
  try simp only [Act.put, List.setIfInBounds_toArray, List.set_cons_zero, List.set_cons_succ]
  refine q_call (.bool false) 20 (#[.agg (byteCells g 12).toArray, .agg (byteCells f 12).toArray]) (by rfl) (by intro w; go_simp; try try with_reducible rfl) (fun x hx => (Cgf.out x).mono fun e w' ⟨he, hb⟩ => ⟨he, below_trans hx hb⟩) ?_
  try simp only [Act.put, List.setIfInBounds_toArray, List.set_cons_zero, List.set_cons_succ]
  refine q_take _ (by rfl) (by intro w _; go_simp; try with_reducible rfl) ?_
  try simp only [Act.put, List.setIfInBounds_toArray, List.set_cons_zero, List.set_cons_succ]
  refine q_take _ (by rfl) (by intro w _; go_simp; try with_reducible rfl) ?_
  try simp only [Act.put, List.setIfInBounds_toArray, List.set_cons_zero, List.set_cons_succ]
  refine q_take _ (by rfl) (by intro w _; go_simp; try with_reducible rfl) ?_
  try simp only [Act.put, List.setIfInBounds_toArray, List.set_cons_zero, List.set_cons_succ]
  refine q_take _ (by rfl) (fun x hx => run_load_in 22 (.tmp 3) rfl (B) rfl (byteCells (f) 12).toArray 12 (by rw [List.size_toArray, byteCells_length]) ((Kf.out).below hx (Kf.out).lt) rfl rfl (by kernel_rfl)) ?_
  try simp only [Act.put, List.setIfInBounds_toArray, List.set_cons_zero, List.set_cons_succ]
  refine q_take _ (by rfl) (fun x hx => run_load_in 22 (.tmp 4) rfl (B + 1) rfl (byteCells (g) 12).toArray 12 (by rw [List.size_toArray, byteCells_length]) ((Kg.out).below hx (Kg.out).lt) rfl rfl (by kernel_rfl)) ?_
  try simp only [Act.put, List.setIfInBounds_toArray, List.set_cons_zero, List.set_cons_succ]
  refine q_take _ (by rfl) (by intro w _; go_simp; simp only [EQ.out, Result.andThen_ok]; try with_reducible rfl) ?_
  try simp only [Act.put, List.setIfInBounds_toArray, List.set_cons_zero, List.set_cons_succ]
  refine q_take _ (by rfl) (by intro w _; go_simp; try with_reducible rfl) ?_
  try simp only [Act.put, List.setIfInBounds_toArray, List.set_cons_zero, List.set_cons_succ]
  refine q_pass (by rfl) ?_
  try simp only [Act.put, List.setIfInBounds_toArray, List.set_cons_zero, List.set_cons_succ]
  refine q_pass (by rfl) ?_
  try simp only [Act.put, List.setIfInBounds_toArray, List.set_cons_zero, List.set_cons_succ]
  refine q_pass (by rfl) ?_
  try simp only [Act.put, List.setIfInBounds_toArray, List.set_cons_zero, List.set_cons_succ]
  refine q_take _ (by rfl) (by intro w _; go_simp; try with_reducible rfl) ?_
  try simp only [Act.put, List.setIfInBounds_toArray, List.set_cons_zero, List.set_cons_succ]
  refine q_take _ (by rfl) (by intro w _; go_simp; try with_reducible rfl) ?_
  try simp only [Act.put, List.setIfInBounds_toArray, List.set_cons_zero, List.set_cons_succ]
  refine wpQuiet_nil ?_
  intro w2 hb
  have lt_f := Kf.out.lt
  have lt_g := Kg.out.lt
  have lt_h := Kh.out.lt
  replace Kf := Lib.hid (Kf.out.below hb lt_f)
  replace Kg := Lib.hid (Kg.out.below hb lt_g)
  replace Kh := Lib.hid (Kh.out.below hb lt_h)
  replace KB := Lib.hid (KB.out.trans (hb.mono (by omega)))
  have hsz0 := hb.size
  clear hb
  go_wp2_with fail
  refine (alive_any _).mono ?_
  rintro e w3 ⟨rfl, hb⟩
  have lt_Kf := Kf.out.lt
  have lt_Kg := Kg.out.lt
  have lt_Kh := Kh.out.lt
  replace Kf := Lib.hid (Kf.out.below hb lt_Kf)
  replace Kg := Lib.hid (Kg.out.below hb lt_Kg)
  replace Kh := Lib.hid (Kh.out.below hb lt_Kh)
  have hsz := hb.size
  replace KB := Lib.hid (KB.out.trans (hb.mono (by omega)))
  clear hb
  go_wp2_with (first | (refine wpList_load_row_if (by rfl) 22 (.tmp 3) rfl (B) rfl 22 (byteCells (f) 12) _ Kf.out rfl rfl (by rw [byteCells_length]; kernel_rfl) ?_) | (refine wpList_load_row_if (by rfl) 22 (.tmp 4) rfl (B + 1) rfl 22 (byteCells (g) 12) _ Kg.out rfl rfl (by rw [byteCells_length]; kernel_rfl) ?_) | (refine wpList_load_row_if (by rfl) 22 (.tmp 5) rfl (B + 1 + 1) rfl 22 (byteCells (h) 12) _ Kh.out rfl rfl (by rw [byteCells_length]; kernel_rfl) ?_))
  refine (Cfg.out _).mono ?_
  rintro e w4 ⟨rfl, hb⟩
  have lt_Kf := Kf.out.lt
  have lt_Kg := Kg.out.lt
  have lt_Kh := Kh.out.lt
  replace Kf := Lib.hid (Kf.out.below hb lt_Kf)
  replace Kg := Lib.hid (Kg.out.below hb lt_Kg)
  replace Kh := Lib.hid (Kh.out.below hb lt_Kh)
  have hsz := hb.size
  replace KB := Lib.hid (KB.out.trans (hb.mono (by omega)))
  clear hb
  go_wp2_with (first | (refine wpList_load_row_if (by rfl) 22 (.tmp 3) rfl (B) rfl 22 (byteCells (f) 12) _ Kf.out rfl rfl (by rw [byteCells_length]; kernel_rfl) ?_) | (refine wpList_load_row_if (by rfl) 22 (.tmp 4) rfl (B + 1) rfl 22 (byteCells (g) 12) _ Kg.out rfl rfl (by rw [byteCells_length]; kernel_rfl) ?_) | (refine wpList_load_row_if (by rfl) 22 (.tmp 5) rfl (B + 1 + 1) rfl 22 (byteCells (h) 12) _ Kh.out rfl rfl (by rw [byteCells_length]; kernel_rfl) ?_))
  refine (Cgh.out _).mono ?_
  rintro e w5 ⟨rfl, hb⟩
  have lt_Kf := Kf.out.lt
  have lt_Kg := Kg.out.lt
  have lt_Kh := Kh.out.lt
  replace Kf := Lib.hid (Kf.out.below hb lt_Kf)
  replace Kg := Lib.hid (Kg.out.below hb lt_Kg)
  replace Kh := Lib.hid (Kh.out.below hb lt_Kh)
  have hsz := hb.size
  replace KB := Lib.hid (KB.out.trans (hb.mono (by omega)))
  clear hb
  go_wp2_with (first | (refine wpList_load_row_if (by rfl) 22 (.tmp 3) rfl (B) rfl 22 (byteCells (f) 12) _ Kf.out rfl rfl (by rw [byteCells_length]; kernel_rfl) ?_) | (refine wpList_load_row_if (by rfl) 22 (.tmp 4) rfl (B + 1) rfl 22 (byteCells (g) 12) _ Kg.out rfl rfl (by rw [byteCells_length]; kernel_rfl) ?_) | (refine wpList_load_row_if (by rfl) 22 (.tmp 5) rfl (B + 1 + 1) rfl 22 (byteCells (h) 12) _ Kh.out rfl rfl (by rw [byteCells_length]; kernel_rfl) ?_))
  refine (Cfh.out _).mono ?_
  rintro e w6 ⟨rfl, hb⟩
  have lt_Kf := Kf.out.lt
  have lt_Kg := Kg.out.lt
  have lt_Kh := Kh.out.lt
  replace Kf := Lib.hid (Kf.out.below hb lt_Kf)
  replace Kg := Lib.hid (Kg.out.below hb lt_Kg)
  replace Kh := Lib.hid (Kh.out.below hb lt_Kh)
  have hsz := hb.size
  replace KB := Lib.hid (KB.out.trans (hb.mono (by omega)))
  clear hb
  go_wp2_with fail
  go_ret
  exact ⟨rfl, by rw [HB.out]; exact KB.out⟩

theorem walk (f g h : Nat → Nat) (w : World) (w0 : ∀ i, f i < 256) (w1 : ∀ i, g i < 256) (w2 : ∀ i, h i < 256) :
    Calls Try.prog 7 #[.agg (byteCells f 12).toArray, .agg (byteCells g 12).toArray, .agg (byteCells h 12).toArray] w fun e w' => e = .returned (.bool true) ∧ Below w.heap.size w w' := by
  rcases Nat.lt_trichotomy (whole f) (whole g) with k | k | k
  · exact runL f g h w0 w1 w2 k w
  · exact runE f g h w0 w1 w2 k w
  · by_cases m : whole h < whole g
    · exact runG1 f g h w0 w1 w2 k m w
    · exact runG0 f g h w0 w1 w2 k m w

end StampTotal
end Go.Proofs.Ythjmbfhakccomaa
