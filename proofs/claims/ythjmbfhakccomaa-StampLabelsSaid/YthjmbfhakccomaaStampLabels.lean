/- 'aditlaw09.StampLabels' returns true at every input and writes nothing that was there: the walk. No condition. -/
import Derived.Test.YthjmbfhakccomaaStampAlive
import Derived.Test.YthjmbfhakccomaaQuietB
namespace Go.Proofs.Ythjmbfhakccomaa
namespace StampLabels
open Go.ChangeShapes Go.WideShapes Go.ChangeAt Go.RowKit
open Num Mem Words Chacha Aead Ref Quiet Stamp

set_option maxRecDepth 100000 in
set_option maxHeartbeats 2000000 in
theorem run (t : Int) (f : Nat → Nat) (hf : ∀ i, f i < 256) (w : World) :
    Calls Try.prog 3 #[.int .i64 t, .agg (byteCells f 12).toArray] w fun e w' => e = .returned (.bool true) ∧ Below w.heap.size w w' := by
  have HZ12 := Lib.hid (show ∀ f, (byteCells f 12).toArray.size = 12 from fun f => by rw [List.size_toArray, byteCells_length])
  obtain ⟨r, hr⟩ : ∃ r : Bool, r = true ↔ right t := ⟨decide (right t), by simp⟩
  have HR := Lib.hid hr
  clear hr
  have HF := Lib.hid hf
  clear hf
  obtain ⟨T, hT⟩ : ∃ T, wF t = T := ⟨_, rfl⟩
  obtain ⟨E, hE⟩ : ∃ E, wE t = E := ⟨_, rfl⟩
  have CW := Lib.hid (fun w => write_any t w)
  have CX := Lib.hid (fun w => rwrite_any t w)
  rw [hT, hE] at CW CX
  clear hT hE
  rw [byteCells_lit12 f]
  go_enter Try.func3, Try.ntmps3
  go_upto_region 1 with fail
  rw [← byteCells_lit12 f]
  refine cut_world (fun W => Whole W (w.heap.size) 22 (byteCells f 12).toArray ∧ Below w.heap.size w W) ⟨whole_new _ _ rfl, below_alloc (Below.refl _ _) _⟩ ?_
  rintro W ⟨kf, kb⟩
  have Kf := Lib.hid kf
  have KB := Lib.hid kb
  have lo := kb.size
  have lt := kf.lt
  clear kf kb
  generalize hB : w.heap.size = B at Kf KB lo lt ⊢
  have HB := Lib.hid hB
  clear hB
  go_wp2_with fail
  refine (CW.out _).mono ?_
  rintro e w1 ⟨rfl, hb⟩
  replace Kf := Lib.hid (Kf.out.below hb Kf.out.lt)
  replace KB := Lib.hid (KB.out.trans (hb.mono (by omega)))
  have hs1 := hb.size
  clear hb
  go_upto_region 2 with (refine wpList_store_row rfl 22 (.tmp 5) (.tmp 16) rfl w1.heap.size (byteCells (T) 12).toArray rfl rfl 22 _ (Whole.new _ _ _) (by rw [HZ12.out]; kernel_rfl) (by rw [HZ12.out]; rfl) (bytes_one _ _) ?_)
  try simp only [Act.put]
  refine cut_world (fun W => Whole W B 22 (byteCells f 12).toArray ∧ Whole W w1.heap.size 22 (byteCells T 12).toArray ∧ Below B w W) ⟨(setRow_other _ _ _ _ (by omega)).trans (Kf.out.alloc _), setRow_heap _ _ _ _ _ _ (Whole.new _ _ _), below_setRow (KB.out.alloc (by omega) _) (by omega) _⟩ ?_
  clear Kf KB
  generalize w1.heap.size = G at hs1 ⊢
  rintro W2 ⟨kf, kt, kb⟩
  have Kf := Lib.hid kf
  have KT := Lib.hid kt
  have KB := Lib.hid kb
  have l2 := kt.lt
  clear kf kt kb
  go_wp2_with fail
  refine (CX.out _).mono ?_
  rintro e w2 ⟨A, c, rfl, rd, hb⟩
  replace Kf := Lib.hid (Kf.out.below hb Kf.out.lt)
  replace KT := Lib.hid (KT.out.below hb KT.out.lt)
  replace KB := Lib.hid (KB.out.trans (hb.mono (by omega)))
  have RD := Lib.hid rd
  clear hb rd
  go_wp2_with (refine wpList_load_row_if (by rfl) 22 (.tmp 3) rfl (B) rfl 22 (byteCells (f) 12) _ Kf.out rfl rfl (by rw [byteCells_length]; kernel_rfl) ?_)
  refine (read_any f HF.out _).mono ?_
  rintro e w3 ⟨rfl, hb⟩
  replace RD := Lib.hid (RD.out.below hb (Nat.le_refl _))
  have lt2 := KT.out.lt
  replace Kf := Lib.hid (Kf.out.below hb Kf.out.lt)
  replace KT := Lib.hid (KT.out.below hb KT.out.lt)
  replace KB := Lib.hid (KB.out.trans (hb.mono (by omega)))
  clear hb
  go_wp2_with fail
  refine (rread_any B 0 12 (by omega) f HF.out _ Kf.out.lt (fun i hi => Kf.out.bytes i hi)).mono ?_
  rintro e w4 ⟨rfl, hb⟩
  replace RD := Lib.hid (RD.out.below hb (Nat.le_refl _))
  have lt3 := KT.out.lt
  replace Kf := Lib.hid (Kf.out.below hb Kf.out.lt)
  replace KT := Lib.hid (KT.out.below hb KT.out.lt)
  replace KB := Lib.hid (KB.out.trans (hb.mono (by omega)))
  clear hb
  generalize readV f = rv
  generalize readE f = re
  have lt4 := KT.out.lt
  go_upto_region 5 with fail
  refine q_start (by kernel_rfl) (by kernel_rfl) ?_
  refine q_call (.bool true) 15 (#[]) (by rfl) (by intro w; go_simp; try with_reducible rfl) (fun x hx => (alive_any x).mono fun e w' ⟨he, hb⟩ => ⟨he, below_trans hx hb⟩) ?_
  try simp only [Act.put, List.setIfInBounds_toArray, List.set_cons_zero, List.set_cons_succ]
  refine q_take _ (by rfl) (by intro w _; go_simp; with_reducible rfl) ?_
  try simp only [Act.put, List.setIfInBounds_toArray, List.set_cons_zero, List.set_cons_succ]
  refine q_take _ (by rfl) (by intro w _; go_simp; with_reducible rfl) ?_
  try simp only [Act.put, List.setIfInBounds_toArray, List.set_cons_zero, List.set_cons_succ]
  refine q_call (.bool r) 16 (#[.int .i64 t]) (by rfl) (by intro w; go_simp; try with_reducible rfl) (fun x hx => (right_any t r HR.out x).mono fun e w' ⟨he, hw⟩ => ⟨he, hw ▸ hx⟩) ?_
  try simp only [Act.put, List.setIfInBounds_toArray, List.set_cons_zero, List.set_cons_succ]
  refine q_take _ (by rfl) (by intro w _; go_simp; with_reducible rfl) ?_
  try simp only [Act.put, List.setIfInBounds_toArray, List.set_cons_zero, List.set_cons_succ]
  refine q_call (.bool r) 17 (#[.int .i64 t]) (by rfl) (by intro w; go_simp; try with_reducible rfl) (fun x hx => (rright_any t r HR.out x).mono fun e w' ⟨he, hw⟩ => ⟨he, hw ▸ hx⟩) ?_
  try simp only [Act.put, List.setIfInBounds_toArray, List.set_cons_zero, List.set_cons_succ]
  refine q_take (.bool true) (by rfl) (by intro w _; go_simp; try with_reducible rfl) ?_
  try simp only [Act.put, List.setIfInBounds_toArray, List.set_cons_zero, List.set_cons_succ]
  refine q_take _ (by rfl) (by intro w _; go_simp; with_reducible rfl) ?_
  try simp only [Act.put, List.setIfInBounds_toArray, List.set_cons_zero, List.set_cons_succ]
  refine q_take _ (by rfl) (by intro w _; go_simp; with_reducible rfl) ?_
  try simp only [Act.put, List.setIfInBounds_toArray, List.set_cons_zero, List.set_cons_succ]
  refine q_take _ (by rfl) (by intro w _; go_simp; with_reducible rfl) ?_
  try simp only [Act.put, List.setIfInBounds_toArray, List.set_cons_zero, List.set_cons_succ]
  refine q_take (.string (strOf (T) 12)) (by rfl) (fun w hw => run_string_op 26 9 5 _ rfl rfl Try.underlying26 Try.underlying5 Try.underlying9 (Rd.of_whole (KT.out.below hw KT.out.lt))) ?_
  try simp only [Act.put, List.setIfInBounds_toArray, List.set_cons_zero, List.set_cons_succ]
  refine q_take _ (by rfl) (by intro w _; go_simp; with_reducible rfl) ?_
  try simp only [Act.put, List.setIfInBounds_toArray, List.set_cons_zero, List.set_cons_succ]
  refine q_take (.string (strOf (T) 12)) (by rfl) (fun w hw => run_string_op 26 9 5 _ rfl rfl Try.underlying26 Try.underlying5 Try.underlying9 (RD.out.below hw (Nat.le_refl _))) ?_
  try simp only [Act.put, List.setIfInBounds_toArray, List.set_cons_zero, List.set_cons_succ]
  refine q_take (.bool true) (by rfl) (by intro w _; go_simp; try with_reducible rfl) ?_
  try simp only [Act.put, List.setIfInBounds_toArray, List.set_cons_zero, List.set_cons_succ]
  refine q_take _ (by rfl) (by intro w _; go_simp; with_reducible rfl) ?_
  try simp only [Act.put, List.setIfInBounds_toArray, List.set_cons_zero, List.set_cons_succ]
  refine q_take _ (by rfl) (by intro w _; go_simp; with_reducible rfl) ?_
  try simp only [Act.put, List.setIfInBounds_toArray, List.set_cons_zero, List.set_cons_succ]
  refine q_take _ (by rfl) (by intro w _; go_simp; with_reducible rfl) ?_
  try simp only [Act.put, List.setIfInBounds_toArray, List.set_cons_zero, List.set_cons_succ]
  refine q_take _ (by rfl) (by intro w _; go_simp; with_reducible rfl) ?_
  try simp only [Act.put, List.setIfInBounds_toArray, List.set_cons_zero, List.set_cons_succ]
  refine q_take (.bool true) (by rfl) (by intro w _; go_simp; try with_reducible rfl) ?_
  try simp only [Act.put, List.setIfInBounds_toArray, List.set_cons_zero, List.set_cons_succ]
  refine q_take _ (by rfl) (by intro w _; go_simp; with_reducible rfl) ?_
  try simp only [Act.put, List.setIfInBounds_toArray, List.set_cons_zero, List.set_cons_succ]
  refine q_take _ (by rfl) (by intro w _; go_simp; with_reducible rfl) ?_
  try simp only [Act.put, List.setIfInBounds_toArray, List.set_cons_zero, List.set_cons_succ]
  refine q_take _ (by rfl) (by intro w _; go_simp; with_reducible rfl) ?_
  try simp only [Act.put, List.setIfInBounds_toArray, List.set_cons_zero, List.set_cons_succ]
  refine q_take _ (by rfl) (by intro w _; go_simp; with_reducible rfl) ?_
  try simp only [Act.put, List.setIfInBounds_toArray, List.set_cons_zero, List.set_cons_succ]
  refine q_take (.bool true) (by rfl) (by intro w _; go_simp; try with_reducible rfl) ?_
  try simp only [Act.put, List.setIfInBounds_toArray, List.set_cons_zero, List.set_cons_succ]
  refine q_take _ (by rfl) (by intro w _; go_simp; with_reducible rfl) ?_
  try simp only [Act.put, List.setIfInBounds_toArray, List.set_cons_zero, List.set_cons_succ]
  refine q_take _ (by rfl) (by intro w _; go_simp; with_reducible rfl) ?_
  try simp only [Act.put, List.setIfInBounds_toArray, List.set_cons_zero, List.set_cons_succ]
  refine q_take _ (by rfl) (by intro w _; go_simp; with_reducible rfl) ?_
  try simp only [Act.put, List.setIfInBounds_toArray, List.set_cons_zero, List.set_cons_succ]
  refine q_take _ (by rfl) (by intro w _; go_simp; with_reducible rfl) ?_
  try simp only [Act.put, List.setIfInBounds_toArray, List.set_cons_zero, List.set_cons_succ]
  refine q_take (.bool true) (by rfl) (by intro w _; go_simp; try with_reducible rfl) ?_
  try simp only [Act.put, List.setIfInBounds_toArray, List.set_cons_zero, List.set_cons_succ]
  refine q_take _ (by rfl) (by intro w _; go_simp; with_reducible rfl) ?_
  try simp only [Act.put, List.setIfInBounds_toArray, List.set_cons_zero, List.set_cons_succ]
  refine q_take _ (by rfl) (by intro w _; go_simp; with_reducible rfl) ?_
  try simp only [Act.put, List.setIfInBounds_toArray, List.set_cons_zero, List.set_cons_succ]
  refine wpQuiet_nil ?_
  intro w5 hb
  have L5 := Lib.hid (KB.out.trans (hb.mono (by omega)))
  clear hb
  go_wp2_with fail
  go_ret
  exact ⟨rfl, by rw [HB.out]; exact L5.out⟩

theorem walk (a0 : Int) (f : Nat → Nat) (w : World) (_ : (Lit.int .i64 a0).wf = true) (w1 : ∀ i, f i < 256) :
    Calls Try.prog 3 #[.int .i64 a0, .agg (byteCells f 12).toArray] w fun e w' => e = .returned (.bool true) ∧ Below w.heap.size w w' := run a0 f w1 w

end StampLabels
end Go.Proofs.Ythjmbfhakccomaa
