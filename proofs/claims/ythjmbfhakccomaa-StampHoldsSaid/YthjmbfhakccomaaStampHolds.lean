/- 'aditlaw09.StampHolds' returns true at every input and writes nothing that was there: the walk. No condition. -/
import Derived.Test.YthjmbfhakccomaaStampAlive
import Derived.Test.YthjmbfhakccomaaQuietB
namespace Go.Proofs.Ythjmbfhakccomaa
namespace StampHolds
open Go.ChangeShapes Go.WideShapes Go.ChangeAt Go.RowKit
open Num Mem Words Chacha Aead Ref Quiet Stamp

set_option maxRecDepth 100000 in
set_option maxHeartbeats 4000000 in
theorem run (f g : Nat → Nat) (hf : ∀ i, f i < 256) (hg : ∀ i, g i < 256) (s t : Int) (w : World) :
    Calls Try.prog 4 #[.agg (byteCells f 12).toArray, .agg (byteCells g 12).toArray, .int .i64 s, .int .i64 t] w fun e w' => e = .returned (.bool true) ∧ Below w.heap.size w w' := by
  have HZ12 := Lib.hid (show ∀ f, (byteCells f 12).toArray.size = 12 from fun f => by rw [List.size_toArray, byteCells_length])
  have HF := Lib.hid hf
  have HG := Lib.hid hg
  clear hf hg
  obtain ⟨d, hd⟩ : ∃ d, decide (whole g < whole f) = d := ⟨_, rfl⟩
  have G1 := Lib.hid (gtr_be f g HF.out HG.out 12)
  have CA := Lib.hid (fun w => after_any f g HF.out HG.out w)
  rw [show be g 0 12 = whole g from rfl, show be f 0 12 = whole f from rfl, hd] at G1
  rw [hd] at CA
  clear hd
  have GT := Lib.hid (show ∀ w, (binOp .gtr 9 (.string (strOf f 12)) (.string (strOf g 12))).run Try.prog w = .ok (.bool d) w from fun w => by rw [← G1.out]; simp [binOp, Op.stringOp])
  rw [byteCells_lit12 f, byteCells_lit12 g]
  go_enter Try.func4, Try.ntmps4
  go_upto_region 1 with fail
  rw [← byteCells_lit12 f, ← byteCells_lit12 g]
  refine cut_world (fun W => Whole W (w.heap.size) 22 (byteCells f 12).toArray ∧ Whole W (w.heap.size + 1) 22 (byteCells g 12).toArray ∧ Below w.heap.size w W) ⟨(whole_new _ _ rfl).alloc _, whole_new _ _ (by simp), below_alloc (below_alloc (Below.refl _ _) _) _⟩ ?_
  rintro W ⟨kf, kg, kb⟩
  have Kf := Lib.hid kf
  have Kg := Lib.hid kg
  have KB := Lib.hid kb
  have lo := kb.size
  have lt := kg.lt
  clear kf kg kb
  generalize hB : w.heap.size = B at Kf Kg KB lo lt ⊢
  have HB := Lib.hid hB
  clear hB
  go_wp2_with fail
  refine (span_any s t _).mono ?_
  rintro e w1 ⟨rfl, rfl⟩
  go_wp2_with fail
  refine (rspan_any s t _).mono ?_
  rintro e w1 ⟨rfl, rfl⟩
  generalize spanV s t = sv
  generalize spanE s t = se
  go_upto_region 3 with fail
  by_cases h1 : right s
  · by_cases h2 : right t
    · have hs : true = true ↔ right s := ⟨fun _ => h1, fun _ => rfl⟩
      have ht : true = true ↔ right t := ⟨fun _ => h2, fun _ => rfl⟩
      obtain ⟨l, hl0⟩ : ∃ l, decide (t < s) = l := ⟨_, rfl⟩
      have HD := Lib.hid hl0
      have hl : l = true ↔ right s ∧ right t ∧ t < s := by rw [← hl0, decide_eq_true_eq]; exact ⟨fun h => ⟨h1, h2, h⟩, fun h => h.2.2⟩
      replace hs := Lib.hid hs
      replace ht := Lib.hid ht
      replace hl := Lib.hid hl
      clear hl0 h1 h2
      refine q_start (by kernel_rfl) (by kernel_rfl) ?_
      refine q_call (.bool true) 15 (#[]) (by rfl) (by intro w; go_simp; try with_reducible rfl) (fun x hx => (alive_any x).mono fun e w' ⟨he, hb⟩ => ⟨he, below_trans hx hb⟩) ?_
      try simp only [Act.put, List.setIfInBounds_toArray, List.set_cons_zero, List.set_cons_succ]
      refine q_take _ (by rfl) (by intro w _; go_simp; with_reducible rfl) ?_
      try simp only [Act.put, List.setIfInBounds_toArray, List.set_cons_zero, List.set_cons_succ]
      refine q_take _ (by rfl) (fun x hx => run_load_in 22 (.tmp 4) rfl (B) rfl (byteCells (f) 12).toArray 12 (by rw [List.size_toArray, byteCells_length]) ((Kf.out).below hx (Kf.out).lt) rfl rfl (by kernel_rfl)) ?_
      try simp only [Act.put, List.setIfInBounds_toArray, List.set_cons_zero, List.set_cons_succ]
      refine q_take _ (by rfl) (fun x hx => run_load_in 22 (.tmp 5) rfl (B + 1) rfl (byteCells (g) 12).toArray 12 (by rw [List.size_toArray, byteCells_length]) ((Kg.out).below hx (Kg.out).lt) rfl rfl (by kernel_rfl)) ?_
      try simp only [Act.put, List.setIfInBounds_toArray, List.set_cons_zero, List.set_cons_succ]
      refine q_call (.bool d) 20 (#[.agg (byteCells f 12).toArray, .agg (byteCells g 12).toArray]) (by rfl) (by intro w; go_simp; try with_reducible rfl) (fun x hx => (CA.out x).mono fun e w' ⟨he, hb⟩ => ⟨he, below_trans hx hb⟩) ?_
      try simp only [Act.put, List.setIfInBounds_toArray, List.set_cons_zero, List.set_cons_succ]
      refine q_take _ (by rfl) (by intro w _; go_simp; with_reducible rfl) ?_
      try simp only [Act.put, List.setIfInBounds_toArray, List.set_cons_zero, List.set_cons_succ]
      refine q_take (.string (strOf (f) 12)) (by rfl) (fun w hw => run_string_op 26 9 5 _ rfl rfl Try.underlying26 Try.underlying5 Try.underlying9 (Rd.of_whole (Kf.out.below hw Kf.out.lt))) ?_
      try simp only [Act.put, List.setIfInBounds_toArray, List.set_cons_zero, List.set_cons_succ]
      refine q_take _ (by rfl) (by intro w _; go_simp; with_reducible rfl) ?_
      try simp only [Act.put, List.setIfInBounds_toArray, List.set_cons_zero, List.set_cons_succ]
      refine q_take (.string (strOf (g) 12)) (by rfl) (fun w hw => run_string_op 26 9 5 _ rfl rfl Try.underlying26 Try.underlying5 Try.underlying9 (Rd.of_whole (Kg.out.below hw Kg.out.lt))) ?_
      try simp only [Act.put, List.setIfInBounds_toArray, List.set_cons_zero, List.set_cons_succ]
      refine q_take (.bool d) (by rfl) (by intro w _; go_simp; simp only [GT.out, Result.andThen_ok]) ?_
      try simp only [Act.put, List.setIfInBounds_toArray, List.set_cons_zero, List.set_cons_succ]
      refine q_take (.bool true) (by rfl) (by intro w _; go_simp; try with_reducible rfl) ?_
      try simp only [Act.put, List.setIfInBounds_toArray, List.set_cons_zero, List.set_cons_succ]
      refine q_take _ (by rfl) (by intro w _; go_simp; with_reducible rfl) ?_
      try simp only [Act.put, List.setIfInBounds_toArray, List.set_cons_zero, List.set_cons_succ]
      refine q_take _ (by rfl) (by intro w _; go_simp; with_reducible rfl) ?_
      try simp only [Act.put, List.setIfInBounds_toArray, List.set_cons_zero, List.set_cons_succ]
      refine q_take _ (by rfl) (by intro w _; go_simp; with_reducible rfl) ?_
      try simp only [Act.put, List.setIfInBounds_toArray, List.set_cons_zero, List.set_cons_succ]
      refine q_take _ (by rfl) (by intro w _; go_simp; with_reducible rfl) ?_
      try simp only [Act.put, List.setIfInBounds_toArray, List.set_cons_zero, List.set_cons_succ]
      refine q_call (.bool l) 21 (#[.int .i64 s, .int .i64 t]) (by rfl) (by intro w; go_simp; try with_reducible rfl) (fun x hx => (later_any s t l hl x).mono fun e w' ⟨he, hw⟩ => ⟨he, hw ▸ hx⟩) ?_
      try simp only [Act.put, List.setIfInBounds_toArray, List.set_cons_zero, List.set_cons_succ]
      refine q_take _ (by rfl) (by intro w _; go_simp; with_reducible rfl) ?_
      try simp only [Act.put, List.setIfInBounds_toArray, List.set_cons_zero, List.set_cons_succ]
      refine q_call (.bool true) 17 (#[.int .i64 s]) (by rfl) (by intro w; go_simp; try with_reducible rfl) (fun x hx => (rright_any s true hs x).mono fun e w' ⟨he, hw⟩ => ⟨he, hw ▸ hx⟩) ?_
      try simp only [Act.put, List.setIfInBounds_toArray, List.set_cons_zero, List.set_cons_succ]
      refine q_take _ (by rfl) (by intro w _; go_simp; with_reducible rfl) ?_
      try simp only [Act.put, List.setIfInBounds_toArray, List.set_cons_zero, List.set_cons_succ]
      refine q_take _ (by rfl) (by intro w _; go_simp; with_reducible rfl) ?_
      try simp only [Act.put, List.setIfInBounds_toArray, List.set_cons_zero, List.set_cons_succ]
      refine q_call (.bool true) 17 (#[.int .i64 t]) (by rfl) (by intro w; go_simp; try with_reducible rfl) (fun x hx => (rright_any t true ht x).mono fun e w' ⟨he, hw⟩ => ⟨he, hw ▸ hx⟩) ?_
      try simp only [Act.put, List.setIfInBounds_toArray, List.set_cons_zero, List.set_cons_succ]
      refine q_take _ (by rfl) (by intro w _; go_simp; with_reducible rfl) ?_
      try simp only [Act.put, List.setIfInBounds_toArray, List.set_cons_zero, List.set_cons_succ]
      refine q_take _ (by rfl) (by intro w _; go_simp; with_reducible rfl) ?_
      try simp only [Act.put, List.setIfInBounds_toArray, List.set_cons_zero, List.set_cons_succ]
      refine q_take _ (by rfl) (by intro w _; go_simp; with_reducible rfl) ?_
      try simp only [Act.put, List.setIfInBounds_toArray, List.set_cons_zero, List.set_cons_succ]
      refine q_take _ (by rfl) (by intro w _; go_simp; with_reducible rfl) ?_
      try simp only [Act.put, List.setIfInBounds_toArray, List.set_cons_zero, List.set_cons_succ]
      refine q_take (.bool l) (by rfl) (by intro w _; go_simp; rw [HD.out]) ?_
      try simp only [Act.put, List.setIfInBounds_toArray, List.set_cons_zero, List.set_cons_succ]
      refine q_take _ (by rfl) (by intro w _; go_simp; with_reducible rfl) ?_
      try simp only [Act.put, List.setIfInBounds_toArray, List.set_cons_zero, List.set_cons_succ]
      refine q_take (.bool true) (by rfl) (by intro w _; go_simp; try with_reducible rfl) ?_
      try simp only [Act.put, List.setIfInBounds_toArray, List.set_cons_zero, List.set_cons_succ]
      refine q_take _ (by rfl) (by intro w _; go_simp; with_reducible rfl) ?_
      try simp only [Act.put, List.setIfInBounds_toArray, List.set_cons_zero, List.set_cons_succ]
      refine q_take _ (by rfl) (by intro w _; go_simp; with_reducible rfl) ?_
      try simp only [Act.put, List.setIfInBounds_toArray, List.set_cons_zero, List.set_cons_succ]
      refine q_take _ (by rfl) (by intro w _; go_simp; with_reducible rfl) ?_
      try simp only [Act.put, List.setIfInBounds_toArray, List.set_cons_zero, List.set_cons_succ]
      refine q_take _ (by rfl) (by intro w _; go_simp; with_reducible rfl) ?_
      try simp only [Act.put, List.setIfInBounds_toArray, List.set_cons_zero, List.set_cons_succ]
      refine q_take (.bool true) (by rfl) (by intro w _; go_simp; try with_reducible rfl) ?_
      try simp only [Act.put, List.setIfInBounds_toArray, List.set_cons_zero, List.set_cons_succ]
      refine q_take _ (by rfl) (by intro w _; go_simp; with_reducible rfl) ?_
      try simp only [Act.put, List.setIfInBounds_toArray, List.set_cons_zero, List.set_cons_succ]
      refine q_take _ (by rfl) (by intro w _; go_simp; with_reducible rfl) ?_
      try simp only [Act.put, List.setIfInBounds_toArray, List.set_cons_zero, List.set_cons_succ]
      refine q_take _ (by rfl) (by intro w _; go_simp; with_reducible rfl) ?_
      try simp only [Act.put, List.setIfInBounds_toArray, List.set_cons_zero, List.set_cons_succ]
      refine q_take _ (by rfl) (by intro w _; go_simp; with_reducible rfl) ?_
      try simp only [Act.put, List.setIfInBounds_toArray, List.set_cons_zero, List.set_cons_succ]
      refine q_take (.bool true) (by rfl) (by intro w _; go_simp; try with_reducible rfl) ?_
      try simp only [Act.put, List.setIfInBounds_toArray, List.set_cons_zero, List.set_cons_succ]
      refine q_take _ (by rfl) (by intro w _; go_simp; with_reducible rfl) ?_
      try simp only [Act.put, List.setIfInBounds_toArray, List.set_cons_zero, List.set_cons_succ]
      refine q_take _ (by rfl) (by intro w _; go_simp; with_reducible rfl) ?_
      try simp only [Act.put, List.setIfInBounds_toArray, List.set_cons_zero, List.set_cons_succ]
      refine wpQuiet_nil ?_
      intro w5 hb
      have L5 := Lib.hid (KB.out.trans (hb.mono (by omega)))
      clear hb
      go_wp2_with fail
      go_ret
      exact ⟨rfl, by rw [HB.out]; exact L5.out⟩
    · have hs : true = true ↔ right s := ⟨fun _ => h1, fun _ => rfl⟩
      have ht : false = true ↔ right t := ⟨fun e => (by cases e), fun k => absurd k h2⟩
      have hl : false = true ↔ right s ∧ right t ∧ t < s := ⟨fun e => (by cases e), fun k => absurd k.2.1 h2⟩
      replace hs := Lib.hid hs
      replace ht := Lib.hid ht
      replace hl := Lib.hid hl
      clear h1 h2
      refine q_start (by kernel_rfl) (by kernel_rfl) ?_
      refine q_call (.bool true) 15 (#[]) (by rfl) (by intro w; go_simp; try with_reducible rfl) (fun x hx => (alive_any x).mono fun e w' ⟨he, hb⟩ => ⟨he, below_trans hx hb⟩) ?_
      try simp only [Act.put, List.setIfInBounds_toArray, List.set_cons_zero, List.set_cons_succ]
      refine q_take _ (by rfl) (by intro w _; go_simp; with_reducible rfl) ?_
      try simp only [Act.put, List.setIfInBounds_toArray, List.set_cons_zero, List.set_cons_succ]
      refine q_take _ (by rfl) (fun x hx => run_load_in 22 (.tmp 4) rfl (B) rfl (byteCells (f) 12).toArray 12 (by rw [List.size_toArray, byteCells_length]) ((Kf.out).below hx (Kf.out).lt) rfl rfl (by kernel_rfl)) ?_
      try simp only [Act.put, List.setIfInBounds_toArray, List.set_cons_zero, List.set_cons_succ]
      refine q_take _ (by rfl) (fun x hx => run_load_in 22 (.tmp 5) rfl (B + 1) rfl (byteCells (g) 12).toArray 12 (by rw [List.size_toArray, byteCells_length]) ((Kg.out).below hx (Kg.out).lt) rfl rfl (by kernel_rfl)) ?_
      try simp only [Act.put, List.setIfInBounds_toArray, List.set_cons_zero, List.set_cons_succ]
      refine q_call (.bool d) 20 (#[.agg (byteCells f 12).toArray, .agg (byteCells g 12).toArray]) (by rfl) (by intro w; go_simp; try with_reducible rfl) (fun x hx => (CA.out x).mono fun e w' ⟨he, hb⟩ => ⟨he, below_trans hx hb⟩) ?_
      try simp only [Act.put, List.setIfInBounds_toArray, List.set_cons_zero, List.set_cons_succ]
      refine q_take _ (by rfl) (by intro w _; go_simp; with_reducible rfl) ?_
      try simp only [Act.put, List.setIfInBounds_toArray, List.set_cons_zero, List.set_cons_succ]
      refine q_take (.string (strOf (f) 12)) (by rfl) (fun w hw => run_string_op 26 9 5 _ rfl rfl Try.underlying26 Try.underlying5 Try.underlying9 (Rd.of_whole (Kf.out.below hw Kf.out.lt))) ?_
      try simp only [Act.put, List.setIfInBounds_toArray, List.set_cons_zero, List.set_cons_succ]
      refine q_take _ (by rfl) (by intro w _; go_simp; with_reducible rfl) ?_
      try simp only [Act.put, List.setIfInBounds_toArray, List.set_cons_zero, List.set_cons_succ]
      refine q_take (.string (strOf (g) 12)) (by rfl) (fun w hw => run_string_op 26 9 5 _ rfl rfl Try.underlying26 Try.underlying5 Try.underlying9 (Rd.of_whole (Kg.out.below hw Kg.out.lt))) ?_
      try simp only [Act.put, List.setIfInBounds_toArray, List.set_cons_zero, List.set_cons_succ]
      refine q_take (.bool d) (by rfl) (by intro w _; go_simp; simp only [GT.out, Result.andThen_ok]) ?_
      try simp only [Act.put, List.setIfInBounds_toArray, List.set_cons_zero, List.set_cons_succ]
      refine q_take (.bool true) (by rfl) (by intro w _; go_simp; try with_reducible rfl) ?_
      try simp only [Act.put, List.setIfInBounds_toArray, List.set_cons_zero, List.set_cons_succ]
      refine q_take _ (by rfl) (by intro w _; go_simp; with_reducible rfl) ?_
      try simp only [Act.put, List.setIfInBounds_toArray, List.set_cons_zero, List.set_cons_succ]
      refine q_take _ (by rfl) (by intro w _; go_simp; with_reducible rfl) ?_
      try simp only [Act.put, List.setIfInBounds_toArray, List.set_cons_zero, List.set_cons_succ]
      refine q_take _ (by rfl) (by intro w _; go_simp; with_reducible rfl) ?_
      try simp only [Act.put, List.setIfInBounds_toArray, List.set_cons_zero, List.set_cons_succ]
      refine q_take _ (by rfl) (by intro w _; go_simp; with_reducible rfl) ?_
      try simp only [Act.put, List.setIfInBounds_toArray, List.set_cons_zero, List.set_cons_succ]
      refine q_call (.bool false) 21 (#[.int .i64 s, .int .i64 t]) (by rfl) (by intro w; go_simp; try with_reducible rfl) (fun x hx => (later_any s t false hl x).mono fun e w' ⟨he, hw⟩ => ⟨he, hw ▸ hx⟩) ?_
      try simp only [Act.put, List.setIfInBounds_toArray, List.set_cons_zero, List.set_cons_succ]
      refine q_take _ (by rfl) (by intro w _; go_simp; with_reducible rfl) ?_
      try simp only [Act.put, List.setIfInBounds_toArray, List.set_cons_zero, List.set_cons_succ]
      refine q_call (.bool true) 17 (#[.int .i64 s]) (by rfl) (by intro w; go_simp; try with_reducible rfl) (fun x hx => (rright_any s true hs x).mono fun e w' ⟨he, hw⟩ => ⟨he, hw ▸ hx⟩) ?_
      try simp only [Act.put, List.setIfInBounds_toArray, List.set_cons_zero, List.set_cons_succ]
      refine q_take _ (by rfl) (by intro w _; go_simp; with_reducible rfl) ?_
      try simp only [Act.put, List.setIfInBounds_toArray, List.set_cons_zero, List.set_cons_succ]
      refine q_take _ (by rfl) (by intro w _; go_simp; with_reducible rfl) ?_
      try simp only [Act.put, List.setIfInBounds_toArray, List.set_cons_zero, List.set_cons_succ]
      refine q_call (.bool false) 17 (#[.int .i64 t]) (by rfl) (by intro w; go_simp; try with_reducible rfl) (fun x hx => (rright_any t false ht x).mono fun e w' ⟨he, hw⟩ => ⟨he, hw ▸ hx⟩) ?_
      try simp only [Act.put, List.setIfInBounds_toArray, List.set_cons_zero, List.set_cons_succ]
      refine q_take _ (by rfl) (by intro w _; go_simp; with_reducible rfl) ?_
      try simp only [Act.put, List.setIfInBounds_toArray, List.set_cons_zero, List.set_cons_succ]
      refine q_take _ (by rfl) (by intro w _; go_simp; with_reducible rfl) ?_
      try simp only [Act.put, List.setIfInBounds_toArray, List.set_cons_zero, List.set_cons_succ]
      refine q_pass (by rfl) ?_
      try simp only [Act.put, List.setIfInBounds_toArray, List.set_cons_zero, List.set_cons_succ]
      refine q_pass (by rfl) ?_
      try simp only [Act.put, List.setIfInBounds_toArray, List.set_cons_zero, List.set_cons_succ]
      refine q_pass (by rfl) ?_
      try simp only [Act.put, List.setIfInBounds_toArray, List.set_cons_zero, List.set_cons_succ]
      refine q_take _ (by rfl) (by intro w _; go_simp; with_reducible rfl) ?_
      try simp only [Act.put, List.setIfInBounds_toArray, List.set_cons_zero, List.set_cons_succ]
      refine q_take (.bool true) (by rfl) (by intro w _; go_simp; try with_reducible rfl) ?_
      try simp only [Act.put, List.setIfInBounds_toArray, List.set_cons_zero, List.set_cons_succ]
      refine q_take _ (by rfl) (by intro w _; go_simp; with_reducible rfl) ?_
      try simp only [Act.put, List.setIfInBounds_toArray, List.set_cons_zero, List.set_cons_succ]
      refine q_take _ (by rfl) (by intro w _; go_simp; with_reducible rfl) ?_
      try simp only [Act.put, List.setIfInBounds_toArray, List.set_cons_zero, List.set_cons_succ]
      refine q_take _ (by rfl) (by intro w _; go_simp; with_reducible rfl) ?_
      try simp only [Act.put, List.setIfInBounds_toArray, List.set_cons_zero, List.set_cons_succ]
      refine q_take _ (by rfl) (by intro w _; go_simp; with_reducible rfl) ?_
      try simp only [Act.put, List.setIfInBounds_toArray, List.set_cons_zero, List.set_cons_succ]
      refine q_take (.bool true) (by rfl) (by intro w _; go_simp; try with_reducible rfl) ?_
      try simp only [Act.put, List.setIfInBounds_toArray, List.set_cons_zero, List.set_cons_succ]
      refine q_take _ (by rfl) (by intro w _; go_simp; with_reducible rfl) ?_
      try simp only [Act.put, List.setIfInBounds_toArray, List.set_cons_zero, List.set_cons_succ]
      refine q_take _ (by rfl) (by intro w _; go_simp; with_reducible rfl) ?_
      try simp only [Act.put, List.setIfInBounds_toArray, List.set_cons_zero, List.set_cons_succ]
      refine q_take _ (by rfl) (by intro w _; go_simp; with_reducible rfl) ?_
      try simp only [Act.put, List.setIfInBounds_toArray, List.set_cons_zero, List.set_cons_succ]
      refine q_take _ (by rfl) (by intro w _; go_simp; with_reducible rfl) ?_
      try simp only [Act.put, List.setIfInBounds_toArray, List.set_cons_zero, List.set_cons_succ]
      refine q_take (.bool true) (by rfl) (by intro w _; go_simp; try with_reducible rfl) ?_
      try simp only [Act.put, List.setIfInBounds_toArray, List.set_cons_zero, List.set_cons_succ]
      refine q_take _ (by rfl) (by intro w _; go_simp; with_reducible rfl) ?_
      try simp only [Act.put, List.setIfInBounds_toArray, List.set_cons_zero, List.set_cons_succ]
      refine q_take _ (by rfl) (by intro w _; go_simp; with_reducible rfl) ?_
      try simp only [Act.put, List.setIfInBounds_toArray, List.set_cons_zero, List.set_cons_succ]
      refine wpQuiet_nil ?_
      intro w5 hb
      have L5 := Lib.hid (KB.out.trans (hb.mono (by omega)))
      clear hb
      go_wp2_with fail
      go_ret
      exact ⟨rfl, by rw [HB.out]; exact L5.out⟩
  · have hs : false = true ↔ right s := ⟨fun e => (by cases e), fun k => absurd k h1⟩
    have hl : false = true ↔ right s ∧ right t ∧ t < s := ⟨fun e => (by cases e), fun k => absurd k.1 h1⟩
    replace hs := Lib.hid hs
    replace hl := Lib.hid hl
    clear h1
    refine q_start (by kernel_rfl) (by kernel_rfl) ?_
    refine q_call (.bool true) 15 (#[]) (by rfl) (by intro w; go_simp; try with_reducible rfl) (fun x hx => (alive_any x).mono fun e w' ⟨he, hb⟩ => ⟨he, below_trans hx hb⟩) ?_
    try simp only [Act.put, List.setIfInBounds_toArray, List.set_cons_zero, List.set_cons_succ]
    refine q_take _ (by rfl) (by intro w _; go_simp; with_reducible rfl) ?_
    try simp only [Act.put, List.setIfInBounds_toArray, List.set_cons_zero, List.set_cons_succ]
    refine q_take _ (by rfl) (fun x hx => run_load_in 22 (.tmp 4) rfl (B) rfl (byteCells (f) 12).toArray 12 (by rw [List.size_toArray, byteCells_length]) ((Kf.out).below hx (Kf.out).lt) rfl rfl (by kernel_rfl)) ?_
    try simp only [Act.put, List.setIfInBounds_toArray, List.set_cons_zero, List.set_cons_succ]
    refine q_take _ (by rfl) (fun x hx => run_load_in 22 (.tmp 5) rfl (B + 1) rfl (byteCells (g) 12).toArray 12 (by rw [List.size_toArray, byteCells_length]) ((Kg.out).below hx (Kg.out).lt) rfl rfl (by kernel_rfl)) ?_
    try simp only [Act.put, List.setIfInBounds_toArray, List.set_cons_zero, List.set_cons_succ]
    refine q_call (.bool d) 20 (#[.agg (byteCells f 12).toArray, .agg (byteCells g 12).toArray]) (by rfl) (by intro w; go_simp; try with_reducible rfl) (fun x hx => (CA.out x).mono fun e w' ⟨he, hb⟩ => ⟨he, below_trans hx hb⟩) ?_
    try simp only [Act.put, List.setIfInBounds_toArray, List.set_cons_zero, List.set_cons_succ]
    refine q_take _ (by rfl) (by intro w _; go_simp; with_reducible rfl) ?_
    try simp only [Act.put, List.setIfInBounds_toArray, List.set_cons_zero, List.set_cons_succ]
    refine q_take (.string (strOf (f) 12)) (by rfl) (fun w hw => run_string_op 26 9 5 _ rfl rfl Try.underlying26 Try.underlying5 Try.underlying9 (Rd.of_whole (Kf.out.below hw Kf.out.lt))) ?_
    try simp only [Act.put, List.setIfInBounds_toArray, List.set_cons_zero, List.set_cons_succ]
    refine q_take _ (by rfl) (by intro w _; go_simp; with_reducible rfl) ?_
    try simp only [Act.put, List.setIfInBounds_toArray, List.set_cons_zero, List.set_cons_succ]
    refine q_take (.string (strOf (g) 12)) (by rfl) (fun w hw => run_string_op 26 9 5 _ rfl rfl Try.underlying26 Try.underlying5 Try.underlying9 (Rd.of_whole (Kg.out.below hw Kg.out.lt))) ?_
    try simp only [Act.put, List.setIfInBounds_toArray, List.set_cons_zero, List.set_cons_succ]
    refine q_take (.bool d) (by rfl) (by intro w _; go_simp; simp only [GT.out, Result.andThen_ok]) ?_
    try simp only [Act.put, List.setIfInBounds_toArray, List.set_cons_zero, List.set_cons_succ]
    refine q_take (.bool true) (by rfl) (by intro w _; go_simp; try with_reducible rfl) ?_
    try simp only [Act.put, List.setIfInBounds_toArray, List.set_cons_zero, List.set_cons_succ]
    refine q_take _ (by rfl) (by intro w _; go_simp; with_reducible rfl) ?_
    try simp only [Act.put, List.setIfInBounds_toArray, List.set_cons_zero, List.set_cons_succ]
    refine q_take _ (by rfl) (by intro w _; go_simp; with_reducible rfl) ?_
    try simp only [Act.put, List.setIfInBounds_toArray, List.set_cons_zero, List.set_cons_succ]
    refine q_take _ (by rfl) (by intro w _; go_simp; with_reducible rfl) ?_
    try simp only [Act.put, List.setIfInBounds_toArray, List.set_cons_zero, List.set_cons_succ]
    refine q_take _ (by rfl) (by intro w _; go_simp; with_reducible rfl) ?_
    try simp only [Act.put, List.setIfInBounds_toArray, List.set_cons_zero, List.set_cons_succ]
    refine q_call (.bool false) 21 (#[.int .i64 s, .int .i64 t]) (by rfl) (by intro w; go_simp; try with_reducible rfl) (fun x hx => (later_any s t false hl x).mono fun e w' ⟨he, hw⟩ => ⟨he, hw ▸ hx⟩) ?_
    try simp only [Act.put, List.setIfInBounds_toArray, List.set_cons_zero, List.set_cons_succ]
    refine q_take _ (by rfl) (by intro w _; go_simp; with_reducible rfl) ?_
    try simp only [Act.put, List.setIfInBounds_toArray, List.set_cons_zero, List.set_cons_succ]
    refine q_call (.bool false) 17 (#[.int .i64 s]) (by rfl) (by intro w; go_simp; try with_reducible rfl) (fun x hx => (rright_any s false hs x).mono fun e w' ⟨he, hw⟩ => ⟨he, hw ▸ hx⟩) ?_
    try simp only [Act.put, List.setIfInBounds_toArray, List.set_cons_zero, List.set_cons_succ]
    refine q_take _ (by rfl) (by intro w _; go_simp; with_reducible rfl) ?_
    try simp only [Act.put, List.setIfInBounds_toArray, List.set_cons_zero, List.set_cons_succ]
    refine q_pass (by rfl) ?_
    try simp only [Act.put, List.setIfInBounds_toArray, List.set_cons_zero, List.set_cons_succ]
    refine q_pass (by rfl) ?_
    try simp only [Act.put, List.setIfInBounds_toArray, List.set_cons_zero, List.set_cons_succ]
    refine q_take _ (by rfl) (by intro w _; go_simp; with_reducible rfl) ?_
    try simp only [Act.put, List.setIfInBounds_toArray, List.set_cons_zero, List.set_cons_succ]
    refine q_take _ (by rfl) (by intro w _; go_simp; with_reducible rfl) ?_
    try simp only [Act.put, List.setIfInBounds_toArray, List.set_cons_zero, List.set_cons_succ]
    refine q_pass (by rfl) ?_
    try simp only [Act.put, List.setIfInBounds_toArray, List.set_cons_zero, List.set_cons_succ]
    refine q_pass (by rfl) ?_
    try simp only [Act.put, List.setIfInBounds_toArray, List.set_cons_zero, List.set_cons_succ]
    refine q_pass (by rfl) ?_
    try simp only [Act.put, List.setIfInBounds_toArray, List.set_cons_zero, List.set_cons_succ]
    refine q_take _ (by rfl) (by intro w _; go_simp; with_reducible rfl) ?_
    try simp only [Act.put, List.setIfInBounds_toArray, List.set_cons_zero, List.set_cons_succ]
    refine q_take (.bool true) (by rfl) (by intro w _; go_simp; try with_reducible rfl) ?_
    try simp only [Act.put, List.setIfInBounds_toArray, List.set_cons_zero, List.set_cons_succ]
    refine q_take _ (by rfl) (by intro w _; go_simp; with_reducible rfl) ?_
    try simp only [Act.put, List.setIfInBounds_toArray, List.set_cons_zero, List.set_cons_succ]
    refine q_take _ (by rfl) (by intro w _; go_simp; with_reducible rfl) ?_
    try simp only [Act.put, List.setIfInBounds_toArray, List.set_cons_zero, List.set_cons_succ]
    refine q_take _ (by rfl) (by intro w _; go_simp; with_reducible rfl) ?_
    try simp only [Act.put, List.setIfInBounds_toArray, List.set_cons_zero, List.set_cons_succ]
    refine q_take _ (by rfl) (by intro w _; go_simp; with_reducible rfl) ?_
    try simp only [Act.put, List.setIfInBounds_toArray, List.set_cons_zero, List.set_cons_succ]
    refine q_take (.bool true) (by rfl) (by intro w _; go_simp; try with_reducible rfl) ?_
    try simp only [Act.put, List.setIfInBounds_toArray, List.set_cons_zero, List.set_cons_succ]
    refine q_take _ (by rfl) (by intro w _; go_simp; with_reducible rfl) ?_
    try simp only [Act.put, List.setIfInBounds_toArray, List.set_cons_zero, List.set_cons_succ]
    refine q_take _ (by rfl) (by intro w _; go_simp; with_reducible rfl) ?_
    try simp only [Act.put, List.setIfInBounds_toArray, List.set_cons_zero, List.set_cons_succ]
    refine q_take _ (by rfl) (by intro w _; go_simp; with_reducible rfl) ?_
    try simp only [Act.put, List.setIfInBounds_toArray, List.set_cons_zero, List.set_cons_succ]
    refine q_take _ (by rfl) (by intro w _; go_simp; with_reducible rfl) ?_
    try simp only [Act.put, List.setIfInBounds_toArray, List.set_cons_zero, List.set_cons_succ]
    refine q_take (.bool true) (by rfl) (by intro w _; go_simp; try with_reducible rfl) ?_
    try simp only [Act.put, List.setIfInBounds_toArray, List.set_cons_zero, List.set_cons_succ]
    refine q_take _ (by rfl) (by intro w _; go_simp; with_reducible rfl) ?_
    try simp only [Act.put, List.setIfInBounds_toArray, List.set_cons_zero, List.set_cons_succ]
    refine q_take _ (by rfl) (by intro w _; go_simp; with_reducible rfl) ?_
    try simp only [Act.put, List.setIfInBounds_toArray, List.set_cons_zero, List.set_cons_succ]
    refine wpQuiet_nil ?_
    intro w5 hb
    have L5 := Lib.hid (KB.out.trans (hb.mono (by omega)))
    clear hb
    go_wp2_with fail
    go_ret
    exact ⟨rfl, by rw [HB.out]; exact L5.out⟩

theorem walk (f g : Nat → Nat) (a2 a3 : Int) (w : World) (w0 : ∀ i, f i < 256) (w1 : ∀ i, g i < 256) (_ : (Lit.int .i64 a2).wf = true) (_ : (Lit.int .i64 a3).wf = true) :
    Calls Try.prog 4 #[.agg (byteCells f 12).toArray, .agg (byteCells g 12).toArray, .int .i64 a2, .int .i64 a3] w fun e w' => e = .returned (.bool true) ∧ Below w.heap.size w w' := run f g w0 w1 a2 a3 w

end StampHolds
end Go.Proofs.Ythjmbfhakccomaa
