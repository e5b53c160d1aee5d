/- The walk of the law TextKeys. -/
import Derived.Test.YtkigkoeanhepkaaTextRefKey
import Derived.Test.YtkigkoeanhepkaaTextAlive
namespace Go.Proofs.Ytkigkoeanhepkaa
namespace TextKeys
open Go.ChangeShapes Go.WideShapes Go.ChangeAt Go.RowKit
open Num Mem Words Chacha Aead Quiet Go.Proofs.Ytkigkoeanhepkaa.Text

set_option maxRecDepth 100000 in
set_option maxHeartbeats 4000000 in
theorem walk (z : Nat → Nat) (s : ByteArray) (w : World) (hz : ∀ i, z i < 256) (_ : s.size ≤ maxLen) :
    Calls Try.prog 3 #[.agg (byteCells z 32).toArray, .string s] w fun e w' => e = .returned (.bool true) ∧ Below w.heap.size w w' := by
  have CA := Lib.hid alive_any
  have CK := Lib.hid (key_any z hz)
  have CR := Lib.hid (fun w0 (h : ∀ i, i < 32 → w0.cell? ⟨w.heap.size, 0 + i, none⟩ = some (.int .u8 (z i : Nat))) (hb : w.heap.size < w0.heap.size) => refKey_any w.heap.size 0 32 z hz w0 h hb)
  have CW := Lib.hid (readKey_any s)
  have CX := Lib.hid (refReadKey_any s)
  clear hz
  obtain ⟨f, hf⟩ : ∃ f, z = f := ⟨_, rfl⟩
  rw [hf] at CK CR ⊢
  clear hf z
  obtain ⟨L, hL⟩ : ∃ L, (byteCells f 32).toArray = L := ⟨_, rfl⟩
  have HL := Lib.hid hL
  rw [hL]
  clear hL
  go_enter Try.func3, Try.ntmps3
  go_upto_region 1 with fail
  refine cut_world (fun W => Whole W w.heap.size 23 (byteCells f 32).toArray ∧ Below w.heap.size w W) ⟨by rw [HL.out]; exact whole_new _ _ rfl, below_alloc (Below.refl _ _) _⟩ ?_
  rintro W ⟨k1, kb⟩
  have K1 := Lib.hid k1
  have KB := Lib.hid kb
  clear k1 kb
  generalize hB : w.heap.size = B at K1 KB CR ⊢
  have HB := Lib.hid hB
  clear hB
  by_cases h1 : 300 < s.size
  · have d1 : decide ((300 : Int) < (s.size : Int)) = true := decide_eq_true (by omega)
    go_wp2_with (go_at_call 6; refine (CA.out _).mono ?_; rintro e w1 ⟨rfl, hb⟩)
    go_ret
    exact ⟨rfl, by rw [HB.out]; exact KB.out.trans (hb.mono (Nat.le_of_lt K1.out.lt))⟩
  have d1 : decide ((300 : Int) < (s.size : Int)) = false := decide_eq_false (by omega)
  obtain ⟨R, hR⟩ : ∃ R, (byteCells (rkB s) 32).toArray = R := ⟨_, rfl⟩
  have HR := Lib.hid hR
  have HRS := Lib.hid (show R.size = 32 by rw [← hR, List.size_toArray, byteCells_length])
  have HR1 := Lib.hid (show R.all (·.oneCell') = true by rw [← hR]; exact bytes_one _ _)
  rw [hR] at CW
  clear hR h1
  go_upto_region 4 with (first
    | (go_at_call 7; refine (CW.out _).mono ?_; rintro e w1 ⟨rfl, hb1⟩; have HB1 := Lib.hid hb1; clear hb1)
    | (refine wpList_store_row rfl 23 (.tmp 5) (.tmp 16) rfl w1.heap.size R rfl rfl 23 _ (Whole.new _ _ _) (by rw [HRS.out]; kernel_rfl) (by rw [HRS.out]; rfl) HR1.out ?_))
  refine cut_world (fun X => Whole X B 23 (byteCells f 32).toArray ∧ Whole X w1.heap.size 23 (byteCells (rkB s) 32).toArray ∧ Below B w X) ⟨?_, ?_, ?_⟩ ?_
  · have hne : B < w1.heap.size := (K1.out.below HB1.out K1.out.lt).lt
    exact Whole.farRow ((K1.out.below HB1.out K1.out.lt).alloc _) (by omega) _
  · rw [HR.out]
    exact setRow_heap _ _ _ _ _ _ (Whole.new _ _ _)
  · have hne : B < w1.heap.size := (K1.out.below HB1.out K1.out.lt).lt
    exact below_setRow (below_alloc' (KB.out.trans (HB1.out.mono (Nat.le_of_lt K1.out.lt))) (Nat.le_of_lt hne) _) (Nat.le_of_lt hne) _
  rintro X ⟨q1, q2, qb⟩
  have Q1 := Lib.hid q1
  have Q2 := Lib.hid q2
  have QB := Lib.hid qb
  generalize w1.heap.size = g at q2 Q2 ⊢
  clear q1 q2 qb K1 KB HB1
  go_upto_region 5 with (first
    | (go_at_call 8; refine (CX.out _).mono ?_; rintro e w2 ⟨⟨A, c, rfl, hr⟩, hb⟩))
  have K1 := Lib.hid (Q1.out.below hb Q1.out.lt)
  have K2 := Lib.hid (Q2.out.below hb Q2.out.lt)
  have K3 := Lib.hid hr
  have KB := Lib.hid (QB.out.trans (hb.mono (Nat.le_of_lt Q1.out.lt)))
  clear hr hb Q1 Q2 QB
  refine q_start (by kernel_rfl) (by kernel_rfl) ?_
  refine q_call (.bool true) 6 (#[]) (by rfl) (by intro w; go_simp; try with_reducible rfl) (fun x hx => (CA.out x).mono (fun e w' ⟨he, hb⟩ => ⟨he, below_trans hx hb⟩)) ?_
  try simp only [Act.put, List.setIfInBounds_toArray, List.set_cons_zero, List.set_cons_succ]
  refine q_take _ (by rfl) (by intro w _; go_simp; with_reducible rfl) ?_
  try simp only [Act.put, List.setIfInBounds_toArray, List.set_cons_zero, List.set_cons_succ]
  refine q_take _ (by rfl) (fun x hx => run_load_in 23 (.tmp 2) rfl (B) rfl (byteCells (f) 32).toArray 32 (by rw [List.size_toArray, byteCells_length]) ((K1.out).below hx (K1.out).lt) rfl rfl (by kernel_rfl)) ?_
  try simp only [Act.put, List.setIfInBounds_toArray, List.set_cons_zero, List.set_cons_succ]
  refine q_call (.string (strOf (kwB f) 44)) 9 (#[.agg (byteCells f 32).toArray]) (by rfl) (by intro w; go_simp; try with_reducible rfl) (fun x hx => (CK.out x).mono (fun e w' ⟨he, hb⟩ => ⟨he, below_trans hx hb⟩)) ?_
  try simp only [Act.put, List.setIfInBounds_toArray, List.set_cons_zero, List.set_cons_succ]
  refine q_take _ (by rfl) (by intro w _; go_simp; with_reducible rfl) ?_
  try simp only [Act.put, List.setIfInBounds_toArray, List.set_cons_zero, List.set_cons_succ]
  refine q_call (.string (strOf (kwB f) 44)) 10 (#[.slice (some ⟨B, 0, none⟩) 32 32]) (by rfl) (by intro w; go_simp; try with_reducible rfl) (fun x hx => (CR.out x (fun i hi => (K1.out.below hx K1.out.lt).bytes i hi) (K1.out.below hx K1.out.lt).lt).mono (fun e w' ⟨he, hb⟩ => ⟨he, below_trans hx hb⟩)) ?_
  try simp only [Act.put, List.setIfInBounds_toArray, List.set_cons_zero, List.set_cons_succ]
  refine q_take _ (by rfl) (by intro w _; go_simp; with_reducible rfl) ?_
  try simp only [Act.put, List.setIfInBounds_toArray, List.set_cons_zero, List.set_cons_succ]
  refine q_take _ (by rfl) (by intro w _; go_simp; with_reducible rfl) ?_
  try simp only [Act.put, List.setIfInBounds_toArray, List.set_cons_zero, List.set_cons_succ]
  refine q_take _ (by rfl) (by intro w _; go_simp; with_reducible rfl) ?_
  try simp only [Act.put, List.setIfInBounds_toArray, List.set_cons_zero, List.set_cons_succ]
  refine q_take _ (by rfl) (by intro w _; go_simp; with_reducible rfl) ?_
  try simp only [Act.put, List.setIfInBounds_toArray, List.set_cons_zero, List.set_cons_succ]
  refine q_take (.string (strOf (rkB s) 32)) (by rfl) (fun x hx => run_string_op 28 9 5 _ rfl rfl Try.underlying28 Try.underlying5 Try.underlying9 (Rd.of_whole (K2.out.below hx K2.out.lt))) ?_
  try simp only [Act.put, List.setIfInBounds_toArray, List.set_cons_zero, List.set_cons_succ]
  refine q_take _ (by rfl) (by intro w _; go_simp; with_reducible rfl) ?_
  try simp only [Act.put, List.setIfInBounds_toArray, List.set_cons_zero, List.set_cons_succ]
  refine q_take (.string (strOf (rkB s) 32)) (by rfl) (fun x hx => run_string_op 28 9 5 _ rfl rfl Try.underlying28 Try.underlying5 Try.underlying9 (K3.out.below hx (Nat.le_refl _))) ?_
  try simp only [Act.put, List.setIfInBounds_toArray, List.set_cons_zero, List.set_cons_succ]
  refine q_take _ (by rfl) (by intro w _; go_simp; with_reducible rfl) ?_
  try simp only [Act.put, List.setIfInBounds_toArray, List.set_cons_zero, List.set_cons_succ]
  refine q_take _ (by rfl) (by intro w _; go_simp; with_reducible rfl) ?_
  try simp only [Act.put, List.setIfInBounds_toArray, List.set_cons_zero, List.set_cons_succ]
  refine q_take _ (by rfl) (by intro w _; go_simp; with_reducible rfl) ?_
  try simp only [Act.put, List.setIfInBounds_toArray, List.set_cons_zero, List.set_cons_succ]
  refine q_take _ (by rfl) (by intro w _; go_simp; with_reducible rfl) ?_
  try simp only [Act.put, List.setIfInBounds_toArray, List.set_cons_zero, List.set_cons_succ]
  refine q_take _ (by rfl) (by intro w _; go_simp; with_reducible rfl) ?_
  try simp only [Act.put, List.setIfInBounds_toArray, List.set_cons_zero, List.set_cons_succ]
  refine q_take _ (by rfl) (by intro w _; go_simp; with_reducible rfl) ?_
  try simp only [Act.put, List.setIfInBounds_toArray, List.set_cons_zero, List.set_cons_succ]
  refine q_take _ (by rfl) (by intro w _; go_simp; with_reducible rfl) ?_
  try simp only [Act.put, List.setIfInBounds_toArray, List.set_cons_zero, List.set_cons_succ]
  refine q_take _ (by rfl) (by intro w _; go_simp; with_reducible rfl) ?_
  try simp only [Act.put, List.setIfInBounds_toArray, List.set_cons_zero, List.set_cons_succ]
  refine wpQuiet_nil ?_
  intro w3 hb3
  have HB3 := Lib.hid (KB.out.trans (hb3.mono (Nat.le_of_lt K1.out.lt)))
  clear hb3
  go_wp2_with fail
  go_ret
  exact ⟨rfl, by rw [HB.out]; exact HB3.out⟩

end TextKeys
end Go.Proofs.Ytkigkoeanhepkaa
