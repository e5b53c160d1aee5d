/- The walk of 'FieldRing'. -/
import Derived.Test.YtopocmibhffjfaaFieldAlive
namespace Go.Proofs.Ytopocmibhffjfaa
namespace FieldRing
open Go.ChangeShapes Go.WideShapes Go.ChangeAt Go.RowKit
open Num Mem Words Radix FieldN Chacha Quiet Go.Proofs.Ytopocmibhffjfaa.Field

set_option maxRecDepth 100000 in
theorem walk (f g h : Nat → Nat) (w : World) (hf : ∀ i, f i < 256) (hg : ∀ i, g i < 256) (hh : ∀ i, h i < 256) :
    Calls Try.prog 7 #[.agg (byteCells f 32).toArray, .agg (byteCells g 32).toArray, .agg (byteCells h 32).toArray] w fun e w' => e = .returned (.bool true) ∧ Below w.heap.size w w' := by
  obtain ⟨a, ta⟩ : ∃ v, tk f = v := ⟨_, rfl⟩
  have l_a : a < P := ta ▸ tk_lt f
  obtain ⟨b, tb⟩ : ∃ v, tk g = v := ⟨_, rfl⟩
  have l_b : b < P := tb ▸ tk_lt g
  obtain ⟨c, tc⟩ : ∃ v, tk h = v := ⟨_, rfl⟩
  have l_c : c < P := tc ▸ tk_lt h
  obtain ⟨v1, h_v1⟩ : ∃ v, v = (a + b) % P := ⟨_, rfl⟩
  have l_v1 : v1 < P := by rw [h_v1]; exact Nat.mod_lt _ P_pos
  have c1 := Lib.hid (addV hf hg ta tb h_v1)
  obtain ⟨v2, h_v2⟩ : ∃ v, v = (b + a) % P := ⟨_, rfl⟩
  have l_v2 : v2 < P := by rw [h_v2]; exact Nat.mod_lt _ P_pos
  have c2 := Lib.hid (addV hg hf tb ta h_v2)
  obtain ⟨v3, h_v3⟩ : ∃ v, v = a * b % P := ⟨_, rfl⟩
  have l_v3 : v3 < P := by rw [h_v3]; exact Nat.mod_lt _ P_pos
  have c3 := Lib.hid (mulV hf hg ta tb h_v3)
  obtain ⟨v4, h_v4⟩ : ∃ v, v = b * a % P := ⟨_, rfl⟩
  have l_v4 : v4 < P := by rw [h_v4]; exact Nat.mod_lt _ P_pos
  have c4 := Lib.hid (mulV hg hf tb ta h_v4)
  obtain ⟨v5, h_v5⟩ : ∃ v, v = (v1 + c) % P := ⟨_, rfl⟩
  have l_v5 : v5 < P := by rw [h_v5]; exact Nat.mod_lt _ P_pos
  have c5 := Lib.hid (addV (byteAt_lt v1) hh (tk_byteAt l_v1) tc h_v5)
  obtain ⟨v6, h_v6⟩ : ∃ v, v = (b + c) % P := ⟨_, rfl⟩
  have l_v6 : v6 < P := by rw [h_v6]; exact Nat.mod_lt _ P_pos
  have c6 := Lib.hid (addV hg hh tb tc h_v6)
  obtain ⟨v7, h_v7⟩ : ∃ v, v = (a + v6) % P := ⟨_, rfl⟩
  have l_v7 : v7 < P := by rw [h_v7]; exact Nat.mod_lt _ P_pos
  have c7 := Lib.hid (addV hf (byteAt_lt v6) ta (tk_byteAt l_v6) h_v7)
  obtain ⟨v8, h_v8⟩ : ∃ v, v = v3 * c % P := ⟨_, rfl⟩
  have l_v8 : v8 < P := by rw [h_v8]; exact Nat.mod_lt _ P_pos
  have c8 := Lib.hid (mulV (byteAt_lt v3) hh (tk_byteAt l_v3) tc h_v8)
  obtain ⟨v9, h_v9⟩ : ∃ v, v = b * c % P := ⟨_, rfl⟩
  have l_v9 : v9 < P := by rw [h_v9]; exact Nat.mod_lt _ P_pos
  have c9 := Lib.hid (mulV hg hh tb tc h_v9)
  obtain ⟨v10, h_v10⟩ : ∃ v, v = a * v9 % P := ⟨_, rfl⟩
  have l_v10 : v10 < P := by rw [h_v10]; exact Nat.mod_lt _ P_pos
  have c10 := Lib.hid (mulV hf (byteAt_lt v9) ta (tk_byteAt l_v9) h_v10)
  obtain ⟨v11, h_v11⟩ : ∃ v, v = a * v6 % P := ⟨_, rfl⟩
  have l_v11 : v11 < P := by rw [h_v11]; exact Nat.mod_lt _ P_pos
  have c11 := Lib.hid (mulV hf (byteAt_lt v6) ta (tk_byteAt l_v6) h_v11)
  obtain ⟨v12, h_v12⟩ : ∃ v, v = a * c % P := ⟨_, rfl⟩
  have l_v12 : v12 < P := by rw [h_v12]; exact Nat.mod_lt _ P_pos
  have c12 := Lib.hid (mulV hf hh ta tc h_v12)
  obtain ⟨v13, h_v13⟩ : ∃ v, v = (v3 + v12) % P := ⟨_, rfl⟩
  have l_v13 : v13 < P := by rw [h_v13]; exact Nat.mod_lt _ P_pos
  have c13 := Lib.hid (addV (byteAt_lt v3) (byteAt_lt v12) (tk_byteAt l_v3) (tk_byteAt l_v12) h_v13)
  have e_v1_v2 := Lib.hid (show ∀ w, (Op.equalIn 10000 22 (.agg (byteCells (byteAt v1) 32).toArray) (.agg (byteCells (byteAt v2) 32).toArray)).run Try.prog w = .ok true w from same_of (by rw [h_v1, h_v2, Nat.add_comm]))
  have e_v3_v4 := Lib.hid (show ∀ w, (Op.equalIn 10000 22 (.agg (byteCells (byteAt v3) 32).toArray) (.agg (byteCells (byteAt v4) 32).toArray)).run Try.prog w = .ok true w from same_of (by rw [h_v3, h_v4, Nat.mul_comm]))
  have e_v5_v7 := Lib.hid (show ∀ w, (Op.equalIn 10000 22 (.agg (byteCells (byteAt v5) 32).toArray) (.agg (byteCells (byteAt v7) 32).toArray)).run Try.prog w = .ok true w from same_of (by rw [h_v7, h_v6, h_v5, h_v1, Nat.mod_add_mod, Nat.add_mod_mod, Nat.add_assoc]))
  have e_v8_v10 := Lib.hid (show ∀ w, (Op.equalIn 10000 22 (.agg (byteCells (byteAt v8) 32).toArray) (.agg (byteCells (byteAt v10) 32).toArray)).run Try.prog w = .ok true w from same_of (by rw [h_v10, h_v9, h_v8, h_v3, Nat.mod_mul_mod, Nat.mul_mod_mod, Nat.mul_assoc]))
  have e_v11_v13 := Lib.hid (show ∀ w, (Op.equalIn 10000 22 (.agg (byteCells (byteAt v11) 32).toArray) (.agg (byteCells (byteAt v13) 32).toArray)).run Try.prog w = .ok true w from same_of (by rw [h_v13, h_v12, h_v11, h_v6, h_v3, Nat.mul_mod_mod, ← Nat.add_mod, Nat.mul_add]))
  clear h_v1 l_v1 h_v2 l_v2 h_v3 l_v3 h_v4 l_v4 h_v5 l_v5 h_v6 l_v6 h_v7 l_v7 h_v8 l_v8 h_v9 l_v9 h_v10 l_v10 h_v11 l_v11 h_v12 l_v12 h_v13 l_v13 ta tb tc l_a l_b l_c hf hg hh
  rw [byteCells_lit32 f]
  rw [byteCells_lit32 g]
  rw [byteCells_lit32 h]
  go_enter Try.func7, Try.ntmps7
  go_upto_region 1 with fail
  rw [← byteCells_lit32 f]
  rw [← byteCells_lit32 g]
  rw [← byteCells_lit32 h]
  refine cut_world (fun W => Whole W (w.heap.size) 22 (byteCells f 32).toArray ∧ Whole W (w.heap.size + 1) 22 (byteCells g 32).toArray ∧ Whole W (w.heap.size + 1 + 1) 22 (byteCells h 32).toArray ∧ Below w.heap.size w W) ⟨?_, ?_, ?_, ?_⟩ ?_
  · exact ((whole_new _ _ (by simp)).alloc _).alloc _
  · exact (whole_new _ _ (by simp)).alloc _
  · exact whole_new _ _ (by simp)
  · exact below_alloc (below_alloc (below_alloc (Below.refl _ _) _) _) _
  rintro W ⟨k1, k2, k3, kb⟩
  have hB1 := k1.lt
  have K1 := Lib.hid k1
  have K2 := Lib.hid k2
  have K3 := Lib.hid k3
  have KB := Lib.hid kb
  clear k1 k2 k3 kb
  generalize hB : w.heap.size = B at K1 K2 K3 KB hB1 ⊢
  refine q_start (by kernel_rfl) (by kernel_rfl) ?_
  refine q_call (.bool true) 21 (#[]) (by rfl) (by intro w; go_simp; try with_reducible rfl) (fun x hx => (alive_any x).mono fun e w' ⟨he, hb⟩ => ⟨he, below_trans hx hb⟩) ?_
  try simp only [Act.put, List.setIfInBounds_toArray, List.set_cons_zero, List.set_cons_succ]
  refine q_take _ (by rfl) (by intro w _; go_simp; with_reducible rfl) ?_
  try simp only [Act.put, List.setIfInBounds_toArray, List.set_cons_zero, List.set_cons_succ]
  refine q_take _ (by rfl) (fun x hx => run_load_in 22 (.tmp 3) rfl (B) rfl (byteCells (f) 32).toArray 32 (by rw [List.size_toArray, byteCells_length]) ((K1.out).below hx (K1.out).lt) rfl rfl (by kernel_rfl)) ?_
  try simp only [Act.put, List.setIfInBounds_toArray, List.set_cons_zero, List.set_cons_succ]
  refine q_take _ (by rfl) (fun x hx => run_load_in 22 (.tmp 4) rfl (B+1) rfl (byteCells (g) 32).toArray 32 (by rw [List.size_toArray, byteCells_length]) ((K2.out).below hx (K2.out).lt) rfl rfl (by kernel_rfl)) ?_
  try simp only [Act.put, List.setIfInBounds_toArray, List.set_cons_zero, List.set_cons_succ]
  refine q_call (B32 (byteAt v1)) 17 (#[B32 (f), B32 (g)]) (by rfl) (by intro w; go_simp; try with_reducible rfl) (fun x hx => (c1.out x).mono fun e w' ⟨he, hb⟩ => ⟨he, below_trans hx hb⟩) ?_
  try simp only [Act.put, List.setIfInBounds_toArray, List.set_cons_zero, List.set_cons_succ]
  refine q_take _ (by rfl) (fun x hx => run_load_in 22 (.tmp 4) rfl (B+1) rfl (byteCells (g) 32).toArray 32 (by rw [List.size_toArray, byteCells_length]) ((K2.out).below hx (K2.out).lt) rfl rfl (by kernel_rfl)) ?_
  try simp only [Act.put, List.setIfInBounds_toArray, List.set_cons_zero, List.set_cons_succ]
  refine q_take _ (by rfl) (fun x hx => run_load_in 22 (.tmp 3) rfl (B) rfl (byteCells (f) 32).toArray 32 (by rw [List.size_toArray, byteCells_length]) ((K1.out).below hx (K1.out).lt) rfl rfl (by kernel_rfl)) ?_
  try simp only [Act.put, List.setIfInBounds_toArray, List.set_cons_zero, List.set_cons_succ]
  refine q_call (B32 (byteAt v2)) 17 (#[B32 (g), B32 (f)]) (by rfl) (by intro w; go_simp; try with_reducible rfl) (fun x hx => (c2.out x).mono fun e w' ⟨he, hb⟩ => ⟨he, below_trans hx hb⟩) ?_
  try simp only [Act.put, List.setIfInBounds_toArray, List.set_cons_zero, List.set_cons_succ]
  refine q_take _ (by rfl) (by intro w _; go_simp; simp only [e_v1_v2.out, Result.andThen_ok]; with_reducible rfl) ?_
  try simp only [Act.put, List.setIfInBounds_toArray, List.set_cons_zero, List.set_cons_succ]
  refine q_take _ (by rfl) (by intro w _; go_simp; with_reducible rfl) ?_
  try simp only [Act.put, List.setIfInBounds_toArray, List.set_cons_zero, List.set_cons_succ]
  refine q_take _ (by rfl) (by intro w _; go_simp; with_reducible rfl) ?_
  try simp only [Act.put, List.setIfInBounds_toArray, List.set_cons_zero, List.set_cons_succ]
  refine q_take _ (by rfl) (fun x hx => run_load_in 22 (.tmp 3) rfl (B) rfl (byteCells (f) 32).toArray 32 (by rw [List.size_toArray, byteCells_length]) ((K1.out).below hx (K1.out).lt) rfl rfl (by kernel_rfl)) ?_
  try simp only [Act.put, List.setIfInBounds_toArray, List.set_cons_zero, List.set_cons_succ]
  refine q_take _ (by rfl) (fun x hx => run_load_in 22 (.tmp 4) rfl (B+1) rfl (byteCells (g) 32).toArray 32 (by rw [List.size_toArray, byteCells_length]) ((K2.out).below hx (K2.out).lt) rfl rfl (by kernel_rfl)) ?_
  try simp only [Act.put, List.setIfInBounds_toArray, List.set_cons_zero, List.set_cons_succ]
  refine q_call (B32 (byteAt v3)) 25 (#[B32 (f), B32 (g)]) (by rfl) (by intro w; go_simp; try with_reducible rfl) (fun x hx => (c3.out x).mono fun e w' ⟨he, hb⟩ => ⟨he, below_trans hx hb⟩) ?_
  try simp only [Act.put, List.setIfInBounds_toArray, List.set_cons_zero, List.set_cons_succ]
  refine q_take _ (by rfl) (fun x hx => run_load_in 22 (.tmp 4) rfl (B+1) rfl (byteCells (g) 32).toArray 32 (by rw [List.size_toArray, byteCells_length]) ((K2.out).below hx (K2.out).lt) rfl rfl (by kernel_rfl)) ?_
  try simp only [Act.put, List.setIfInBounds_toArray, List.set_cons_zero, List.set_cons_succ]
  refine q_take _ (by rfl) (fun x hx => run_load_in 22 (.tmp 3) rfl (B) rfl (byteCells (f) 32).toArray 32 (by rw [List.size_toArray, byteCells_length]) ((K1.out).below hx (K1.out).lt) rfl rfl (by kernel_rfl)) ?_
  try simp only [Act.put, List.setIfInBounds_toArray, List.set_cons_zero, List.set_cons_succ]
  refine q_call (B32 (byteAt v4)) 25 (#[B32 (g), B32 (f)]) (by rfl) (by intro w; go_simp; try with_reducible rfl) (fun x hx => (c4.out x).mono fun e w' ⟨he, hb⟩ => ⟨he, below_trans hx hb⟩) ?_
  try simp only [Act.put, List.setIfInBounds_toArray, List.set_cons_zero, List.set_cons_succ]
  refine q_take _ (by rfl) (by intro w _; go_simp; simp only [e_v3_v4.out, Result.andThen_ok]; with_reducible rfl) ?_
  try simp only [Act.put, List.setIfInBounds_toArray, List.set_cons_zero, List.set_cons_succ]
  refine q_take _ (by rfl) (by intro w _; go_simp; with_reducible rfl) ?_
  try simp only [Act.put, List.setIfInBounds_toArray, List.set_cons_zero, List.set_cons_succ]
  refine q_take _ (by rfl) (by intro w _; go_simp; with_reducible rfl) ?_
  try simp only [Act.put, List.setIfInBounds_toArray, List.set_cons_zero, List.set_cons_succ]
  refine q_take _ (by rfl) (fun x hx => run_load_in 22 (.tmp 3) rfl (B) rfl (byteCells (f) 32).toArray 32 (by rw [List.size_toArray, byteCells_length]) ((K1.out).below hx (K1.out).lt) rfl rfl (by kernel_rfl)) ?_
  try simp only [Act.put, List.setIfInBounds_toArray, List.set_cons_zero, List.set_cons_succ]
  refine q_take _ (by rfl) (fun x hx => run_load_in 22 (.tmp 4) rfl (B+1) rfl (byteCells (g) 32).toArray 32 (by rw [List.size_toArray, byteCells_length]) ((K2.out).below hx (K2.out).lt) rfl rfl (by kernel_rfl)) ?_
  try simp only [Act.put, List.setIfInBounds_toArray, List.set_cons_zero, List.set_cons_succ]
  refine q_call (B32 (byteAt v1)) 17 (#[B32 (f), B32 (g)]) (by rfl) (by intro w; go_simp; try with_reducible rfl) (fun x hx => (c1.out x).mono fun e w' ⟨he, hb⟩ => ⟨he, below_trans hx hb⟩) ?_
  try simp only [Act.put, List.setIfInBounds_toArray, List.set_cons_zero, List.set_cons_succ]
  refine q_take _ (by rfl) (fun x hx => run_load_in 22 (.tmp 5) rfl (B+1+1) rfl (byteCells (h) 32).toArray 32 (by rw [List.size_toArray, byteCells_length]) ((K3.out).below hx (K3.out).lt) rfl rfl (by kernel_rfl)) ?_
  try simp only [Act.put, List.setIfInBounds_toArray, List.set_cons_zero, List.set_cons_succ]
  refine q_call (B32 (byteAt v5)) 17 (#[B32 (byteAt v1), B32 (h)]) (by rfl) (by intro w; go_simp; try with_reducible rfl) (fun x hx => (c5.out x).mono fun e w' ⟨he, hb⟩ => ⟨he, below_trans hx hb⟩) ?_
  try simp only [Act.put, List.setIfInBounds_toArray, List.set_cons_zero, List.set_cons_succ]
  refine q_take _ (by rfl) (fun x hx => run_load_in 22 (.tmp 3) rfl (B) rfl (byteCells (f) 32).toArray 32 (by rw [List.size_toArray, byteCells_length]) ((K1.out).below hx (K1.out).lt) rfl rfl (by kernel_rfl)) ?_
  try simp only [Act.put, List.setIfInBounds_toArray, List.set_cons_zero, List.set_cons_succ]
  refine q_take _ (by rfl) (fun x hx => run_load_in 22 (.tmp 4) rfl (B+1) rfl (byteCells (g) 32).toArray 32 (by rw [List.size_toArray, byteCells_length]) ((K2.out).below hx (K2.out).lt) rfl rfl (by kernel_rfl)) ?_
  try simp only [Act.put, List.setIfInBounds_toArray, List.set_cons_zero, List.set_cons_succ]
  refine q_take _ (by rfl) (fun x hx => run_load_in 22 (.tmp 5) rfl (B+1+1) rfl (byteCells (h) 32).toArray 32 (by rw [List.size_toArray, byteCells_length]) ((K3.out).below hx (K3.out).lt) rfl rfl (by kernel_rfl)) ?_
  try simp only [Act.put, List.setIfInBounds_toArray, List.set_cons_zero, List.set_cons_succ]
  refine q_call (B32 (byteAt v6)) 17 (#[B32 (g), B32 (h)]) (by rfl) (by intro w; go_simp; try with_reducible rfl) (fun x hx => (c6.out x).mono fun e w' ⟨he, hb⟩ => ⟨he, below_trans hx hb⟩) ?_
  try simp only [Act.put, List.setIfInBounds_toArray, List.set_cons_zero, List.set_cons_succ]
  refine q_call (B32 (byteAt v7)) 17 (#[B32 (f), B32 (byteAt v6)]) (by rfl) (by intro w; go_simp; try with_reducible rfl) (fun x hx => (c7.out x).mono fun e w' ⟨he, hb⟩ => ⟨he, below_trans hx hb⟩) ?_
  try simp only [Act.put, List.setIfInBounds_toArray, List.set_cons_zero, List.set_cons_succ]
  refine q_take _ (by rfl) (by intro w _; go_simp; simp only [e_v5_v7.out, Result.andThen_ok]; with_reducible rfl) ?_
  try simp only [Act.put, List.setIfInBounds_toArray, List.set_cons_zero, List.set_cons_succ]
  refine q_take _ (by rfl) (by intro w _; go_simp; with_reducible rfl) ?_
  try simp only [Act.put, List.setIfInBounds_toArray, List.set_cons_zero, List.set_cons_succ]
  refine q_take _ (by rfl) (by intro w _; go_simp; with_reducible rfl) ?_
  try simp only [Act.put, List.setIfInBounds_toArray, List.set_cons_zero, List.set_cons_succ]
  refine q_take _ (by rfl) (fun x hx => run_load_in 22 (.tmp 3) rfl (B) rfl (byteCells (f) 32).toArray 32 (by rw [List.size_toArray, byteCells_length]) ((K1.out).below hx (K1.out).lt) rfl rfl (by kernel_rfl)) ?_
  try simp only [Act.put, List.setIfInBounds_toArray, List.set_cons_zero, List.set_cons_succ]
  refine q_take _ (by rfl) (fun x hx => run_load_in 22 (.tmp 4) rfl (B+1) rfl (byteCells (g) 32).toArray 32 (by rw [List.size_toArray, byteCells_length]) ((K2.out).below hx (K2.out).lt) rfl rfl (by kernel_rfl)) ?_
  try simp only [Act.put, List.setIfInBounds_toArray, List.set_cons_zero, List.set_cons_succ]
  refine q_call (B32 (byteAt v3)) 25 (#[B32 (f), B32 (g)]) (by rfl) (by intro w; go_simp; try with_reducible rfl) (fun x hx => (c3.out x).mono fun e w' ⟨he, hb⟩ => ⟨he, below_trans hx hb⟩) ?_
  try simp only [Act.put, List.setIfInBounds_toArray, List.set_cons_zero, List.set_cons_succ]
  refine q_take _ (by rfl) (fun x hx => run_load_in 22 (.tmp 5) rfl (B+1+1) rfl (byteCells (h) 32).toArray 32 (by rw [List.size_toArray, byteCells_length]) ((K3.out).below hx (K3.out).lt) rfl rfl (by kernel_rfl)) ?_
  try simp only [Act.put, List.setIfInBounds_toArray, List.set_cons_zero, List.set_cons_succ]
  refine q_call (B32 (byteAt v8)) 25 (#[B32 (byteAt v3), B32 (h)]) (by rfl) (by intro w; go_simp; try with_reducible rfl) (fun x hx => (c8.out x).mono fun e w' ⟨he, hb⟩ => ⟨he, below_trans hx hb⟩) ?_
  try simp only [Act.put, List.setIfInBounds_toArray, List.set_cons_zero, List.set_cons_succ]
  refine q_take _ (by rfl) (fun x hx => run_load_in 22 (.tmp 3) rfl (B) rfl (byteCells (f) 32).toArray 32 (by rw [List.size_toArray, byteCells_length]) ((K1.out).below hx (K1.out).lt) rfl rfl (by kernel_rfl)) ?_
  try simp only [Act.put, List.setIfInBounds_toArray, List.set_cons_zero, List.set_cons_succ]
  refine q_take _ (by rfl) (fun x hx => run_load_in 22 (.tmp 4) rfl (B+1) rfl (byteCells (g) 32).toArray 32 (by rw [List.size_toArray, byteCells_length]) ((K2.out).below hx (K2.out).lt) rfl rfl (by kernel_rfl)) ?_
  try simp only [Act.put, List.setIfInBounds_toArray, List.set_cons_zero, List.set_cons_succ]
  refine q_take _ (by rfl) (fun x hx => run_load_in 22 (.tmp 5) rfl (B+1+1) rfl (byteCells (h) 32).toArray 32 (by rw [List.size_toArray, byteCells_length]) ((K3.out).below hx (K3.out).lt) rfl rfl (by kernel_rfl)) ?_
  try simp only [Act.put, List.setIfInBounds_toArray, List.set_cons_zero, List.set_cons_succ]
  refine q_call (B32 (byteAt v9)) 25 (#[B32 (g), B32 (h)]) (by rfl) (by intro w; go_simp; try with_reducible rfl) (fun x hx => (c9.out x).mono fun e w' ⟨he, hb⟩ => ⟨he, below_trans hx hb⟩) ?_
  try simp only [Act.put, List.setIfInBounds_toArray, List.set_cons_zero, List.set_cons_succ]
  refine q_call (B32 (byteAt v10)) 25 (#[B32 (f), B32 (byteAt v9)]) (by rfl) (by intro w; go_simp; try with_reducible rfl) (fun x hx => (c10.out x).mono fun e w' ⟨he, hb⟩ => ⟨he, below_trans hx hb⟩) ?_
  try simp only [Act.put, List.setIfInBounds_toArray, List.set_cons_zero, List.set_cons_succ]
  refine q_take _ (by rfl) (by intro w _; go_simp; simp only [e_v8_v10.out, Result.andThen_ok]; with_reducible rfl) ?_
  try simp only [Act.put, List.setIfInBounds_toArray, List.set_cons_zero, List.set_cons_succ]
  refine q_take _ (by rfl) (by intro w _; go_simp; with_reducible rfl) ?_
  try simp only [Act.put, List.setIfInBounds_toArray, List.set_cons_zero, List.set_cons_succ]
  refine q_take _ (by rfl) (by intro w _; go_simp; with_reducible rfl) ?_
  try simp only [Act.put, List.setIfInBounds_toArray, List.set_cons_zero, List.set_cons_succ]
  refine q_take _ (by rfl) (fun x hx => run_load_in 22 (.tmp 3) rfl (B) rfl (byteCells (f) 32).toArray 32 (by rw [List.size_toArray, byteCells_length]) ((K1.out).below hx (K1.out).lt) rfl rfl (by kernel_rfl)) ?_
  try simp only [Act.put, List.setIfInBounds_toArray, List.set_cons_zero, List.set_cons_succ]
  refine q_take _ (by rfl) (fun x hx => run_load_in 22 (.tmp 4) rfl (B+1) rfl (byteCells (g) 32).toArray 32 (by rw [List.size_toArray, byteCells_length]) ((K2.out).below hx (K2.out).lt) rfl rfl (by kernel_rfl)) ?_
  try simp only [Act.put, List.setIfInBounds_toArray, List.set_cons_zero, List.set_cons_succ]
  refine q_take _ (by rfl) (fun x hx => run_load_in 22 (.tmp 5) rfl (B+1+1) rfl (byteCells (h) 32).toArray 32 (by rw [List.size_toArray, byteCells_length]) ((K3.out).below hx (K3.out).lt) rfl rfl (by kernel_rfl)) ?_
  try simp only [Act.put, List.setIfInBounds_toArray, List.set_cons_zero, List.set_cons_succ]
  refine q_call (B32 (byteAt v6)) 17 (#[B32 (g), B32 (h)]) (by rfl) (by intro w; go_simp; try with_reducible rfl) (fun x hx => (c6.out x).mono fun e w' ⟨he, hb⟩ => ⟨he, below_trans hx hb⟩) ?_
  try simp only [Act.put, List.setIfInBounds_toArray, List.set_cons_zero, List.set_cons_succ]
  refine q_call (B32 (byteAt v11)) 25 (#[B32 (f), B32 (byteAt v6)]) (by rfl) (by intro w; go_simp; try with_reducible rfl) (fun x hx => (c11.out x).mono fun e w' ⟨he, hb⟩ => ⟨he, below_trans hx hb⟩) ?_
  try simp only [Act.put, List.setIfInBounds_toArray, List.set_cons_zero, List.set_cons_succ]
  refine q_take _ (by rfl) (fun x hx => run_load_in 22 (.tmp 3) rfl (B) rfl (byteCells (f) 32).toArray 32 (by rw [List.size_toArray, byteCells_length]) ((K1.out).below hx (K1.out).lt) rfl rfl (by kernel_rfl)) ?_
  try simp only [Act.put, List.setIfInBounds_toArray, List.set_cons_zero, List.set_cons_succ]
  refine q_take _ (by rfl) (fun x hx => run_load_in 22 (.tmp 4) rfl (B+1) rfl (byteCells (g) 32).toArray 32 (by rw [List.size_toArray, byteCells_length]) ((K2.out).below hx (K2.out).lt) rfl rfl (by kernel_rfl)) ?_
  try simp only [Act.put, List.setIfInBounds_toArray, List.set_cons_zero, List.set_cons_succ]
  refine q_call (B32 (byteAt v3)) 25 (#[B32 (f), B32 (g)]) (by rfl) (by intro w; go_simp; try with_reducible rfl) (fun x hx => (c3.out x).mono fun e w' ⟨he, hb⟩ => ⟨he, below_trans hx hb⟩) ?_
  try simp only [Act.put, List.setIfInBounds_toArray, List.set_cons_zero, List.set_cons_succ]
  refine q_take _ (by rfl) (fun x hx => run_load_in 22 (.tmp 3) rfl (B) rfl (byteCells (f) 32).toArray 32 (by rw [List.size_toArray, byteCells_length]) ((K1.out).below hx (K1.out).lt) rfl rfl (by kernel_rfl)) ?_
  try simp only [Act.put, List.setIfInBounds_toArray, List.set_cons_zero, List.set_cons_succ]
  refine q_take _ (by rfl) (fun x hx => run_load_in 22 (.tmp 5) rfl (B+1+1) rfl (byteCells (h) 32).toArray 32 (by rw [List.size_toArray, byteCells_length]) ((K3.out).below hx (K3.out).lt) rfl rfl (by kernel_rfl)) ?_
  try simp only [Act.put, List.setIfInBounds_toArray, List.set_cons_zero, List.set_cons_succ]
  refine q_call (B32 (byteAt v12)) 25 (#[B32 (f), B32 (h)]) (by rfl) (by intro w; go_simp; try with_reducible rfl) (fun x hx => (c12.out x).mono fun e w' ⟨he, hb⟩ => ⟨he, below_trans hx hb⟩) ?_
  try simp only [Act.put, List.setIfInBounds_toArray, List.set_cons_zero, List.set_cons_succ]
  refine q_call (B32 (byteAt v13)) 17 (#[B32 (byteAt v3), B32 (byteAt v12)]) (by rfl) (by intro w; go_simp; try with_reducible rfl) (fun x hx => (c13.out x).mono fun e w' ⟨he, hb⟩ => ⟨he, below_trans hx hb⟩) ?_
  try simp only [Act.put, List.setIfInBounds_toArray, List.set_cons_zero, List.set_cons_succ]
  refine q_take _ (by rfl) (by intro w _; go_simp; simp only [e_v11_v13.out, Result.andThen_ok]; with_reducible rfl) ?_
  try simp only [Act.put, List.setIfInBounds_toArray, List.set_cons_zero, List.set_cons_succ]
  refine q_take _ (by rfl) (by intro w _; go_simp; with_reducible rfl) ?_
  try simp only [Act.put, List.setIfInBounds_toArray, List.set_cons_zero, List.set_cons_succ]
  refine q_take _ (by rfl) (by intro w _; go_simp; with_reducible rfl) ?_
  try simp only [Act.put, List.setIfInBounds_toArray, List.set_cons_zero, List.set_cons_succ]
  refine wpQuiet_nil ?_
  intro w' hw'
  go_wp2_with fail
  go_ret
  exact ⟨rfl, by rw [hB]; exact KB.out.trans (hw'.mono (by omega))⟩

end FieldRing
end Go.Proofs.Ytopocmibhffjfaa
