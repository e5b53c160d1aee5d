/- The walk of 'FieldBack'. -/
import Derived.Test.YtopocmibhffjfaaFieldAlive
import Derived.Test.YtopocmibhffjfaaPrimeP
namespace Go.Proofs.Ytopocmibhffjfaa
namespace FieldBack
open Go.ChangeShapes Go.WideShapes Go.ChangeAt Go.RowKit
open Num Mem Words Radix FieldN Chacha Quiet Go.Proofs.Ytopocmibhffjfaa.Field PrimeP

theorem back_sub {a b : Nat} (ha : a < P) (hb : b < P) : ((a + b) % P + (P - b)) % P = a := by
  rw [Nat.mod_add_mod, show a + b + (P - b) = a + P by omega, Nat.add_mod_right, Nat.mod_eq_of_lt ha]
theorem self_sub {a : Nat} (ha : a < P) : (a + (P - a)) % P = 0 := by
  rw [show a + (P - a) = P by omega, Nat.mod_self]
theorem none_inv : 0 = 0 ^ (P - 2) % P := by
  rw [Nat.zero_pow (by have := P_big; omega), Nat.zero_mod]

theorem wpList_built0_if {P : Program} {ops : Array Oper} {rest : List Oper} {o : Oper} {a : Act} {w : World} {Q : Exit → Act → World → Prop} (hw : Region.wanted o (yielded ops a.tmps) = true) (t : TypeId) (ho : o.op = .build t #[])
    (vs : Array Value) (hb : P.built t [] = some vs) (h : wpList P ops Q rest (a.put o.dst (.agg vs)) w) : wpList P ops Q (o :: rest) a w := by
  have e : P.built t ((#[] : Array (Nat × Operand)).map fun (i, x) => (i, a.eval x)).toList = some vs := by simpa using hb
  refine wpList_step fun _ hK => ?_
  rw [if_pos hw]
  refine wp_build t #[] ho (by rw [e]; rfl) (hK _ _ ?_)
  rw [e]
  exact h
theorem wpList_load_row_if {P : Program} {ops : Array Oper} {rest : List Oper} {o : Oper} {a : Act} {w : World} {Q : Exit → Act → World → Prop} (hw : Region.wanted o (yielded ops a.tmps) = true) (ty : TypeId) (x : Operand) (ho : o.op = .load ty x)
    (g : Nat) (hx : a.eval x = .pointer (some ⟨g, 0, none⟩)) (t : TypeId) (cs : List Value) (d : TypeDesc) (hg : Whole w g t cs.toArray)
    (hu : P.underlying ty = some d) (hd : d.isRow = true) (hi : (P.info? ty).map (·.size) = some cs.length)
    (h : wpList P ops Q rest (a.put o.dst (.agg cs.toArray)) w) : wpList P ops Q (o :: rest) a w :=
  wpList_step fun _ hK => by
    rw [if_pos hw]
    refine wp_load_mid ty x ho g 0 hx cs d (fun j v hj => ?_) hu hd hi (hK _ _ h)
    rw [Nat.zero_add, hg.cell, List.getElem?_toArray, hj]

set_option maxRecDepth 100000 in
theorem none (f g : Nat → Nat) (w : World) (hf : ∀ i, f i < 256) (h0 : tk f = 0) :
    Calls Try.prog 8 #[.agg (byteCells f 32).toArray, .agg (byteCells g 32).toArray] w fun e w' => e = .returned (.bool true) ∧ Below w.heap.size w w' := by
  have cz := Lib.hid (zerV hf h0 true (by simp))
  obtain ⟨v0, h_v0⟩ : ∃ v, v = 0 := ⟨_, rfl⟩
  have ci := Lib.hid (invV hf h0 (v := v0) (by rw [h_v0]; exact none_inv))
  have E := Lib.hid (show ∀ w, (Op.equalIn 10000 22 (.agg (byteCells (byteAt v0) 32).toArray) (.agg (byteCells (byteAt 0) 32).toArray)).run Try.prog w = .ok true w from same_of h_v0)
  clear h0 h_v0 hf
  rw [byteCells_lit32 f]
  rw [byteCells_lit32 g]
  go_enter Try.func8, Try.ntmps8
  go_upto_region 1 with fail
  rw [← byteCells_lit32 f]
  rw [← byteCells_lit32 g]
  refine cut_world (fun W => Whole W (w.heap.size) 22 (byteCells f 32).toArray ∧ Whole W (w.heap.size + 1) 22 (byteCells g 32).toArray ∧ Below w.heap.size w W) ⟨?_, ?_, ?_⟩ ?_
  · exact (whole_new _ _ (by simp)).alloc _
  · exact whole_new _ _ (by simp)
  · exact below_alloc (below_alloc (Below.refl _ _) _) _
  rintro W ⟨k1, k2, kb⟩
  have hB1 := k1.lt
  have K1 := Lib.hid k1
  have K2 := Lib.hid k2
  have KB := Lib.hid kb
  clear k1 k2 kb
  generalize hB : w.heap.size = B at K1 K2 KB hB1 ⊢
  have HZ := Lib.hid (show ∀ f, (byteCells f 32).toArray.size = 32 from fun f => by rw [List.size_toArray, byteCells_length])
  have hB2 : B + 1 < W.heap.size := K2.out.lt
  go_upto_region 2 with (first | (refine wpList_built1 rfl 22 0 (.const (.int .u8 1)) rfl (.int .u8 1) rfl (byteCells (byteAt 1) 32).toArray one_built ?_) | (refine wpList_store_row rfl 22 (.tmp 5) (.tmp 6) rfl W.heap.size (byteCells (byteAt 1) 32).toArray rfl rfl 22 _ (Whole.new _ _ _) (by rw [HZ.out]; kernel_rfl) (by rw [HZ.out]; rfl) (bytes_one _ _) ?_))
  refine cut_world (fun X => Whole X B 22 (byteCells f 32).toArray ∧ Whole X (B + 1) 22 (byteCells g 32).toArray ∧ Whole X W.heap.size 22 (byteCells (byteAt 1) 32).toArray ∧ Below B w X) ⟨Whole.farRow (K1.out.alloc _) (by omega) _, Whole.farRow (K2.out.alloc _) (by omega) _, setRow_heap _ _ _ _ _ _ (Whole.new _ _ _), below_setRow (KB.out.alloc (by omega) _) (by omega) _⟩ ?_
  clear K1 K2 KB
  rintro X ⟨k1, k2, k3, kb⟩
  generalize W.heap.size = G at k3 hB1 hB2 ⊢
  have hB3 := k1.lt
  have K1 := Lib.hid k1
  have K2 := Lib.hid k2
  have K3 := Lib.hid k3
  have KB := Lib.hid kb
  clear k1 k2 k3 kb
  go_wp2_with (refine wpList_load_row rfl 22 (.tmp 2) rfl B rfl 22 (byteCells (f) 32).toArray (0, 0) _ K1.out rfl rfl (by rw [HZ.out]; kernel_rfl) ?_)
  refine (cz.out _).mono ?_
  rintro e1 w1 ⟨rfl, hb⟩
  have hl := K1.out.lt
  replace K1 := Lib.hid (K1.out.below hb hl)
  replace K2 := Lib.hid (K2.out.below hb K2.out.lt)
  replace K3 := Lib.hid (K3.out.below hb K3.out.lt)
  replace KB := Lib.hid (KB.out.trans (hb.mono (by omega)))
  replace hB3 := K1.out.lt
  clear hb hl
  go_wp2_with fail
  refine (alive_any _).mono ?_
  rintro e1 w2 ⟨rfl, hb⟩
  replace K1 := Lib.hid (K1.out.below hb K1.out.lt)
  replace KB := Lib.hid (KB.out.trans (hb.mono (by omega)))
  replace hB3 := K1.out.lt
  clear hb
  go_wp2_with (refine wpList_load_row_if (by rfl) 22 (.tmp 2) rfl B rfl 22 (byteCells (f) 32) _ K1.out rfl rfl (by rw [byteCells_length]; kernel_rfl) ?_)
  refine (ci.out _).mono ?_
  rintro e1 w3 ⟨rfl, hb⟩
  replace KB := Lib.hid (KB.out.trans (hb.mono (by omega)))
  clear hb
  go_wp2_with (first | (refine wpList_built0_if (by rfl) 22 rfl (byteCells (byteAt 0) 32).toArray none_built ?_) | simp only [E.out, Result.andThen_ok])
  go_ret
  exact ⟨rfl, by rw [hB]; exact KB.out⟩

set_option maxRecDepth 100000 in
theorem some (f g : Nat → Nat) (w : World) (hf : ∀ i, f i < 256) (hg : ∀ i, g i < 256) (hne : tk f ≠ 0) :
    Calls Try.prog 8 #[.agg (byteCells f 32).toArray, .agg (byteCells g 32).toArray] w fun e w' => e = .returned (.bool true) ∧ Below w.heap.size w w' := by
  obtain ⟨a, ta⟩ : ∃ v, tk f = v := ⟨_, rfl⟩
  have l_a : a < P := ta ▸ tk_lt f
  obtain ⟨b, tb⟩ : ∃ v, tk g = v := ⟨_, rfl⟩
  have l_b : b < P := tb ▸ tk_lt g
  have h0 : a ≠ 0 := ta ▸ hne
  have cz := Lib.hid (zerV hf ta false (by simpa using h0))
  obtain ⟨v1, h_v1⟩ : ∃ v, v = (a + b) % P := ⟨_, rfl⟩
  have l_v1 : v1 < P := by rw [h_v1]; exact Nat.mod_lt _ P_pos
  have c1 := Lib.hid (addV hf hg ta tb h_v1)
  obtain ⟨v2, h_v2⟩ : ∃ v, v = (v1 + (P - b)) % P := ⟨_, rfl⟩
  have l_v2 : v2 < P := by rw [h_v2]; exact Nat.mod_lt _ P_pos
  have c2 := Lib.hid (subV (byteAt_lt v1) hg (tk_byteAt l_v1) tb h_v2)
  have c_r_f := Lib.hid (redV hf ta)
  obtain ⟨v3, h_v3⟩ : ∃ v, v = a ^ (P - 2) % P := ⟨_, rfl⟩
  have l_v3 : v3 < P := by rw [h_v3]; exact Nat.mod_lt _ P_pos
  have c3 := Lib.hid (invV hf ta h_v3)
  obtain ⟨v4, h_v4⟩ : ∃ v, v = a * v3 % P := ⟨_, rfl⟩
  have l_v4 : v4 < P := by rw [h_v4]; exact Nat.mod_lt _ P_pos
  have c4 := Lib.hid (mulV hf (byteAt_lt v3) ta (tk_byteAt l_v3) h_v4)
  obtain ⟨v5, h_v5⟩ : ∃ v, v = v3 ^ (P - 2) % P := ⟨_, rfl⟩
  have l_v5 : v5 < P := by rw [h_v5]; exact Nat.mod_lt _ P_pos
  have c5 := Lib.hid (invV (byteAt_lt v3) (tk_byteAt l_v3) h_v5)
  obtain ⟨v6, h_v6⟩ : ∃ v, v = (a + (P - a)) % P := ⟨_, rfl⟩
  have l_v6 : v6 < P := by rw [h_v6]; exact Nat.mod_lt _ P_pos
  have c6 := Lib.hid (subV hf hf ta ta h_v6)
  have e_v2_r_f := Lib.hid (show ∀ w, (Op.equalIn 10000 22 (.agg (byteCells (byteAt v2) 32).toArray) (.agg (byteCells (byteAt a) 32).toArray)).run Try.prog w = .ok true w from same_of (by rw [h_v2, h_v1]; exact back_sub l_a l_b))
  have e_v4_k1 := Lib.hid (show ∀ w, (Op.equalIn 10000 22 (.agg (byteCells (byteAt v4) 32).toArray) (.agg (byteCells (byteAt 1) 32).toArray)).run Try.prog w = .ok true w from same_of (by rw [h_v4, h_v3]; exact inv_mul l_a h0))
  have e_v5_r_f := Lib.hid (show ∀ w, (Op.equalIn 10000 22 (.agg (byteCells (byteAt v5) 32).toArray) (.agg (byteCells (byteAt a) 32).toArray)).run Try.prog w = .ok true w from same_of (by rw [h_v5, h_v3]; exact inv_inv l_a h0))
  have e_v6_k0 := Lib.hid (show ∀ w, (Op.equalIn 10000 22 (.agg (byteCells (byteAt v6) 32).toArray) (.agg (byteCells (byteAt 0) 32).toArray)).run Try.prog w = .ok true w from same_of (by rw [h_v6]; exact self_sub l_a))
  clear h_v1 l_v1 h_v2 l_v2 h_v3 l_v3 h_v4 l_v4 h_v5 l_v5 h_v6 l_v6 ta tb l_a l_b h0 hne hf hg
  rw [byteCells_lit32 f]
  rw [byteCells_lit32 g]
  go_enter Try.func8, Try.ntmps8
  go_upto_region 1 with fail
  rw [← byteCells_lit32 f]
  rw [← byteCells_lit32 g]
  refine cut_world (fun W => Whole W (w.heap.size) 22 (byteCells f 32).toArray ∧ Whole W (w.heap.size + 1) 22 (byteCells g 32).toArray ∧ Below w.heap.size w W) ⟨?_, ?_, ?_⟩ ?_
  · exact (whole_new _ _ (by simp)).alloc _
  · exact whole_new _ _ (by simp)
  · exact below_alloc (below_alloc (Below.refl _ _) _) _
  rintro W ⟨k1, k2, kb⟩
  have hB1 := k1.lt
  have K1 := Lib.hid k1
  have K2 := Lib.hid k2
  have KB := Lib.hid kb
  clear k1 k2 kb
  generalize hB : w.heap.size = B at K1 K2 KB hB1 ⊢
  have HZ := Lib.hid (show ∀ f, (byteCells f 32).toArray.size = 32 from fun f => by rw [List.size_toArray, byteCells_length])
  have hB2 : B + 1 < W.heap.size := K2.out.lt
  go_upto_region 2 with (first | (refine wpList_built1 rfl 22 0 (.const (.int .u8 1)) rfl (.int .u8 1) rfl (byteCells (byteAt 1) 32).toArray one_built ?_) | (refine wpList_store_row rfl 22 (.tmp 5) (.tmp 6) rfl W.heap.size (byteCells (byteAt 1) 32).toArray rfl rfl 22 _ (Whole.new _ _ _) (by rw [HZ.out]; kernel_rfl) (by rw [HZ.out]; rfl) (bytes_one _ _) ?_))
  refine cut_world (fun X => Whole X B 22 (byteCells f 32).toArray ∧ Whole X (B + 1) 22 (byteCells g 32).toArray ∧ Whole X W.heap.size 22 (byteCells (byteAt 1) 32).toArray ∧ Below B w X) ⟨Whole.farRow (K1.out.alloc _) (by omega) _, Whole.farRow (K2.out.alloc _) (by omega) _, setRow_heap _ _ _ _ _ _ (Whole.new _ _ _), below_setRow (KB.out.alloc (by omega) _) (by omega) _⟩ ?_
  clear K1 K2 KB
  rintro X ⟨k1, k2, k3, kb⟩
  generalize W.heap.size = G at k3 hB1 hB2 ⊢
  have hB3 := k1.lt
  have K1 := Lib.hid k1
  have K2 := Lib.hid k2
  have K3 := Lib.hid k3
  have KB := Lib.hid kb
  clear k1 k2 k3 kb
  go_wp2_with (refine wpList_load_row rfl 22 (.tmp 2) rfl B rfl 22 (byteCells (f) 32).toArray (0, 0) _ K1.out rfl rfl (by rw [HZ.out]; kernel_rfl) ?_)
  refine (cz.out _).mono ?_
  rintro e1 w1 ⟨rfl, hb⟩
  have hl := K1.out.lt
  replace K1 := Lib.hid (K1.out.below hb hl)
  replace K2 := Lib.hid (K2.out.below hb K2.out.lt)
  replace K3 := Lib.hid (K3.out.below hb K3.out.lt)
  replace KB := Lib.hid (KB.out.trans (hb.mono (by omega)))
  replace hB3 := K1.out.lt
  clear hb hl
  go_wp2_with fail
  refine q_start (by kernel_rfl) (by kernel_rfl) ?_
  refine q_call (.bool true) 21 (#[]) (by rfl) (by intro w; go_simp; try with_reducible rfl) (fun x hx => (alive_any x).mono fun e w' ⟨he, hb⟩ => ⟨he, below_trans hx hb⟩) ?_
  try simp only [Act.put, List.setIfInBounds_toArray, List.set_cons_zero, List.set_cons_succ]
  refine q_take _ (by rfl) (by intro w _; go_simp; with_reducible rfl) ?_
  try simp only [Act.put, List.setIfInBounds_toArray, List.set_cons_zero, List.set_cons_succ]
  refine q_take _ (by rfl) (fun x hx => run_load_in 22 (.tmp 2) rfl (B) rfl (byteCells (f) 32).toArray 32 (by rw [List.size_toArray, byteCells_length]) ((K1.out).below hx (K1.out).lt) rfl rfl (by kernel_rfl)) ?_
  try simp only [Act.put, List.setIfInBounds_toArray, List.set_cons_zero, List.set_cons_succ]
  refine q_take _ (by rfl) (fun x hx => run_load_in 22 (.tmp 3) rfl (B+1) rfl (byteCells (g) 32).toArray 32 (by rw [List.size_toArray, byteCells_length]) ((K2.out).below hx (K2.out).lt) rfl rfl (by kernel_rfl)) ?_
  try simp only [Act.put, List.setIfInBounds_toArray, List.set_cons_zero, List.set_cons_succ]
  refine q_call (B32 (byteAt v1)) 17 (#[B32 (f), B32 (g)]) (by rfl) (by intro w; go_simp; try with_reducible rfl) (fun x hx => (c1.out x).mono fun e w' ⟨he, hb⟩ => ⟨he, below_trans hx hb⟩) ?_
  try simp only [Act.put, List.setIfInBounds_toArray, List.set_cons_zero, List.set_cons_succ]
  refine q_take _ (by rfl) (fun x hx => run_load_in 22 (.tmp 3) rfl (B+1) rfl (byteCells (g) 32).toArray 32 (by rw [List.size_toArray, byteCells_length]) ((K2.out).below hx (K2.out).lt) rfl rfl (by kernel_rfl)) ?_
  try simp only [Act.put, List.setIfInBounds_toArray, List.set_cons_zero, List.set_cons_succ]
  refine q_call (B32 (byteAt v2)) 18 (#[B32 (byteAt v1), B32 (g)]) (by rfl) (by intro w; go_simp; try with_reducible rfl) (fun x hx => (c2.out x).mono fun e w' ⟨he, hb⟩ => ⟨he, below_trans hx hb⟩) ?_
  try simp only [Act.put, List.setIfInBounds_toArray, List.set_cons_zero, List.set_cons_succ]
  refine q_take _ (by rfl) (fun x hx => run_load_in 22 (.tmp 2) rfl (B) rfl (byteCells (f) 32).toArray 32 (by rw [List.size_toArray, byteCells_length]) ((K1.out).below hx (K1.out).lt) rfl rfl (by kernel_rfl)) ?_
  try simp only [Act.put, List.setIfInBounds_toArray, List.set_cons_zero, List.set_cons_succ]
  refine q_call (B32 (byteAt a)) 19 (#[B32 (f)]) (by rfl) (by intro w; go_simp; try with_reducible rfl) (fun x hx => (c_r_f.out x).mono fun e w' ⟨he, hb⟩ => ⟨he, below_trans hx hb⟩) ?_
  try simp only [Act.put, List.setIfInBounds_toArray, List.set_cons_zero, List.set_cons_succ]
  refine q_take _ (by rfl) (by intro w _; go_simp; simp only [e_v2_r_f.out, Result.andThen_ok]; with_reducible rfl) ?_
  try simp only [Act.put, List.setIfInBounds_toArray, List.set_cons_zero, List.set_cons_succ]
  refine q_take _ (by rfl) (by intro w _; go_simp; with_reducible rfl) ?_
  try simp only [Act.put, List.setIfInBounds_toArray, List.set_cons_zero, List.set_cons_succ]
  refine q_take _ (by rfl) (by intro w _; go_simp; with_reducible rfl) ?_
  try simp only [Act.put, List.setIfInBounds_toArray, List.set_cons_zero, List.set_cons_succ]
  refine q_take _ (by rfl) (fun x hx => run_load_in 22 (.tmp 2) rfl (B) rfl (byteCells (f) 32).toArray 32 (by rw [List.size_toArray, byteCells_length]) ((K1.out).below hx (K1.out).lt) rfl rfl (by kernel_rfl)) ?_
  try simp only [Act.put, List.setIfInBounds_toArray, List.set_cons_zero, List.set_cons_succ]
  refine q_take _ (by rfl) (fun x hx => run_load_in 22 (.tmp 2) rfl (B) rfl (byteCells (f) 32).toArray 32 (by rw [List.size_toArray, byteCells_length]) ((K1.out).below hx (K1.out).lt) rfl rfl (by kernel_rfl)) ?_
  try simp only [Act.put, List.setIfInBounds_toArray, List.set_cons_zero, List.set_cons_succ]
  refine q_call (B32 (byteAt v3)) 30 (#[B32 (f)]) (by rfl) (by intro w; go_simp; try with_reducible rfl) (fun x hx => (c3.out x).mono fun e w' ⟨he, hb⟩ => ⟨he, below_trans hx hb⟩) ?_
  try simp only [Act.put, List.setIfInBounds_toArray, List.set_cons_zero, List.set_cons_succ]
  refine q_call (B32 (byteAt v4)) 25 (#[B32 (f), B32 (byteAt v3)]) (by rfl) (by intro w; go_simp; try with_reducible rfl) (fun x hx => (c4.out x).mono fun e w' ⟨he, hb⟩ => ⟨he, below_trans hx hb⟩) ?_
  try simp only [Act.put, List.setIfInBounds_toArray, List.set_cons_zero, List.set_cons_succ]
  refine q_take _ (by rfl) (fun x hx => run_load_in 22 (.tmp 5) rfl (G) rfl (byteCells (byteAt 1) 32).toArray 32 (by rw [List.size_toArray, byteCells_length]) ((K3.out).below hx (K3.out).lt) rfl rfl (by kernel_rfl)) ?_
  try simp only [Act.put, List.setIfInBounds_toArray, List.set_cons_zero, List.set_cons_succ]
  refine q_take _ (by rfl) (by intro w _; go_simp; simp only [e_v4_k1.out, Result.andThen_ok]; with_reducible rfl) ?_
  try simp only [Act.put, List.setIfInBounds_toArray, List.set_cons_zero, List.set_cons_succ]
  refine q_take _ (by rfl) (by intro w _; go_simp; with_reducible rfl) ?_
  try simp only [Act.put, List.setIfInBounds_toArray, List.set_cons_zero, List.set_cons_succ]
  refine q_take _ (by rfl) (by intro w _; go_simp; with_reducible rfl) ?_
  try simp only [Act.put, List.setIfInBounds_toArray, List.set_cons_zero, List.set_cons_succ]
  refine q_take _ (by rfl) (fun x hx => run_load_in 22 (.tmp 2) rfl (B) rfl (byteCells (f) 32).toArray 32 (by rw [List.size_toArray, byteCells_length]) ((K1.out).below hx (K1.out).lt) rfl rfl (by kernel_rfl)) ?_
  try simp only [Act.put, List.setIfInBounds_toArray, List.set_cons_zero, List.set_cons_succ]
  refine q_call (B32 (byteAt v3)) 30 (#[B32 (f)]) (by rfl) (by intro w; go_simp; try with_reducible rfl) (fun x hx => (c3.out x).mono fun e w' ⟨he, hb⟩ => ⟨he, below_trans hx hb⟩) ?_
  try simp only [Act.put, List.setIfInBounds_toArray, List.set_cons_zero, List.set_cons_succ]
  refine q_call (B32 (byteAt v5)) 30 (#[B32 (byteAt v3)]) (by rfl) (by intro w; go_simp; try with_reducible rfl) (fun x hx => (c5.out x).mono fun e w' ⟨he, hb⟩ => ⟨he, below_trans hx hb⟩) ?_
  try simp only [Act.put, List.setIfInBounds_toArray, List.set_cons_zero, List.set_cons_succ]
  refine q_take _ (by rfl) (fun x hx => run_load_in 22 (.tmp 2) rfl (B) rfl (byteCells (f) 32).toArray 32 (by rw [List.size_toArray, byteCells_length]) ((K1.out).below hx (K1.out).lt) rfl rfl (by kernel_rfl)) ?_
  try simp only [Act.put, List.setIfInBounds_toArray, List.set_cons_zero, List.set_cons_succ]
  refine q_call (B32 (byteAt a)) 19 (#[B32 (f)]) (by rfl) (by intro w; go_simp; try with_reducible rfl) (fun x hx => (c_r_f.out x).mono fun e w' ⟨he, hb⟩ => ⟨he, below_trans hx hb⟩) ?_
  try simp only [Act.put, List.setIfInBounds_toArray, List.set_cons_zero, List.set_cons_succ]
  refine q_take _ (by rfl) (by intro w _; go_simp; simp only [e_v5_r_f.out, Result.andThen_ok]; with_reducible rfl) ?_
  try simp only [Act.put, List.setIfInBounds_toArray, List.set_cons_zero, List.set_cons_succ]
  refine q_take _ (by rfl) (by intro w _; go_simp; with_reducible rfl) ?_
  try simp only [Act.put, List.setIfInBounds_toArray, List.set_cons_zero, List.set_cons_succ]
  refine q_take _ (by rfl) (by intro w _; go_simp; with_reducible rfl) ?_
  try simp only [Act.put, List.setIfInBounds_toArray, List.set_cons_zero, List.set_cons_succ]
  refine q_take _ (by rfl) (fun x hx => run_load_in 22 (.tmp 2) rfl (B) rfl (byteCells (f) 32).toArray 32 (by rw [List.size_toArray, byteCells_length]) ((K1.out).below hx (K1.out).lt) rfl rfl (by kernel_rfl)) ?_
  try simp only [Act.put, List.setIfInBounds_toArray, List.set_cons_zero, List.set_cons_succ]
  refine q_take _ (by rfl) (fun x hx => run_load_in 22 (.tmp 2) rfl (B) rfl (byteCells (f) 32).toArray 32 (by rw [List.size_toArray, byteCells_length]) ((K1.out).below hx (K1.out).lt) rfl rfl (by kernel_rfl)) ?_
  try simp only [Act.put, List.setIfInBounds_toArray, List.set_cons_zero, List.set_cons_succ]
  refine q_call (B32 (byteAt v6)) 18 (#[B32 (f), B32 (f)]) (by rfl) (by intro w; go_simp; try with_reducible rfl) (fun x hx => (c6.out x).mono fun e w' ⟨he, hb⟩ => ⟨he, below_trans hx hb⟩) ?_
  try simp only [Act.put, List.setIfInBounds_toArray, List.set_cons_zero, List.set_cons_succ]
  refine q_take (B32 (byteAt 0)) (by rfl) (fun w _ => run_built0 22 rfl (byteCells (byteAt 0) 32).toArray none_built) ?_
  try simp only [Act.put, List.setIfInBounds_toArray, List.set_cons_zero, List.set_cons_succ]
  refine q_take _ (by rfl) (by intro w _; go_simp; simp only [e_v6_k0.out, Result.andThen_ok]; with_reducible rfl) ?_
  try simp only [Act.put, List.setIfInBounds_toArray, List.set_cons_zero, List.set_cons_succ]
  refine q_take _ (by rfl) (by intro w _; go_simp; with_reducible rfl) ?_
  try simp only [Act.put, List.setIfInBounds_toArray, List.set_cons_zero, List.set_cons_succ]
  refine q_take _ (by rfl) (by intro w _; go_simp; with_reducible rfl) ?_
  try simp only [Act.put, List.setIfInBounds_toArray, List.set_cons_zero, List.set_cons_succ]
  refine wpQuiet_nil ?_
  intro w' hw'
  go_wp2_with fail
  go_ret
  exact ⟨rfl, by rw [hB]; exact KB.out.trans (hw'.mono (by omega))⟩

theorem walk (f g : Nat → Nat) (w : World) (hf : ∀ i, f i < 256) (hg : ∀ i, g i < 256) :
    Calls Try.prog 8 #[.agg (byteCells f 32).toArray, .agg (byteCells g 32).toArray] w fun e w' => e = .returned (.bool true) ∧ Below w.heap.size w w' := by
  by_cases h : tk f = 0
  · exact none f g w hf h
  · exact some f g w hf hg h

end FieldBack
end Go.Proofs.Ytopocmibhffjfaa
