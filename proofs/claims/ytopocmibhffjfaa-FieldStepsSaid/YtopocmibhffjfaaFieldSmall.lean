/- The walk of 'FieldSmall'. -/
import Derived.Test.YtopocmibhffjfaaFieldAlive
namespace Go.Proofs.Ytopocmibhffjfaa
namespace FieldSmall
open Go.ChangeShapes Go.WideShapes Go.ChangeAt Go.RowKit
open Num Mem Words Radix FieldN Chacha Quiet Go.Proofs.Ytopocmibhffjfaa.Field

theorem high_small : ∀ x, x < 256 → (x ^^^ 128) % 128 = x % 128 ∧ x ^^^ 128 < 256 := by decide +kernel
theorem high_lt {f : Nat → Nat} (hf : ∀ i, f i < 256) (i : Nat) : (fun i => if i = 31 then f 31 ^^^ 128 else f i) i < 256 := by
  show (if i = 31 then f 31 ^^^ 128 else f i) < 256
  split
  · exact (high_small _ (hf 31)).2
  · exact hf i
theorem le_succ (f : Nat → Nat) (p k : Nat) : le f p (k + 1) = le f p k + f (p + k) * 2 ^ (8 * k) := rfl
/-- the digit that does not count -/
theorem high_tk {f : Nat → Nat} (hf : ∀ i, f i < 256) : tk (fun i => if i = 31 then f 31 ^^^ 128 else f i) = tk f := by
  have h := (high_small _ (hf 31)).1
  suffices e : le (fun i => if i = 31 then f 31 ^^^ 128 else f i) 0 (31 + 1) % T = le f 0 (31 + 1) % T by
    unfold tk
    rw [e]
  rw [le_succ (fun i => if i = 31 then f 31 ^^^ 128 else f i) 0 31, le_succ f 0 31, le_congr (g := f) (q := 0) 31 (fun i hi => if_neg (by omega)), ← T_two, show (0 + 31 : Nat) = 31 from rfl, if_pos rfl]
  generalize f 31 ^^^ 128 = y at h
  generalize f 31 = x at h
  generalize le f 0 31 = z
  rw [show (2 : Nat) ^ 255 = 128 * 2 ^ (8 * 31) by rw [show (128 : Nat) = 2 ^ 7 from rfl, ← Nat.pow_add]]
  generalize (2 : Nat) ^ (8 * 31) = M
  have key : ∀ q r, (z + (128 * q + r) * M) % (128 * M) = (z + r * M) % (128 * M) := fun q r => by
    rw [Nat.add_mul, show z + (128 * q * M + r * M) = z + r * M + q * (128 * M) by rw [show 128 * q * M = q * (128 * M) by ac_rfl]; omega, Nat.add_mul_mod_self_right]
  rw [← Nat.div_add_mod x 128, ← Nat.div_add_mod y 128, h, key, key]

set_option maxRecDepth 100000 in
theorem top (f : Nat → Nat) (n : Nat) (w : World) (hf : ∀ i, f i < 256) (hn : n = 4294967295) :
    Calls Try.prog 10 #[.agg (byteCells f 32).toArray, .int .u32 n] w fun e w' => e = .returned (.bool true) ∧ Below w.heap.size w w' := by
  have hn32 : n < 4294967296 := by omega
  have hd : ((n : Int) == 4294967295) = true := by rw [hn]; rfl
  obtain ⟨g, hgd⟩ : ∃ g, g = fun i => if i = 31 then f 31 ^^^ 128 else f i := ⟨_, rfl⟩
  have hg : ∀ i, g i < 256 := by rw [hgd]; exact high_lt hf
  obtain ⟨a, ta⟩ : ∃ v, tk f = v := ⟨_, rfl⟩
  have l_a : a < P := ta ▸ tk_lt f
  have tg : tk g = a := by rw [hgd, high_tk hf, ta]
  have HX := Lib.hid (show bits .xor .u8 ((f 31 : Nat) : Int) 128 = ((f 31 ^^^ 128 : Nat) : Int) from u8_xor_nat (f 31) 128 (hf 31) (by omega))
  have HGG := Lib.hid (show byteCells (fun i => if i = 31 then f 31 ^^^ 128 else f i) 32 = byteCells g 32 by rw [hgd])
  have c_r_g := Lib.hid (redV hg tg)
  have c_r_f := Lib.hid (redV hf ta)
  have e_r_g_r_f := Lib.hid (show ∀ w, (Op.equalIn 10000 22 (.agg (byteCells (byteAt a) 32).toArray) (.agg (byteCells (byteAt a) 32).toArray)).run Try.prog w = .ok true w from same_of rfl)
  clear  ta tg l_a hf hg hgd
  have HZ := Lib.hid (show ∀ f, (byteCells f 32).toArray.size = 32 from fun f => by rw [List.size_toArray, byteCells_length])
  rw [byteCells_lit32 f]
  go_enter Try.func10, Try.ntmps10
  go_upto_region 1 with fail
  rw [← byteCells_lit32 f]
  refine cut_world (fun W => Whole W (w.heap.size) 22 (byteCells f 32).toArray ∧ Below w.heap.size w W) ⟨?_, ?_⟩ ?_
  · exact whole_new _ _ (by simp)
  · exact below_alloc (Below.refl _ _) _
  rintro W ⟨k1, kb⟩
  have hB1 := k1.lt
  have K1 := Lib.hid k1
  have KB := Lib.hid kb
  clear k1 kb
  generalize hB : w.heap.size = B at K1 KB hB1 ⊢
  go_upto_region 2 with (first | (refine wpList_load_row rfl 22 (.tmp 2) rfl B rfl 22 (byteCells f 32).toArray (0, 0) _ K1.out rfl rfl (by rw [HZ.out]; kernel_rfl) ?_) | (refine wpList_store_row rfl 22 (.tmp 5) (.tmp 6) rfl W.heap.size (byteCells f 32).toArray rfl rfl 22 _ (Whole.new _ _ _) (by rw [HZ.out]; kernel_rfl) (by rw [HZ.out]; rfl) (bytes_one _ _) ?_))
  refine cut_world (fun X => Whole X B 22 (byteCells f 32).toArray ∧ Whole X W.heap.size 22 (byteCells f 32).toArray ∧ Below B w X) ⟨Whole.farRow (K1.out.alloc _) (by omega) _, setRow_heap _ _ _ _ _ _ (Whole.new _ _ _), below_setRow (KB.out.alloc (by omega) _) (by omega) _⟩ ?_
  clear K1 KB
  rintro X ⟨k1, k2, kb⟩
  generalize W.heap.size = G at k2 hB1 ⊢
  have f2 := k2.free 31
  have c2 := k2.bytes 31 (by omega)
  rw [Nat.zero_add] at c2
  have h := k2.put 31 (.int .u8 (f 31 ^^^ 128 : Nat))
  rw [byteCells_set, HGG.out] at h
  have K1 := Lib.hid k1
  have K2 := Lib.hid h
  have KB := Lib.hid kb
  clear k1 k2 kb h
  go_upto_region 3 with fail
  rw [HX.out]
  refine cut_world (fun X => Whole X B 22 (byteCells f 32).toArray ∧ Whole X G 22 (byteCells g 32).toArray ∧ Below B w X) ⟨K1.out.far (by simp; omega) _, K2.out, KB.out.setCell (by simp; omega) _⟩ ?_
  clear K1 K2 KB f2 c2
  rintro X3 ⟨k1, k2, kb⟩
  have hB2 := k1.lt
  have K1 := Lib.hid k1
  have K2 := Lib.hid k2
  have KB := Lib.hid kb
  clear k1 k2 kb
  go_wp2_with fail
  refine q_start (by kernel_rfl) (by kernel_rfl) ?_
  refine q_call (.bool true) 21 (#[]) (by rfl) (by intro w; go_simp; try with_reducible rfl) (fun x hx => (alive_any x).mono fun e w' ⟨he, hb⟩ => ⟨he, below_trans hx hb⟩) ?_
  try simp only [Act.put, List.setIfInBounds_toArray, List.set_cons_zero, List.set_cons_succ]
  refine q_take _ (by rfl) (by intro w _; go_simp; with_reducible rfl) ?_
  try simp only [Act.put, List.setIfInBounds_toArray, List.set_cons_zero, List.set_cons_succ]
  refine q_take _ (by rfl) (fun x hx => run_load_in 22 (.tmp 5) rfl (G) rfl (byteCells (g) 32).toArray 32 (by rw [List.size_toArray, byteCells_length]) ((K2.out).below hx (K2.out).lt) rfl rfl (by kernel_rfl)) ?_
  try simp only [Act.put, List.setIfInBounds_toArray, List.set_cons_zero, List.set_cons_succ]
  refine q_call (B32 (byteAt a)) 19 (#[B32 (g)]) (by rfl) (by intro w; go_simp; try with_reducible rfl) (fun x hx => (c_r_g.out x).mono fun e w' ⟨he, hb⟩ => ⟨he, below_trans hx hb⟩) ?_
  try simp only [Act.put, List.setIfInBounds_toArray, List.set_cons_zero, List.set_cons_succ]
  refine q_take _ (by rfl) (fun x hx => run_load_in 22 (.tmp 2) rfl (B) rfl (byteCells (f) 32).toArray 32 (by rw [List.size_toArray, byteCells_length]) ((K1.out).below hx (K1.out).lt) rfl rfl (by kernel_rfl)) ?_
  try simp only [Act.put, List.setIfInBounds_toArray, List.set_cons_zero, List.set_cons_succ]
  refine q_call (B32 (byteAt a)) 19 (#[B32 (f)]) (by rfl) (by intro w; go_simp; try with_reducible rfl) (fun x hx => (c_r_f.out x).mono fun e w' ⟨he, hb⟩ => ⟨he, below_trans hx hb⟩) ?_
  try simp only [Act.put, List.setIfInBounds_toArray, List.set_cons_zero, List.set_cons_succ]
  refine q_take _ (by rfl) (by intro w _; go_simp; simp only [e_r_g_r_f.out, Result.andThen_ok]; with_reducible rfl) ?_
  try simp only [Act.put, List.setIfInBounds_toArray, List.set_cons_zero, List.set_cons_succ]
  refine q_take _ (by rfl) (by intro w _; go_simp; with_reducible rfl) ?_
  try simp only [Act.put, List.setIfInBounds_toArray, List.set_cons_zero, List.set_cons_succ]
  refine q_take _ (by rfl) (by intro w _; go_simp; with_reducible rfl) ?_
  try simp only [Act.put, List.setIfInBounds_toArray, List.set_cons_zero, List.set_cons_succ]
  refine wpQuiet_nil ?_
  intro w' hw'
  go_wp2_with fail
  go_ret
  exact ⟨rfl, by rw [hB]; exact KB.out.trans (hw'.mono (by omega))⟩


set_option maxRecDepth 100000 in
theorem low (f : Nat → Nat) (n : Nat) (w : World) (hf : ∀ i, f i < 256) (hn : n < 4294967295) :
    Calls Try.prog 10 #[.agg (byteCells f 32).toArray, .int .u32 n] w fun e w' => e = .returned (.bool true) ∧ Below w.heap.size w w' := by
  have hn32 : n < 4294967296 := by omega
  have hd : ((n : Int) == 4294967295) = false := by rw [beq_eq_false_iff_ne]; omega
  obtain ⟨m, hm⟩ : ∃ m, m = n + 1 := ⟨_, rfl⟩
  have hm32 : m < 4294967296 := by omega
  have HM := Lib.hid (show IntKind.u32.wrap ((n : Int) + 1) = (m : Int) by rw [IntKind.wrap_u32]; omega)
  obtain ⟨g, hgd⟩ : ∃ g, g = fun i => if i = 31 then f 31 ^^^ 128 else f i := ⟨_, rfl⟩
  have hg : ∀ i, g i < 256 := by rw [hgd]; exact high_lt hf
  obtain ⟨a, ta⟩ : ∃ v, tk f = v := ⟨_, rfl⟩
  have l_a : a < P := ta ▸ tk_lt f
  have tg : tk g = a := by rw [hgd, high_tk hf, ta]
  have HX := Lib.hid (show bits .xor .u8 ((f 31 : Nat) : Int) 128 = ((f 31 ^^^ 128 : Nat) : Int) from u8_xor_nat (f 31) 128 (hf 31) (by omega))
  have HGG := Lib.hid (show byteCells (fun i => if i = 31 then f 31 ^^^ 128 else f i) 32 = byteCells g 32 by rw [hgd])
  obtain ⟨v1, h_v1⟩ : ∃ v, v = a * m % P := ⟨_, rfl⟩
  have l_v1 : v1 < P := by rw [h_v1]; exact Nat.mod_lt _ P_pos
  have c1 := Lib.hid (smaV hf hm32 ta h_v1)
  obtain ⟨v2, h_v2⟩ : ∃ v, v = a * n % P := ⟨_, rfl⟩
  have l_v2 : v2 < P := by rw [h_v2]; exact Nat.mod_lt _ P_pos
  have c2 := Lib.hid (smaV hf hn32 ta h_v2)
  obtain ⟨v3, h_v3⟩ : ∃ v, v = (v2 + a) % P := ⟨_, rfl⟩
  have l_v3 : v3 < P := by rw [h_v3]; exact Nat.mod_lt _ P_pos
  have c3 := Lib.hid (addV (byteAt_lt v2) hf (tk_byteAt l_v2) ta h_v3)
  obtain ⟨v4, h_v4⟩ : ∃ v, v = a * 0 % P := ⟨_, rfl⟩
  have l_v4 : v4 < P := by rw [h_v4]; exact Nat.mod_lt _ P_pos
  have c4 := Lib.hid (smaV hf (by omega) ta h_v4)
  have c_r_g := Lib.hid (redV hg tg)
  have c_r_f := Lib.hid (redV hf ta)
  obtain ⟨v5, h_v5⟩ : ∃ v, v = a * a % P := ⟨_, rfl⟩
  have l_v5 : v5 < P := by rw [h_v5]; exact Nat.mod_lt _ P_pos
  have c5 := Lib.hid (mulV hg hg tg tg h_v5)
  obtain ⟨v6, h_v6⟩ : ∃ v, v = a * a % P := ⟨_, rfl⟩
  have l_v6 : v6 < P := by rw [h_v6]; exact Nat.mod_lt _ P_pos
  have c6 := Lib.hid (mulV hf hf ta ta h_v6)
  have e_v1_v3 := Lib.hid (show ∀ w, (Op.equalIn 10000 22 (.agg (byteCells (byteAt v1) 32).toArray) (.agg (byteCells (byteAt v3) 32).toArray)).run Try.prog w = .ok true w from same_of (by rw [h_v3, h_v2, h_v1, hm, Nat.mod_add_mod, Nat.mul_add, Nat.mul_one]))
  have e_v4_k0 := Lib.hid (show ∀ w, (Op.equalIn 10000 22 (.agg (byteCells (byteAt v4) 32).toArray) (.agg (byteCells (byteAt 0) 32).toArray)).run Try.prog w = .ok true w from same_of (by rw [h_v4, Nat.mul_zero, Nat.zero_mod]))
  have e_r_g_r_f := Lib.hid (show ∀ w, (Op.equalIn 10000 22 (.agg (byteCells (byteAt a) 32).toArray) (.agg (byteCells (byteAt a) 32).toArray)).run Try.prog w = .ok true w from same_of rfl)
  have e_v5_v6 := Lib.hid (show ∀ w, (Op.equalIn 10000 22 (.agg (byteCells (byteAt v5) 32).toArray) (.agg (byteCells (byteAt v6) 32).toArray)).run Try.prog w = .ok true w from same_of (by rw [h_v6, h_v5]))
  clear h_v1 l_v1 h_v2 l_v2 h_v3 l_v3 h_v4 l_v4 h_v5 l_v5 h_v6 l_v6 hm ta tg l_a hf hg hgd
  have HZ := Lib.hid (show ∀ f, (byteCells f 32).toArray.size = 32 from fun f => by rw [List.size_toArray, byteCells_length])
  rw [byteCells_lit32 f]
  go_enter Try.func10, Try.ntmps10
  go_upto_region 1 with fail
  rw [← byteCells_lit32 f]
  refine cut_world (fun W => Whole W (w.heap.size) 22 (byteCells f 32).toArray ∧ Below w.heap.size w W) ⟨?_, ?_⟩ ?_
  · exact whole_new _ _ (by simp)
  · exact below_alloc (Below.refl _ _) _
  rintro W ⟨k1, kb⟩
  have hB1 := k1.lt
  have K1 := Lib.hid k1
  have KB := Lib.hid kb
  clear k1 kb
  generalize hB : w.heap.size = B at K1 KB hB1 ⊢
  go_upto_region 2 with (first | (refine wpList_load_row rfl 22 (.tmp 2) rfl B rfl 22 (byteCells f 32).toArray (0, 0) _ K1.out rfl rfl (by rw [HZ.out]; kernel_rfl) ?_) | (refine wpList_store_row rfl 22 (.tmp 5) (.tmp 6) rfl W.heap.size (byteCells f 32).toArray rfl rfl 22 _ (Whole.new _ _ _) (by rw [HZ.out]; kernel_rfl) (by rw [HZ.out]; rfl) (bytes_one _ _) ?_))
  refine cut_world (fun X => Whole X B 22 (byteCells f 32).toArray ∧ Whole X W.heap.size 22 (byteCells f 32).toArray ∧ Below B w X) ⟨Whole.farRow (K1.out.alloc _) (by omega) _, setRow_heap _ _ _ _ _ _ (Whole.new _ _ _), below_setRow (KB.out.alloc (by omega) _) (by omega) _⟩ ?_
  clear K1 KB
  rintro X ⟨k1, k2, kb⟩
  generalize W.heap.size = G at k2 hB1 ⊢
  have f2 := k2.free 31
  have c2 := k2.bytes 31 (by omega)
  rw [Nat.zero_add] at c2
  have h := k2.put 31 (.int .u8 (f 31 ^^^ 128 : Nat))
  rw [byteCells_set, HGG.out] at h
  have K1 := Lib.hid k1
  have K2 := Lib.hid h
  have KB := Lib.hid kb
  clear k1 k2 kb h
  go_upto_region 3 with fail
  rw [HX.out]
  refine cut_world (fun X => Whole X B 22 (byteCells f 32).toArray ∧ Whole X G 22 (byteCells g 32).toArray ∧ Below B w X) ⟨K1.out.far (by simp; omega) _, K2.out, KB.out.setCell (by simp; omega) _⟩ ?_
  clear K1 K2 KB f2 c2
  rintro X3 ⟨k1, k2, kb⟩
  have hB2 := k1.lt
  have K1 := Lib.hid k1
  have K2 := Lib.hid k2
  have KB := Lib.hid kb
  clear k1 k2 kb
  go_wp2_with fail
  refine q_start (by kernel_rfl) (by kernel_rfl) ?_
  refine q_call (.bool true) 21 (#[]) (by rfl) (by intro w; go_simp; try with_reducible rfl) (fun x hx => (alive_any x).mono fun e w' ⟨he, hb⟩ => ⟨he, below_trans hx hb⟩) ?_
  try simp only [Act.put, List.setIfInBounds_toArray, List.set_cons_zero, List.set_cons_succ]
  refine q_take _ (by rfl) (by intro w _; go_simp; with_reducible rfl) ?_
  try simp only [Act.put, List.setIfInBounds_toArray, List.set_cons_zero, List.set_cons_succ]
  refine q_take _ (by rfl) (fun x hx => run_load_in 22 (.tmp 2) rfl (B) rfl (byteCells (f) 32).toArray 32 (by rw [List.size_toArray, byteCells_length]) ((K1.out).below hx (K1.out).lt) rfl rfl (by kernel_rfl)) ?_
  try simp only [Act.put, List.setIfInBounds_toArray, List.set_cons_zero, List.set_cons_succ]
  refine q_take _ (by rfl) (by intro w _; go_simp; with_reducible rfl) ?_
  try simp only [Act.put, List.setIfInBounds_toArray, List.set_cons_zero, List.set_cons_succ]
  refine q_take _ (by rfl) (by intro w _; go_simp; with_reducible rfl) ?_
  try simp only [Act.put, List.setIfInBounds_toArray, List.set_cons_zero, List.set_cons_succ]
  rw [HM.out]
  refine q_call (B32 (byteAt v1)) 26 (#[B32 (f), .int .u32 m]) (by rfl) (by intro w; go_simp; try with_reducible rfl) (fun x hx => (c1.out x).mono fun e w' ⟨he, hb⟩ => ⟨he, below_trans hx hb⟩) ?_
  try simp only [Act.put, List.setIfInBounds_toArray, List.set_cons_zero, List.set_cons_succ]
  refine q_take _ (by rfl) (fun x hx => run_load_in 22 (.tmp 2) rfl (B) rfl (byteCells (f) 32).toArray 32 (by rw [List.size_toArray, byteCells_length]) ((K1.out).below hx (K1.out).lt) rfl rfl (by kernel_rfl)) ?_
  try simp only [Act.put, List.setIfInBounds_toArray, List.set_cons_zero, List.set_cons_succ]
  refine q_take _ (by rfl) (by intro w _; go_simp; with_reducible rfl) ?_
  try simp only [Act.put, List.setIfInBounds_toArray, List.set_cons_zero, List.set_cons_succ]
  refine q_call (B32 (byteAt v2)) 26 (#[B32 (f), .int .u32 n]) (by rfl) (by intro w; go_simp; try with_reducible rfl) (fun x hx => (c2.out x).mono fun e w' ⟨he, hb⟩ => ⟨he, below_trans hx hb⟩) ?_
  try simp only [Act.put, List.setIfInBounds_toArray, List.set_cons_zero, List.set_cons_succ]
  refine q_take _ (by rfl) (fun x hx => run_load_in 22 (.tmp 2) rfl (B) rfl (byteCells (f) 32).toArray 32 (by rw [List.size_toArray, byteCells_length]) ((K1.out).below hx (K1.out).lt) rfl rfl (by kernel_rfl)) ?_
  try simp only [Act.put, List.setIfInBounds_toArray, List.set_cons_zero, List.set_cons_succ]
  refine q_call (B32 (byteAt v3)) 17 (#[B32 (byteAt v2), B32 (f)]) (by rfl) (by intro w; go_simp; try with_reducible rfl) (fun x hx => (c3.out x).mono fun e w' ⟨he, hb⟩ => ⟨he, below_trans hx hb⟩) ?_
  try simp only [Act.put, List.setIfInBounds_toArray, List.set_cons_zero, List.set_cons_succ]
  refine q_take _ (by rfl) (by intro w _; go_simp; simp only [e_v1_v3.out, Result.andThen_ok]; with_reducible rfl) ?_
  try simp only [Act.put, List.setIfInBounds_toArray, List.set_cons_zero, List.set_cons_succ]
  refine q_take _ (by rfl) (by intro w _; go_simp; with_reducible rfl) ?_
  try simp only [Act.put, List.setIfInBounds_toArray, List.set_cons_zero, List.set_cons_succ]
  refine q_take _ (by rfl) (by intro w _; go_simp; with_reducible rfl) ?_
  try simp only [Act.put, List.setIfInBounds_toArray, List.set_cons_zero, List.set_cons_succ]
  refine q_take _ (by rfl) (fun x hx => run_load_in 22 (.tmp 2) rfl (B) rfl (byteCells (f) 32).toArray 32 (by rw [List.size_toArray, byteCells_length]) ((K1.out).below hx (K1.out).lt) rfl rfl (by kernel_rfl)) ?_
  try simp only [Act.put, List.setIfInBounds_toArray, List.set_cons_zero, List.set_cons_succ]
  refine q_call (B32 (byteAt v4)) 26 (#[B32 (f), .int .u32 0]) (by rfl) (by intro w; go_simp; try with_reducible rfl) (fun x hx => (c4.out x).mono fun e w' ⟨he, hb⟩ => ⟨he, below_trans hx hb⟩) ?_
  try simp only [Act.put, List.setIfInBounds_toArray, List.set_cons_zero, List.set_cons_succ]
  refine q_take (B32 (byteAt 0)) (by rfl) (fun w _ => run_built0 22 rfl (byteCells (byteAt 0) 32).toArray none_built) ?_
  try simp only [Act.put, List.setIfInBounds_toArray, List.set_cons_zero, List.set_cons_succ]
  refine q_take _ (by rfl) (by intro w _; go_simp; simp only [e_v4_k0.out, Result.andThen_ok]; with_reducible rfl) ?_
  try simp only [Act.put, List.setIfInBounds_toArray, List.set_cons_zero, List.set_cons_succ]
  refine q_take _ (by rfl) (by intro w _; go_simp; with_reducible rfl) ?_
  try simp only [Act.put, List.setIfInBounds_toArray, List.set_cons_zero, List.set_cons_succ]
  refine q_take _ (by rfl) (by intro w _; go_simp; with_reducible rfl) ?_
  try simp only [Act.put, List.setIfInBounds_toArray, List.set_cons_zero, List.set_cons_succ]
  refine q_take _ (by rfl) (fun x hx => run_load_in 22 (.tmp 5) rfl (G) rfl (byteCells (g) 32).toArray 32 (by rw [List.size_toArray, byteCells_length]) ((K2.out).below hx (K2.out).lt) rfl rfl (by kernel_rfl)) ?_
  try simp only [Act.put, List.setIfInBounds_toArray, List.set_cons_zero, List.set_cons_succ]
  refine q_call (B32 (byteAt a)) 19 (#[B32 (g)]) (by rfl) (by intro w; go_simp; try with_reducible rfl) (fun x hx => (c_r_g.out x).mono fun e w' ⟨he, hb⟩ => ⟨he, below_trans hx hb⟩) ?_
  try simp only [Act.put, List.setIfInBounds_toArray, List.set_cons_zero, List.set_cons_succ]
  refine q_take _ (by rfl) (fun x hx => run_load_in 22 (.tmp 2) rfl (B) rfl (byteCells (f) 32).toArray 32 (by rw [List.size_toArray, byteCells_length]) ((K1.out).below hx (K1.out).lt) rfl rfl (by kernel_rfl)) ?_
  try simp only [Act.put, List.setIfInBounds_toArray, List.set_cons_zero, List.set_cons_succ]
  refine q_call (B32 (byteAt a)) 19 (#[B32 (f)]) (by rfl) (by intro w; go_simp; try with_reducible rfl) (fun x hx => (c_r_f.out x).mono fun e w' ⟨he, hb⟩ => ⟨he, below_trans hx hb⟩) ?_
  try simp only [Act.put, List.setIfInBounds_toArray, List.set_cons_zero, List.set_cons_succ]
  refine q_take _ (by rfl) (by intro w _; go_simp; simp only [e_r_g_r_f.out, Result.andThen_ok]; with_reducible rfl) ?_
  try simp only [Act.put, List.setIfInBounds_toArray, List.set_cons_zero, List.set_cons_succ]
  refine q_take _ (by rfl) (by intro w _; go_simp; with_reducible rfl) ?_
  try simp only [Act.put, List.setIfInBounds_toArray, List.set_cons_zero, List.set_cons_succ]
  refine q_take _ (by rfl) (by intro w _; go_simp; with_reducible rfl) ?_
  try simp only [Act.put, List.setIfInBounds_toArray, List.set_cons_zero, List.set_cons_succ]
  refine q_take _ (by rfl) (fun x hx => run_load_in 22 (.tmp 5) rfl (G) rfl (byteCells (g) 32).toArray 32 (by rw [List.size_toArray, byteCells_length]) ((K2.out).below hx (K2.out).lt) rfl rfl (by kernel_rfl)) ?_
  try simp only [Act.put, List.setIfInBounds_toArray, List.set_cons_zero, List.set_cons_succ]
  refine q_take _ (by rfl) (fun x hx => run_load_in 22 (.tmp 5) rfl (G) rfl (byteCells (g) 32).toArray 32 (by rw [List.size_toArray, byteCells_length]) ((K2.out).below hx (K2.out).lt) rfl rfl (by kernel_rfl)) ?_
  try simp only [Act.put, List.setIfInBounds_toArray, List.set_cons_zero, List.set_cons_succ]
  refine q_call (B32 (byteAt v5)) 25 (#[B32 (g), B32 (g)]) (by rfl) (by intro w; go_simp; try with_reducible rfl) (fun x hx => (c5.out x).mono fun e w' ⟨he, hb⟩ => ⟨he, below_trans hx hb⟩) ?_
  try simp only [Act.put, List.setIfInBounds_toArray, List.set_cons_zero, List.set_cons_succ]
  refine q_take _ (by rfl) (fun x hx => run_load_in 22 (.tmp 2) rfl (B) rfl (byteCells (f) 32).toArray 32 (by rw [List.size_toArray, byteCells_length]) ((K1.out).below hx (K1.out).lt) rfl rfl (by kernel_rfl)) ?_
  try simp only [Act.put, List.setIfInBounds_toArray, List.set_cons_zero, List.set_cons_succ]
  refine q_take _ (by rfl) (fun x hx => run_load_in 22 (.tmp 2) rfl (B) rfl (byteCells (f) 32).toArray 32 (by rw [List.size_toArray, byteCells_length]) ((K1.out).below hx (K1.out).lt) rfl rfl (by kernel_rfl)) ?_
  try simp only [Act.put, List.setIfInBounds_toArray, List.set_cons_zero, List.set_cons_succ]
  refine q_call (B32 (byteAt v6)) 25 (#[B32 (f), B32 (f)]) (by rfl) (by intro w; go_simp; try with_reducible rfl) (fun x hx => (c6.out x).mono fun e w' ⟨he, hb⟩ => ⟨he, below_trans hx hb⟩) ?_
  try simp only [Act.put, List.setIfInBounds_toArray, List.set_cons_zero, List.set_cons_succ]
  refine q_take _ (by rfl) (by intro w _; go_simp; simp only [e_v5_v6.out, Result.andThen_ok]; with_reducible rfl) ?_
  try simp only [Act.put, List.setIfInBounds_toArray, List.set_cons_zero, List.set_cons_succ]
  refine q_take _ (by rfl) (by intro w _; go_simp; with_reducible rfl) ?_
  try simp only [Act.put, List.setIfInBounds_toArray, List.set_cons_zero, List.set_cons_succ]
  refine q_take _ (by rfl) (by intro w _; go_simp; with_reducible rfl) ?_
  try simp only [Act.put, List.setIfInBounds_toArray, List.set_cons_zero, List.set_cons_succ]
  refine wpQuiet_nil ?_
  intro w' hw'
  go_wp2_with fail
  go_ret
  exact ⟨rfl, by rw [hB]; exact KB.out.trans (hw'.mono (by omega))⟩


theorem walk (f : Nat → Nat) (n : Int) (w : World) (hf : ∀ i, f i < 256) (hn : (Lit.int .u32 n).wf = true) :
    Calls Try.prog 10 #[.agg (byteCells f 32).toArray, .int .u32 n] w fun e w' => e = .returned (.bool true) ∧ Below w.heap.size w w' := by
  obtain ⟨v, rfl, hv⟩ := nat_u32 hn
  by_cases h : v = 4294967295
  · exact top f v w hf h
  · exact low f v w hf (by omega)

end FieldSmall
end Go.Proofs.Ytopocmibhffjfaa
