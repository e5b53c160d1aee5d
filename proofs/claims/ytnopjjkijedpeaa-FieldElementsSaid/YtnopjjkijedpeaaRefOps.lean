/- The document's own answers of layer 5 (package aditref05): Take, Small, Add, Sub. -/
import Derived.Test.YtnopjjkijedpeaaRefCarry
import Derived.StillTailTactics
namespace Go.Proofs.Ytnopjjkijedpeaa
namespace RefF
open Go.ChangeShapes Go.WideShapes Go.ChangeAt Go.RowKit
open Num Mem Words Radix FieldN Chacha Quiet

/-- a number below 2^256: its sixteen limbs -/
def nv (v : Nat) : Value := .agg (icells (dg 65536 v) 16).toArray
theorem lim_lt (v i : Nat) : dg 65536 v i < 65536 := dg_lt (by omega) v i
theorem rv_lim (v : Nat) (h : v < M256) : rv 65536 (dg 65536 v) 16 = v := by rw [rv_dg, M_pow, Nat.mod_eq_of_lt h]

/-- what comes of a number, back below 2^256 -/
def cc2 (v : Nat) : Nat := cv (cv v)
theorem cc2_mod (v : Nat) : cc2 v % P = v % P := by rw [cc2, cv_mod, cv_mod]
theorem ops_alloc {W X : World} {B : Nat} {o : Obj} (h : Below B W X ∧ B ≤ X.heap.size) : Below B W (X.alloc o) ∧ B ≤ (X.alloc o).heap.size := ⟨h.1.alloc h.2 o, by simp; omega⟩

theorem four_prime : rv 65536 (fun _ => 131070) 16 = 4 * P + 74 := by unfold P; decide
theorem rv_first16 (a : Nat → Nat) (x : Nat) : rv 65536 (fun i => if i = 0 then a 0 + x else a i) 16 = rv 65536 a 16 + x := by
  have h : ∀ k, rv 65536 (fun i => if i = 0 then a 0 + x else a i) (k + 1) = rv 65536 a (k + 1) + x := by
    intro k
    induction k with
    | zero => simp [rv]
    | succ k ih =>
      rw [show k + 1 + 1 = (k + 1) + 1 from rfl, rv, ih, show rv 65536 a (k + 1 + 1) = rv 65536 a (k + 1) + a (k + 1) * 65536 ^ (k + 1) from rfl, if_neg (by omega)]
      omega
  exact h 15

set_option maxRecDepth 100000 in
theorem add_any (a b : Nat) (ha : a < M256) (hb : b < M256) (w : World) :
    Calls Try.prog 16 #[nv a, nv b] w fun e w' => e = .returned (nv (cc2 (a + b))) ∧ Below w.heap.size w w' := by
  obtain ⟨x, hx⟩ : ∃ x, x = dg 65536 a := ⟨_, rfl⟩
  obtain ⟨y, hy⟩ : ∃ y, y = dg 65536 b := ⟨_, rfl⟩
  obtain ⟨z, hz⟩ : ∃ z, z = fun i => x i + y i := ⟨_, rfl⟩
  have HX := Lib.hid (show ∀ i, x i < 65536 from fun i => by rw [hx]; exact lim_lt a i)
  have HY := Lib.hid (show ∀ i, y i < 65536 from fun i => by rw [hy]; exact lim_lt b i)
  have HZ := Lib.hid (show ∀ i, z i = x i + y i from fun i => by rw [hz])
  have HZL := Lib.hid (show ∀ i, i < 16 → z i < 70368744177664 from fun i _ => by rw [HZ.out]; have := HX.out i; have := HY.out i; omega)
  have HVAL := Lib.hid (show rv 65536 z 16 = a + b by rw [hz, rv_add, hx, hy, rv_lim a ha, rv_lim b hb])
  rw [nv, nv, ← hx, ← hy, icells_lit16 x, icells_lit16 y]
  clear hx hy hz ha hb
  go_enter Try.func16, Try.ntmps16
  go_upto_region 1 with fail
  rw [← icells_lit16 x, ← icells_lit16 y]
  refine cut_world (fun W => Whole W w.heap.size 24 (icells x 16).toArray ∧ Whole W (w.heap.size + 1) 24 (icells y 16).toArray ∧ Whole W (w.heap.size + 1 + 1) 24 (icells (fun _ => 0) 16).toArray ∧ Below w.heap.size w W) ⟨?_, ?_, ?_, ?_⟩ ?_
  · exact ((whole_new _ _ rfl).alloc _).alloc _
  · exact (whole_new _ _ (by simp)).alloc _
  · rw [icells_lit16 fun _ => 0]
    exact whole_new _ _ (by simp)
  · exact below_alloc (below_alloc (below_alloc (Below.refl _ _) _) _) _
  rintro W ⟨k1, k2, k3, kb⟩
  have K1 := Lib.hid k1
  have K2 := Lib.hid k2
  have K3 := Lib.hid k3
  have KB := Lib.hid kb
  have hb3 := k3.lt
  clear k1 k2 k3 kb
  generalize hB : w.heap.size = B at K1 K2 K3 KB hb3 ⊢
  go_wp2_with fail
  go_loopw [5, 6] (fun o i wr => ∃ (k : Nat) (A : Option Addr) (c : Nat), k ≤ 16 ∧ i = .int .i64 k ∧ o = .slice A k c ∧ OwnI wr (B + 1 + 1 + 1) A k c z ∧ Below (B + 1 + 1 + 1) W wr ∧ B + 1 + 1 + 1 ≤ wr.heap.size) (fun _ i _ => 16 - (intOf i).toNat)
  case atStart => exact ⟨0, none, 0, by omega, rfl, rfl, OwnI.nil _ _ _, Below.refl _ _, hb3⟩
  case round =>
    obtain ⟨k, A, c, hk, rfl, rfl, ho, hbl, hsz⟩ := hrel
    have HO := Lib.hid ho
    have HL := Lib.hid hbl
    clear ho hbl
    by_cases hlt : k < 16
    · have i1 : (k : Int) < 16 := by omega
      have x1 := HX.out k
      have y1 := HY.out k
      have HS := Lib.hid (show IntKind.i64.wrap ((x k : Nat) + (y k : Nat) : Int) = (z k : Int) by rw [IntKind.wrap_i64, HZ.out]; omega)
      go_wp2_with fail
      refine region_drew (fun X => Below (B + 1 + 1 + 1) W X ∧ B + 1 + 1 + 1 ≤ X.heap.size) rfl ⟨below_drewN HL.out 1, hsz⟩ ?_
      intro hS
      refine take 0 _ rfl (by kernel_rfl) (by kernel_rfl) (by kernel_rfl) (fun _ _ _ h => h) (by rfl) hS (by intro w _; go_simp; with_reducible rfl) ?_
      try simp only [Act.put, List.setIfInBounds_toArray, List.set_cons_zero, List.set_cons_succ]
      refine take 1 _ rfl (by kernel_rfl) (by kernel_rfl) (by kernel_rfl) (fun _ _ _ h => h) (by rfl) hS (by intro w _; go_simp; with_reducible rfl) ?_
      try simp only [Act.put, List.setIfInBounds_toArray, List.set_cons_zero, List.set_cons_succ]
      refine take 2 _ rfl (by kernel_rfl) (by kernel_rfl) (by kernel_rfl) (fun _ _ _ h => h) (by rfl) hS (by intro w _; go_simp; with_reducible rfl) ?_
      try simp only [Act.put, List.setIfInBounds_toArray, List.set_cons_zero, List.set_cons_succ]
      refine take 3 _ rfl (by kernel_rfl) (by kernel_rfl) (by kernel_rfl) (fun _ _ _ h => h) (by rfl) hS (by intro w hw; have hcl := (K1.out.below hw.1 (by omega)).inum k hlt; go_simp; with_reducible rfl) ?_
      try simp only [Act.put, List.setIfInBounds_toArray, List.set_cons_zero, List.set_cons_succ]
      refine take 4 _ rfl (by kernel_rfl) (by kernel_rfl) (by kernel_rfl) (fun _ _ _ h => h) (by rfl) hS (by intro w _; go_simp; with_reducible rfl) ?_
      try simp only [Act.put, List.setIfInBounds_toArray, List.set_cons_zero, List.set_cons_succ]
      refine take 5 _ rfl (by kernel_rfl) (by kernel_rfl) (by kernel_rfl) (fun _ _ _ h => h) (by rfl) hS (by intro w _; go_simp; with_reducible rfl) ?_
      try simp only [Act.put, List.setIfInBounds_toArray, List.set_cons_zero, List.set_cons_succ]
      refine take 6 _ rfl (by kernel_rfl) (by kernel_rfl) (by kernel_rfl) (fun _ _ _ h => h) (by rfl) hS (by intro w hw; have hcl := (K2.out.below hw.1 (by omega)).inum k hlt; go_simp; with_reducible rfl) ?_
      try simp only [Act.put, List.setIfInBounds_toArray, List.set_cons_zero, List.set_cons_succ]
      refine take 7 _ rfl (by kernel_rfl) (by kernel_rfl) (by kernel_rfl) (fun _ _ _ h => h) (by rfl) hS (by intro w _; go_simp; with_reducible rfl) ?_
      try simp only [Act.put, List.setIfInBounds_toArray, List.set_cons_zero, List.set_cons_succ]
      rw [HS.out]
      refine alone 8 rfl (by kernel_rfl) (by rfl) ?_
      intro K hK
      go_simp
      have hS1 := ops_alloc (o := .cells #[.int .i64 (z k : Nat)] 2) hS
      refine hK.out _ _ hS1 ?_
      clear hK K
      try simp only [Act.put, List.setIfInBounds_toArray, List.set_cons_zero, List.set_cons_succ]
      clear hS1
      refine alone 9 rfl (by kernel_rfl) (by rfl) ?_
      intro K hK
      refine wp_pushI (W := W) _ _ rfl rfl rfl HO.out.drew hS.1 hS.2 rfl (by omega) ?_
      intro A2 c2' w1 hown1 hbel1 hsz1 _
      have HO1 := Lib.hid hown1
      have hS1 : Below (B + 1 + 1 + 1) W w1 ∧ B + 1 + 1 + 1 ≤ w1.heap.size := ⟨hbel1, hsz1⟩
      clear hown1 hbel1 hsz1 hS
      refine hK.out _ _ hS1 ?_
      clear hK K
      have hS := hS1
      clear hS1
      try simp only [Act.put, List.setIfInBounds_toArray, List.set_cons_zero, List.set_cons_succ]
      refine take 10 _ rfl (by kernel_rfl) (by kernel_rfl) (by kernel_rfl) (fun _ _ _ h => h) (by rfl) hS (by intro w _; go_simp; with_reducible rfl) ?_
      try simp only [Act.put, List.setIfInBounds_toArray, List.set_cons_zero, List.set_cons_succ]
      refine region_end (by kernel_rfl) ?_
      have HS1 := Lib.hid hS
      clear hS
      go_wp2_with fail
      go_roundw
      case rel => exact ⟨k + 1, A2, c2', by omega, by go_num, rfl, HO1.out, HS1.out.1, HS1.out.2⟩
      case measure => simp [intOf]; omega
    · obtain rfl : k = 16 := by omega
      obtain ⟨g, rfl, hg1, hg2⟩ := HO.out.at (by omega)
      go_wp2_with fail
      refine (carry_any (B + 1 + 1 + 1) g c z HZL.out _ HO.out hg1).mono ?_
      rintro e w1 ⟨rfl, hb1⟩
      have R3 := Lib.hid ((K3.out.below HL.out (by omega)).below hb1 (by omega))
      have RB := Lib.hid (KB.out.trans ((HL.out.trans hb1).mono (by omega)))
      clear hb1
      rw [HVAL.out]
      generalize hL : dg 65536 (cv (cv (a + b))) = L
      have HLL := Lib.hid hL
      clear hL
      go_wp2_with (refine wpList_store_row rfl 24 (.tmp 4) (.tmp 22) rfl (B + 1 + 1) (icells L 16).toArray rfl rfl 24 _ R3.out (by rw [icells_size]; kernel_rfl) (by rw [icells_size, icells_size]) (icells_one _ _) ?_)
      have hret : Whole (w1.setRow (B + 1 + 1) (icells L 16).toArray) (B + 1 + 1) 24 (icells L 16).toArray := setRow_heap _ _ _ _ _ _ R3.out
      refine bodyPost_ret (results_cell_row rfl _ _ (B + 1 + 1) 24 _ (0, 0) _ rfl hret rfl rfl (by rw [icells_size]; kernel_rfl)) rfl ?_
      exact ⟨by rw [nv, cc2, HLL.out], by rw [hB]; exact below_setRow RB.out (by omega) _⟩


set_option maxRecDepth 100000 in
theorem sub_any (a b : Nat) (ha : a < M256) (hb : b < M256) (w : World) :
    Calls Try.prog 17 #[nv a, nv b] w fun e w' => e = .returned (nv (cc2 (a + 4 * P - b))) ∧ Below w.heap.size w w' := by
  obtain ⟨x, hx⟩ : ∃ x, x = dg 65536 a := ⟨_, rfl⟩
  obtain ⟨y, hy⟩ : ∃ y, y = dg 65536 b := ⟨_, rfl⟩
  obtain ⟨z, hz⟩ : ∃ z, z = fun i => x i + 131070 - y i := ⟨_, rfl⟩
  have HX := Lib.hid (show ∀ i, x i < 65536 from fun i => by rw [hx]; exact lim_lt a i)
  have HY := Lib.hid (show ∀ i, y i < 65536 from fun i => by rw [hy]; exact lim_lt b i)
  have HZ := Lib.hid (show ∀ i, z i = x i + 131070 - y i from fun i => by rw [hz])
  have HZL0 := Lib.hid (show ∀ i, i < 16 → z i < 200000 ∧ 65535 ≤ z i from fun i _ => by rw [HZ.out]; have := HX.out i; have := HY.out i; omega)
  obtain ⟨u, hu⟩ : ∃ u : Nat → Nat, u = fun i => if i = 0 then z 0 - 74 else z i := ⟨_, rfl⟩
  have HUD := Lib.hid hu
  have HZL := Lib.hid (show ∀ i, i < 16 → u i < 70368744177664 from fun i hi => by
    have h1 := HZL0.out i hi
    have h2 := HZL0.out 0 (by omega)
    rw [hu]
    show (if i = 0 then z 0 - 74 else z i) < _
    split <;> omega)
  have HVAL := Lib.hid (show rv 65536 u 16 = a + 4 * P - b by
    have h1 : rv 65536 (fun i => z i + y i) 16 = rv 65536 (fun i => x i + 131070) 16 := rv_congr 16 fun i _ => by
      rw [HZ.out]
      have := HY.out i
      omega
    rw [rv_add, rv_add, hx, hy, rv_lim a ha, rv_lim b hb, four_prime] at h1
    have h2 : rv 65536 (fun i => if i = 0 then u 0 + 74 else u i) 16 = rv 65536 z 16 := rv_congr 16 fun i _ => by
      rw [hu]
      have := HZL0.out 0 (by omega)
      show (if i = 0 then (if 0 = 0 then z 0 - 74 else z 0) + 74 else if i = 0 then z 0 - 74 else z i) = z i
      by_cases e : i = 0
      · subst e
        rw [if_pos rfl, if_pos rfl]
        omega
      · rw [if_neg e, if_neg e]
    rw [rv_first16] at h2
    omega)
  clear hu
  rw [nv, nv, ← hx, ← hy, icells_lit16 x, icells_lit16 y]
  clear hx hy hz ha hb
  go_enter Try.func17, Try.ntmps17
  go_upto_region 1 with fail
  rw [← icells_lit16 x, ← icells_lit16 y]
  refine cut_world (fun W => Whole W w.heap.size 24 (icells x 16).toArray ∧ Whole W (w.heap.size + 1) 24 (icells y 16).toArray ∧ Whole W (w.heap.size + 1 + 1) 24 (icells (fun _ => 0) 16).toArray ∧ Below w.heap.size w W) ⟨?_, ?_, ?_, ?_⟩ ?_
  · exact ((whole_new _ _ rfl).alloc _).alloc _
  · exact (whole_new _ _ (by simp)).alloc _
  · rw [icells_lit16 fun _ => 0]
    exact whole_new _ _ (by simp)
  · exact below_alloc (below_alloc (below_alloc (Below.refl _ _) _) _) _
  rintro W ⟨k1, k2, k3, kb⟩
  have K1 := Lib.hid k1
  have K2 := Lib.hid k2
  have K3 := Lib.hid k3
  have KB := Lib.hid kb
  have hb3 := k3.lt
  clear k1 k2 k3 kb
  generalize hB : w.heap.size = B at K1 K2 K3 KB hb3 ⊢
  go_wp2_with fail
  go_loopw [5, 6] (fun o i wr => ∃ (k : Nat) (A : Option Addr) (c : Nat), k ≤ 16 ∧ i = .int .i64 k ∧ o = .slice A k c ∧ OwnI wr (B + 1 + 1 + 1) A k c z ∧ Below (B + 1 + 1 + 1) W wr ∧ B + 1 + 1 + 1 ≤ wr.heap.size) (fun _ i _ => 16 - (intOf i).toNat)
  case atStart => exact ⟨0, none, 0, by omega, rfl, rfl, OwnI.nil _ _ _, Below.refl _ _, hb3⟩
  case round =>
    obtain ⟨k, A, c, hk, rfl, rfl, ho, hbl, hsz⟩ := hrel
    have HO := Lib.hid ho
    have HL := Lib.hid hbl
    clear ho hbl
    by_cases hlt : k < 16
    · have i1 : (k : Int) < 16 := by omega
      have x1 := HX.out k
      have y1 := HY.out k
      have HS0 := Lib.hid (show IntKind.i64.wrap (IntKind.i64.wrap ((x k : Int) - (y k : Int)) + 131070) = (z k : Int) by rw [IntKind.wrap_i64, IntKind.wrap_i64, HZ.out]; omega)
      go_wp2_with fail
      refine region_drew (fun X => Below (B + 1 + 1 + 1) W X ∧ B + 1 + 1 + 1 ≤ X.heap.size) rfl ⟨below_drewN HL.out 1, hsz⟩ ?_
      intro hS
      refine take 0 _ rfl (by kernel_rfl) (by kernel_rfl) (by kernel_rfl) (fun _ _ _ h => h) (by rfl) hS (by intro w _; go_simp; with_reducible rfl) ?_
      try simp only [Act.put, List.setIfInBounds_toArray, List.set_cons_zero, List.set_cons_succ]
      refine take 1 _ rfl (by kernel_rfl) (by kernel_rfl) (by kernel_rfl) (fun _ _ _ h => h) (by rfl) hS (by intro w _; go_simp; with_reducible rfl) ?_
      try simp only [Act.put, List.setIfInBounds_toArray, List.set_cons_zero, List.set_cons_succ]
      refine take 2 _ rfl (by kernel_rfl) (by kernel_rfl) (by kernel_rfl) (fun _ _ _ h => h) (by rfl) hS (by intro w _; go_simp; with_reducible rfl) ?_
      try simp only [Act.put, List.setIfInBounds_toArray, List.set_cons_zero, List.set_cons_succ]
      refine take 3 _ rfl (by kernel_rfl) (by kernel_rfl) (by kernel_rfl) (fun _ _ _ h => h) (by rfl) hS (by intro w hw; have hcl := (K1.out.below hw.1 (by omega)).inum k hlt; go_simp; with_reducible rfl) ?_
      try simp only [Act.put, List.setIfInBounds_toArray, List.set_cons_zero, List.set_cons_succ]
      refine take 4 _ rfl (by kernel_rfl) (by kernel_rfl) (by kernel_rfl) (fun _ _ _ h => h) (by rfl) hS (by intro w _; go_simp; with_reducible rfl) ?_
      try simp only [Act.put, List.setIfInBounds_toArray, List.set_cons_zero, List.set_cons_succ]
      refine take 5 _ rfl (by kernel_rfl) (by kernel_rfl) (by kernel_rfl) (fun _ _ _ h => h) (by rfl) hS (by intro w _; go_simp; with_reducible rfl) ?_
      try simp only [Act.put, List.setIfInBounds_toArray, List.set_cons_zero, List.set_cons_succ]
      refine take 6 _ rfl (by kernel_rfl) (by kernel_rfl) (by kernel_rfl) (fun _ _ _ h => h) (by rfl) hS (by intro w hw; have hcl := (K2.out.below hw.1 (by omega)).inum k hlt; go_simp; with_reducible rfl) ?_
      try simp only [Act.put, List.setIfInBounds_toArray, List.set_cons_zero, List.set_cons_succ]
      refine take 7 _ rfl (by kernel_rfl) (by kernel_rfl) (by kernel_rfl) (fun _ _ _ h => h) (by rfl) hS (by intro w _; go_simp; with_reducible rfl) ?_
      try simp only [Act.put, List.setIfInBounds_toArray, List.set_cons_zero, List.set_cons_succ]
      refine take 8 _ rfl (by kernel_rfl) (by kernel_rfl) (by kernel_rfl) (fun _ _ _ h => h) (by rfl) hS (by intro w _; go_simp; with_reducible rfl) ?_
      try simp only [Act.put, List.setIfInBounds_toArray, List.set_cons_zero, List.set_cons_succ]
      rw [HS0.out]
      refine alone 9 rfl (by kernel_rfl) (by rfl) ?_
      intro K hK
      go_simp
      have hS1 := ops_alloc (o := .cells #[.int .i64 (z k : Nat)] 2) hS
      refine hK.out _ _ hS1 ?_
      clear hK K
      try simp only [Act.put, List.setIfInBounds_toArray, List.set_cons_zero, List.set_cons_succ]
      clear hS1
      refine alone 10 rfl (by kernel_rfl) (by rfl) ?_
      intro K hK
      refine wp_pushI (W := W) _ _ rfl rfl rfl HO.out.drew hS.1 hS.2 rfl (by omega) ?_
      intro A2 c2' w1 hown1 hbel1 hsz1 _
      have HO1 := Lib.hid hown1
      have hS1 : Below (B + 1 + 1 + 1) W w1 ∧ B + 1 + 1 + 1 ≤ w1.heap.size := ⟨hbel1, hsz1⟩
      clear hown1 hbel1 hsz1 hS
      refine hK.out _ _ hS1 ?_
      clear hK K
      have hS := hS1
      clear hS1
      try simp only [Act.put, List.setIfInBounds_toArray, List.set_cons_zero, List.set_cons_succ]
      refine take 11 _ rfl (by kernel_rfl) (by kernel_rfl) (by kernel_rfl) (fun _ _ _ h => h) (by rfl) hS (by intro w _; go_simp; with_reducible rfl) ?_
      try simp only [Act.put, List.setIfInBounds_toArray, List.set_cons_zero, List.set_cons_succ]
      refine region_end (by kernel_rfl) ?_
      have HS1 := Lib.hid hS
      clear hS
      go_wp2_with fail
      go_roundw
      case rel => exact ⟨k + 1, A2, c2', by omega, by go_num, rfl, HO1.out, HS1.out.1, HS1.out.2⟩
      case measure => simp [intOf]; omega
    · obtain rfl : k = 16 := by omega
      obtain ⟨g, rfl, hg1, hg2⟩ := HO.out.at (by omega)
      have c1 := HO.out.num 0 (by omega)
      have f1 := HO.out.free 0
      have z0 := HZL0.out 0 (by omega)
      have HS := Lib.hid (show ((z 0 : Nat) : Int) - 74 = ((z 0 - 74 : Nat) : Int) by omega)
      have hput := HO.out.put 0 (z 0 - 74)
      rw [← HUD.out] at hput
      have HP := Lib.hid hput
      have HL2 := Lib.hid (HL.out.setCell (p := ⟨g, 0, none⟩) hg1 (.int .i64 ((z 0 - 74 : Nat) : Int)))
      clear hput
      go_upto_region 7 with fail
      rw [HS.out]
      refine cut_world (fun X => OwnI X (B + 1 + 1 + 1) (some ⟨g, 0, none⟩) 16 c u ∧ Below (B + 1 + 1 + 1) W X) ⟨HP.out, HL2.out⟩ ?_
      rintro X ⟨r1, r2⟩
      have R1 := Lib.hid r1
      have R2 := Lib.hid r2
      clear r1 r2 c1 f1
      go_wp2_with fail
      refine (carry_any (B + 1 + 1 + 1) g c u HZL.out _ R1.out hg1).mono ?_
      rintro e w1 ⟨rfl, hb1⟩
      have R3 := Lib.hid ((K3.out.below R2.out (by omega)).below hb1 (by omega))
      have RB := Lib.hid (KB.out.trans ((R2.out.trans hb1).mono (by omega)))
      clear hb1
      rw [HVAL.out]
      generalize hL : dg 65536 (cv (cv (a + 4 * P - b))) = L
      have HLL := Lib.hid hL
      clear hL
      go_wp2_with (refine wpList_store_row rfl 24 (.tmp 4) (.tmp 29) rfl (B + 1 + 1) (icells L 16).toArray rfl rfl 24 _ R3.out (by rw [icells_size]; kernel_rfl) (by rw [icells_size, icells_size]) (icells_one _ _) ?_)
      have hret : Whole (w1.setRow (B + 1 + 1) (icells L 16).toArray) (B + 1 + 1) 24 (icells L 16).toArray := setRow_heap _ _ _ _ _ _ R3.out
      refine bodyPost_ret (results_cell_row rfl _ _ (B + 1 + 1) 24 _ (0, 0) _ rfl hret rfl rfl (by rw [icells_size]; kernel_rfl)) rfl ?_
      exact ⟨by rw [nv, cc2, HLL.out], by rw [hB]; exact below_setRow RB.out (by omega) _⟩


end RefF
end Go.Proofs.Ytnopjjkijedpeaa
