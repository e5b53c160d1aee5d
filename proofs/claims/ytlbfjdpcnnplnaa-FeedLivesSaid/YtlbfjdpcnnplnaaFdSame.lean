/- FeedLives: the document's Same. -/
import Derived.Test.YtlbfjdpcnnplnaaFdLaw
namespace Go.Proofs.Ytlbfjdpcnnplnaa
namespace Fee
open Go.ChangeShapes Go.WideShapes Go.ChangeAt Go.RowKit Go.Maps
open Num Mem Words Chacha Aead Poly Quiet RowV RowS EqLits
set_option maxRecDepth 100000 in
theorem lits_rev (x : Ev) (hx : OkEv x) (d : Nat) : (Try.prog.keyLits (d + 3) 78 (evL x)).isSome = true := by
  refine lits_struct Try.underlying78 (d + 2) _ (by rw [evL_length]; kernel_rfl) (by kernel_rfl) fun f hf => ?_
  simp only [List.mem_cons, List.not_mem_nil, or_false] at hf
  rcases hf with rfl | rfl | rfl
  · show (Try.prog.keyLits (d + 2) 3 (((evL x).drop 0).take 1)).isSome = true
    exact lits_i Try.underlying3 (d + 1) _ hx.k
  · show (Try.prog.keyLits (d + 2) 43 (((evL x).drop 1).take 32)).isSome = true
    rw [show ((evL x).drop 1).take 32 = byteCells x.f 32 from mid_at (a := [.int .i64 x.k]) rfl (byteCells_length _ _)]
    exact lits_key _ hx.f d
  · show (Try.prog.keyLits (d + 2) 23 (((evL x).drop 33).take 1)).isSome = true
    rw [show ((evL x).drop 33).take 1 = [.int .u64 (x.v : Nat)] from by
      rw [show evL x = (.int .i64 x.k :: byteCells x.f 32) ++ ([.int .u64 (x.v : Nat)] ++ []) by simp [evL]]
      exact mid_at (by simp [byteCells_length]) rfl]
    exact lits_i Try.underlying23 (d + 1) _ (okU_of hx.v)
set_option maxRecDepth 100000 in
theorem lits_rit (x : It) (hx : OkIt x) (d : Nat) : (Try.prog.keyLits (d + 4) 81 (itL x)).isSome = true := by
  refine lits_struct Try.underlying81 (d + 3) _ (by rw [itL_length]; kernel_rfl) (by kernel_rfl) fun f hf => ?_
  simp only [List.mem_cons, List.not_mem_nil, or_false] at hf
  rcases hf with rfl | rfl
  · show (Try.prog.keyLits (d + 3) 78 (((itL x).drop 0).take 34)).isSome = true
    rw [show ((itL x).drop 0).take 34 = evL x.e from mid_at (a := []) (c := [.int .u64 (x.lost : Nat)]) rfl (evL_length x.e)]
    exact lits_rev _ hx.1 d
  · show (Try.prog.keyLits (d + 3) 23 (((itL x).drop 34).take 1)).isSome = true
    rw [show ((itL x).drop 34).take 1 = [.int .u64 (x.lost : Nat)] from by
      rw [show itL x = evL x.e ++ ([.int .u64 (x.lost : Nat)] ++ []) by simp [itL]]
      exact mid_at (evL_length x.e) rfl]
    exact lits_i Try.underlying23 (d + 2) _ (okU_of hx.2)
theorem formed_rit (x : It) : (Value.agg (itL x).toArray).formed Try.prog 81 = true := by kernel_rfl
theorem eq_rit (x : It) (hx : OkIt x) (w : World) : (Op.equalIn 10000 81 (.agg (itL x).toArray) (.agg (itL x).toArray)).run Try.prog w = .ok true w :=
  eq_of_lits (m := 5) (D := 4) (by kernel_rfl) (by omega) (formed_rit x) (lits_rit x hx 0) w
theorem OwI.range {w : World} {B c : Nat} {A : Option Addr} {L : List It} (h : OwI w B A c L) : ∀ i x, L[i]? = some x → ∃ b off, A = some ⟨b, off, none⟩ ∧ b < w.heap.size ∧ w.rangeAt b (off + i * 35) (itL x) := by
  intro i x hx
  have hk : i < L.length := (List.getElem?_eq_some_iff.1 hx).1
  obtain ⟨g, e, _, hl, hc⟩ := own_cells h (by omega)
  refine ⟨g, 0, e, hl, fun j v hj => ?_⟩
  have hj3 : j < 35 := by rw [← itL_length x]; exact (List.getElem?_eq_some_iff.1 hj).1
  rw [Nat.zero_add]
  exact (hc (i * 35 + j) v (by rw [flatI_get L i j x hx hj3]; exact hj)).1
set_option maxRecDepth 100000 in
theorem rsame_any (L : List It) (A C : Option Addr) (c1 c2 B1 B2 : Nat) (w : World) (h1 : OwI w B1 A c1 L) (h2 : OwI w B2 C c2 L) (hok : ∀ y ∈ L, OkIt y) (hl : L.length ≤ 1000) : Calls Try.prog 19 #[.slice A L.length c1, .slice C L.length c2] w fun e w' => e = .returned (.bool true) ∧ Below w.heap.size w w' := by
  have hA := h1.range
  have hC := h2.range
  have HA := Lib.hid hA
  have HC := Lib.hid hC
  have HOK := Lib.hid hok
  obtain ⟨n, hn⟩ : ∃ n, L.length = n := ⟨_, rfl⟩
  have HN := Lib.hid hn
  rw [hn] at hl ⊢
  clear h1 h2 hA hC hok hn
  go_enter Try.func19, Try.ntmps19
  go_wp2_with fail
  go_loopw [5] (fun i X => ∃ k : Nat, k ≤ n ∧ i = .int .i64 k ∧ Below w.heap.size w X) (fun i _ => n - (intOf i).toNat)
  case atStart => exact ⟨0, Nat.zero_le _, rfl, Below.refl _ _⟩
  case round =>
    obtain ⟨k, hk, rfl, hb⟩ := hrel
    have HB := Lib.hid hb
    clear hb
    by_cases hlt : k < n
    · obtain ⟨y, hy⟩ : ∃ y, L[k]? = some y := ⟨_, List.getElem?_eq_getElem (by rw [HN.out]; exact hlt)⟩
      obtain ⟨b, off, rfl, hbl, hr1⟩ := HA.out k y hy
      obtain ⟨b2, off2, rfl, hbl2, hr2⟩ := HC.out k y hy
      have HR1 := Lib.hid hr1
      have HR2 := Lib.hid hr2
      have HEQ := Lib.hid (eq_rit y (HOK.out y (List.mem_of_getElem? hy)))
      have hlt' : (k : Int) < (n : Int) := by omega
      obtain ⟨Y, hY⟩ : ∃ Y, itL y = Y := ⟨_, rfl⟩
      have HYL := Lib.hid (show Y.length = 35 by rw [← hY, itL_length])
      rw [hY] at HR1 HR2 HEQ
      clear hr1 hr2 hy hY
      go_upto_region 6 with fail
      refine region_class (C := fun X => Below w.heap.size w X) (by kernel_rfl) (by kernel_rfl) HB.out.drew ?_
      refine Ops.wq_in ?_
      refine Ops.wq_take _ (by rfl) (fun X hx => by go_simp; try with_reducible rfl) ?_
      try simp only [Act.put, List.setIfInBounds_toArray, List.set_cons_zero, List.set_cons_succ]
      refine Ops.wq_take _ (by rfl) (fun X hx => by go_simp; try with_reducible rfl) ?_
      try simp only [Act.put, List.setIfInBounds_toArray, List.set_cons_zero, List.set_cons_succ]
      refine Ops.wq_take _ (by rfl) (fun X hx => by go_simp; try with_reducible rfl) ?_
      try simp only [Act.put, List.setIfInBounds_toArray, List.set_cons_zero, List.set_cons_succ]
      refine Ops.wq_take (.agg Y.toArray) (by rfl) (fun X hx => run_load_mid_op 81 (.tmp 19) rfl b (off + k * 35) rfl Y _ (range_below HR1.out hx hbl) rfl rfl (by rw [HYL.out]; kernel_rfl)) ?_
      try simp only [Act.put, List.setIfInBounds_toArray, List.set_cons_zero, List.set_cons_succ]
      refine Ops.wq_take _ (by rfl) (fun X hx => by go_simp; try with_reducible rfl) ?_
      try simp only [Act.put, List.setIfInBounds_toArray, List.set_cons_zero, List.set_cons_succ]
      refine Ops.wq_take _ (by rfl) (fun X hx => by go_simp; try with_reducible rfl) ?_
      try simp only [Act.put, List.setIfInBounds_toArray, List.set_cons_zero, List.set_cons_succ]
      refine Ops.wq_take _ (by rfl) (fun X hx => by go_simp; try with_reducible rfl) ?_
      try simp only [Act.put, List.setIfInBounds_toArray, List.set_cons_zero, List.set_cons_succ]
      refine Ops.wq_take (.agg Y.toArray) (by rfl) (fun X hx => run_load_mid_op 81 (.tmp 23) rfl b2 (off2 + k * 35) rfl Y _ (range_below HR2.out hx hbl2) rfl rfl (by rw [HYL.out]; kernel_rfl)) ?_
      try simp only [Act.put, List.setIfInBounds_toArray, List.set_cons_zero, List.set_cons_succ]
      refine Ops.wq_take (.bool false) (by rfl) (fun X hx => Ops.run_neq_op 81 (.tmp 20) (.tmp 24) 81 rfl Y.toArray Y.toArray rfl rfl true false rfl (by kernel_rfl) HEQ.out X) ?_
      try simp only [Act.put, List.setIfInBounds_toArray, List.set_cons_zero, List.set_cons_succ]
      refine Ops.wq_end ?_
      intro X hX
      have HX := Lib.hid hX
      clear hX
      go_wp2_with fail
      go_roundw
      case rel => exact ⟨k + 1, by omega, by go_num, HX.out⟩
      case measure => simp [intOf]; omega
    · go_wp2_with fail
      go_ret
      exact ⟨rfl, HB.out⟩
end Fee
end Go.Proofs.Ytlbfjdpcnnplnaa
