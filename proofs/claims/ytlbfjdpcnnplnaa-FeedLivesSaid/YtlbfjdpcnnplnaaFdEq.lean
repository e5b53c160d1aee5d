/- '==' of items with themselves; the statements' same. -/
import Derived.Test.YtlbfjdpcnnplnaaFdEv
import Derived.Test.YtlbfjdpcnnplnaaEqLits
import Derived.Test.YtlbfjdpcnnplnaaOps
import Derived.BigQuiet
namespace Go.Proofs.Ytlbfjdpcnnplnaa
namespace Fee
open Go.ChangeShapes Go.WideShapes Go.ChangeAt Go.RowKit Go.Maps
open Num Mem Words Chacha Aead Poly Quiet RowV RowS EqLits

theorem lits_i {P : Program} {e : TypeId} {q : IntKind} (he : P.underlying e = some (.int q)) (d : Nat) (a : Int) (h : (Lit.int q a).wf = true) : (P.keyLits (d + 1) e [.int q a]).isSome = true := by
  unfold Program.keyLits
  simp only [he]
  rw [if_pos ⟨trivial, h⟩]
  rfl
theorem wf_u8 (a : Nat) (ha : a < 256) : (Lit.int .u8 (a : Nat)).wf = true := by
  have h0 : IntKind.min .u8 = 0 := by decide
  have h1 : IntKind.max .u8 = 255 := by decide
  show (decide (IntKind.min .u8 ≤ (a : Int)) && decide ((a : Int) ≤ IntKind.max .u8)) = true
  rw [h0, h1, Bool.and_eq_true, decide_eq_true_eq, decide_eq_true_eq]
  omega
theorem one_at (f : Nat → Nat) (n i : Nat) (h : i < n) : ((byteCells f n).drop (i * 1)).take 1 = [.int .u8 (f i : Nat)] := by
  apply List.ext_getElem?
  intro j
  rw [List.getElem?_take, List.getElem?_drop]
  by_cases hj : j < 1
  · rw [if_pos hj, show i * 1 + j = i by omega, byteCells_get _ _ _ h, show j = 0 by omega]
    rfl
  · rw [if_neg hj, List.getElem?_eq_none (by simp; omega)]
theorem lits_key (f : Nat → Nat) (hf : ∀ i, f i < 256) (d : Nat) : (Try.prog.keyLits (d + 2) 43 (byteCells f 32)).isSome = true := by
  refine lits_array Try.underlying43 (d + 1) _ (by rw [byteCells_length]; kernel_rfl) fun i hi => ?_
  rw [show Try.prog.cellsOf 5 = 1 by kernel_rfl, one_at _ _ _ hi]
  exact lits_i Try.underlying5 d _ (wf_u8 _ (hf i))
theorem mid_at {a b c : List Value} {o n : Nat} (ho : a.length = o) (hn : b.length = n) : ((a ++ (b ++ c)).drop o).take n = b := by
  rw [List.drop_append, ho]
  simp [← hn, List.drop_eq_nil_of_le (Nat.le_of_eq ho)]
set_option maxRecDepth 100000 in
theorem lits_ev (x : Ev) (hx : OkEv x) (d : Nat) : (Try.prog.keyLits (d + 3) 45 (evL x)).isSome = true := by
  refine lits_struct Try.underlying45 (d + 2) _ (by rw [evL_length]; kernel_rfl) (by kernel_rfl) fun f hf => ?_
  simp only [List.mem_cons, List.not_mem_nil, or_false] at hf
  rcases hf with rfl | rfl | rfl
  · show (Try.prog.keyLits (d + 2) 3 (((evL x).drop 0).take 1)).isSome = true
    exact lits_i Try.underlying3 (d + 1) _ hx.k
  · show (Try.prog.keyLits (d + 2) 43 (((evL x).drop 1).take 32)).isSome = true
    rw [show ((evL x).drop 1).take 32 = byteCells x.f 32 from mid_at (a := [.int .i64 x.k]) rfl (byteCells_length _ _)]
    exact lits_key _ hx.f d
  · show (Try.prog.keyLits (d + 2) 23 (((evL x).drop 33).take 1)).isSome = true
    rw [show ((evL x).drop 33).take 1 = [.int .u64 (x.v : Nat)] from by
      rw [show evL x = (.int .i64 x.k :: byteCells x.f 32) ++ ([.int .u64 (x.v : Nat)] ++ []) by simp [evL]]
      exact mid_at (by simp [byteCells_length]) rfl]
    exact lits_i Try.underlying23 (d + 1) _ (okU_of hx.v)
set_option maxRecDepth 100000 in
theorem lits_it (x : It) (hx : OkIt x) (d : Nat) : (Try.prog.keyLits (d + 4) 66 (itL x)).isSome = true := by
  refine lits_struct Try.underlying66 (d + 3) _ (by rw [itL_length]; kernel_rfl) (by kernel_rfl) fun f hf => ?_
  simp only [List.mem_cons, List.not_mem_nil, or_false] at hf
  rcases hf with rfl | rfl
  · show (Try.prog.keyLits (d + 3) 45 (((itL x).drop 0).take 34)).isSome = true
    rw [show ((itL x).drop 0).take 34 = evL x.e from mid_at (a := []) (c := [.int .u64 (x.lost : Nat)]) rfl (evL_length x.e)]
    exact lits_ev _ hx.1 d
  · show (Try.prog.keyLits (d + 3) 23 (((itL x).drop 34).take 1)).isSome = true
    rw [show ((itL x).drop 34).take 1 = [.int .u64 (x.lost : Nat)] from by
      rw [show itL x = evL x.e ++ ([.int .u64 (x.lost : Nat)] ++ []) by simp [itL]]
      exact mid_at (evL_length x.e) rfl]
    exact lits_i Try.underlying23 (d + 2) _ (okU_of hx.2)
theorem formed_it (x : It) : (Value.agg (itL x).toArray).formed Try.prog 66 = true := by kernel_rfl
theorem eq_it (x : It) (hx : OkIt x) (w : World) : (Op.equalIn 10000 66 (.agg (itL x).toArray) (.agg (itL x).toArray)).run Try.prog w = .ok true w :=
  eq_of_lits (m := 5) (D := 4) (by kernel_rfl) (by omega) (formed_it x) (lits_it x hx 0) w

theorem Its.range {w : World} {v : Value} {L : List It} (h : Its w v L) : ∃ A, v = .slice A L.length L.length ∧ ∀ i x, L[i]? = some x → ∃ b off, A = some ⟨b, off, none⟩ ∧ b < w.heap.size ∧ w.rangeAt b (off + i * 35) (itL x) := by
  rcases L with _ | ⟨y, L⟩
  · obtain ⟨A, e, _⟩ := h
    exact ⟨A, e, fun i x hx => by simp at hx⟩
  · obtain ⟨b, off, rfl, hl, hc⟩ := h.at_ (by simp)
    refine ⟨_, rfl, fun i x hx => ⟨b, off, rfl, hl, fun j v hv => ?_⟩⟩
    rw [Nat.add_assoc]
    exact hc i x hx j _ hv
theorem ok_takeL {x : Wt} (h : OkWt x) (hl : x.lost ≤ 18446744073709551615) (n : Int) : ∀ y ∈ takeL x n, OkIt y := by
  intro y hy
  unfold takeL at hy
  rcases List.mem_append.1 hy with hy | hy
  · exact h.ok y (List.mem_of_mem_take hy)
  · split at hy
    · unfold gapL at hy
      split at hy
      · rw [List.mem_singleton] at hy
        subst hy
        exact ⟨ok_noEv, hl⟩
      · cases hy
    · cases hy
theorem few_takeL {x : Wt} (h : OkWt x) (n : Int) : (takeL x n).length ≤ 17 := by
  unfold takeL
  rw [List.length_append, List.length_take]
  have h1 := h.few
  have h2 := gap_le x.lost
  by_cases c : ((cnt n x.L.length : Nat) : Int) < n
  · rw [if_pos c]
    omega
  · rw [if_neg c]
    simp only [List.length_nil]
    omega
theorem range_below {w X : World} {b off : Nat} {xs : List Value} (h : w.rangeAt b off xs) (hb : Below w.heap.size w X) (hl : b < w.heap.size) : X.rangeAt b off xs := fun j v hj => (hb.cell (p := ⟨b, off + j, none⟩) hl).trans (h j v hj)
theorem run_load_mid_op {P : Program} {o : Oper} {a : Act} {w : World} (ty : TypeId) (x : Operand) (ho : o.op = .load ty x) (g off : Nat) (hx : a.eval x = .pointer (some ⟨g, off, none⟩)) (cs : List Value) (d : TypeDesc) (hc : w.rangeAt g off cs)
    (hu : P.underlying ty = some d) (hd : d.isRow = true) (hi : (P.info? ty).map (·.size) = some cs.length) : (execOp a.eval o).run P w = .ok (.value (.agg cs.toArray)) w := by
  unfold execOp
  simp only [ho, hx, Instr.loadAt, Instr.sureAddr, Sem.run_bind, Sem.run_pure, Result.andThen_ok, run_loadVar_mid w g off ty cs d hc hu hd hi]
set_option maxRecDepth 100000 in
theorem same_any (L : List It) (v u : Value) (w : World) (h1 : Its w v L) (h2 : Its w u L) (hok : ∀ y ∈ L, OkIt y) (hl : L.length ≤ 1000) : Calls Try.prog 25 #[v, u] w fun e w' => e = .returned (.bool true) ∧ Below w.heap.size w w' := by
  obtain ⟨A, rfl, hA⟩ := h1.range
  obtain ⟨C, rfl, hC⟩ := h2.range
  have HA := Lib.hid hA
  have HC := Lib.hid hC
  have HOK := Lib.hid hok
  obtain ⟨n, hn⟩ : ∃ n, L.length = n := ⟨_, rfl⟩
  have HN := Lib.hid hn
  rw [hn] at hl ⊢
  clear h1 h2 hA hC hok hn
  go_enter Try.func25, Try.ntmps25
  go_wp2_with fail
  go_loopw [5] (fun i X => ∃ k : Nat, k ≤ n ∧ i = .int .i64 k ∧ Below w.heap.size w X) (fun i _ => n - (intOf i).toNat)
  case atStart => exact ⟨0, Nat.zero_le _, rfl, Below.refl _ _⟩
  case round =>
    obtain ⟨k, hk, rfl, hb⟩ := hrel
    have HB := Lib.hid hb
    clear hb
    by_cases hlt : k < n
    · obtain ⟨y, hy⟩ : ∃ y, L[k]? = some y := ⟨_, List.getElem?_eq_getElem (by rw [HN.out]; exact hlt)⟩
      obtain ⟨b, off, rfl, hbl, hr1⟩ := HA.out k y hy
      obtain ⟨b2, off2, rfl, hbl2, hr2⟩ := HC.out k y hy
      have HR1 := Lib.hid hr1
      have HR2 := Lib.hid hr2
      have HEQ := Lib.hid (eq_it y (HOK.out y (List.mem_of_getElem? hy)))
      have hlt' : (k : Int) < (n : Int) := by omega
      obtain ⟨Y, hY⟩ : ∃ Y, itL y = Y := ⟨_, rfl⟩
      have HYL := Lib.hid (show Y.length = 35 by rw [← hY, itL_length])
      rw [hY] at HR1 HR2 HEQ
      clear hr1 hr2 hy hY
      go_upto_region 6 with fail
      refine region_class (C := fun X => Below w.heap.size w X) (by kernel_rfl) (by kernel_rfl) HB.out.drew ?_
      refine Ops.wq_in ?_
      refine Ops.wq_take _ (by rfl) (fun X hx => by go_simp; try with_reducible rfl) ?_
      try simp only [Act.put, List.setIfInBounds_toArray, List.set_cons_zero, List.set_cons_succ]
      refine Ops.wq_take _ (by rfl) (fun X hx => by go_simp; try with_reducible rfl) ?_
      try simp only [Act.put, List.setIfInBounds_toArray, List.set_cons_zero, List.set_cons_succ]
      refine Ops.wq_take _ (by rfl) (fun X hx => by go_simp; try with_reducible rfl) ?_
      try simp only [Act.put, List.setIfInBounds_toArray, List.set_cons_zero, List.set_cons_succ]
      refine Ops.wq_take (.agg Y.toArray) (by rfl) (fun X hx => run_load_mid_op 66 (.tmp 19) rfl b (off + k * 35) rfl Y _ (range_below HR1.out hx hbl) rfl rfl (by rw [HYL.out]; kernel_rfl)) ?_
      try simp only [Act.put, List.setIfInBounds_toArray, List.set_cons_zero, List.set_cons_succ]
      refine Ops.wq_take _ (by rfl) (fun X hx => by go_simp; try with_reducible rfl) ?_
      try simp only [Act.put, List.setIfInBounds_toArray, List.set_cons_zero, List.set_cons_succ]
      refine Ops.wq_take _ (by rfl) (fun X hx => by go_simp; try with_reducible rfl) ?_
      try simp only [Act.put, List.setIfInBounds_toArray, List.set_cons_zero, List.set_cons_succ]
      refine Ops.wq_take _ (by rfl) (fun X hx => by go_simp; try with_reducible rfl) ?_
      try simp only [Act.put, List.setIfInBounds_toArray, List.set_cons_zero, List.set_cons_succ]
      refine Ops.wq_take (.agg Y.toArray) (by rfl) (fun X hx => run_load_mid_op 66 (.tmp 23) rfl b2 (off2 + k * 35) rfl Y _ (range_below HR2.out hx hbl2) rfl rfl (by rw [HYL.out]; kernel_rfl)) ?_
      try simp only [Act.put, List.setIfInBounds_toArray, List.set_cons_zero, List.set_cons_succ]
      refine Ops.wq_take (.bool false) (by rfl) (fun X hx => Ops.run_neq_op 66 (.tmp 20) (.tmp 24) 66 rfl Y.toArray Y.toArray rfl rfl true false rfl (by kernel_rfl) HEQ.out X) ?_
      try simp only [Act.put, List.setIfInBounds_toArray, List.set_cons_zero, List.set_cons_succ]
      refine Ops.wq_end ?_
      intro X hX
      have HX := Lib.hid hX
      clear hX
      go_wp2_with fail
      go_roundw
      case rel => exact ⟨k + 1, by omega, by go_num, HX.out⟩
      case measure => simp [intOf]; omega
    · go_wp2_with fail
      go_ret
      exact ⟨rfl, HB.out⟩
end Fee
end Go.Proofs.Ytlbfjdpcnnplnaa
