/- The call Mask of package cidr, at any prefix. -/
import Derived.Test.YtcpfchfhcfdcpaaPref
import Derived.StillTailTactics
namespace Go.Proofs.Ytcpfchfhcfdcpaa
namespace Adr
open Go.ChangeShapes Go.WideShapes Go.ChangeAt Go.RowKit
open Num Mem Words Chacha Aead Poly Ops Quiet

set_option maxRecDepth 100000 in
theorem digits_any (s : Bool) (f : Nat → Nat) (w : World) :
    Calls Try.prog 49 #[.agg (addrL s f).toArray] w fun e w' => e = .returned (.int .i64 (digitsI s)) ∧ Below w.heap.size w w' := by
  obtain ⟨L, hL⟩ : ∃ L, addrL s f = L := ⟨_, rfl⟩
  rw [hL]
  have HL := Lib.hid hL
  clear hL
  go_enter Try.func49, Try.ntmps49
  go_upto_region 1 with fail
  refine cut_world (fun X => X.cell? ⟨w.heap.size, 0, none⟩ = some (.bool s) ∧ Below w.heap.size w X) ⟨by rw [(Whole.new _ _ _).cell, ← HL.out]; rfl, below_alloc (Below.refl _ _) _⟩ ?_
  rintro W ⟨p1, pb⟩
  have PB := Lib.hid pb
  clear pb
  cases s
  · go_wp2_with fail
    go_ret
    exact ⟨rfl, PB.out⟩
  · go_wp2_with fail
    go_ret
    exact ⟨rfl, PB.out⟩

theorem pref_range {X : World} {g : Nat} {t : TypeId} {s : Bool} {f : Nat → Nat} {z : Int} (h : Whole X g t (prefL s f z).toArray) : X.rangeAt g 0 (addrL s f) := by
  intro j v hj
  have hl : j < 17 := by
    have := (List.getElem?_eq_some_iff.1 hj).1
    rwa [addrL_length] at this
  rw [Nat.zero_add, h.cell, List.getElem?_toArray]
  unfold prefL
  rw [List.getElem?_append_left (by rw [addrL_length]; exact hl)]
  exact hj
theorem run_mid_in {P : Program} {o : Oper} {a : Act} {w : World} (ty : TypeId) (x : Operand) (ho : o.op = .load ty x) (g off : Nat) (hx : a.eval x = .pointer (some ⟨g, off, none⟩)) (cs : List Value) (d : TypeDesc) (hg : w.rangeAt g off cs)
    (hu : P.underlying ty = some d) (hd : d.isRow = true) (hi : (P.info? ty).map (·.size) = some cs.length) : (execOp a.eval o).run P w = .ok (.value (.agg cs.toArray)) w := by
  unfold execOp
  simp only [ho, hx, Sem.run_bind, run_loadAt_mid w g off ty cs d hg hu hd hi, Result.andThen_ok, Sem.run_pure]

/-- the state of the walk: the argument's block with what has been masked, the answer's block -/
structure MaskW (w : World) (B : Nat) (L : List Value) (zs : Array Value) (X : World) : Prop where
  arg : Whole X B 29 L.toArray
  res : Whole X (B + 1) 29 zs
  bel : Below B w X
theorem MaskW.below {w : World} {B : Nat} {L : List Value} {zs : Array Value} {X Y : World} (h : MaskW w B L zs X) (hb : Below X.heap.size X Y) : MaskW w B L zs Y :=
  ⟨h.arg.below hb h.arg.lt, h.res.below hb h.res.lt, h.bel.trans (hb.mono (Nat.le_of_lt h.arg.lt))⟩

/-- the bytes behind k rounds -/
def upM (z : Int) (f : Nat → Nat) (k i : Nat) : Nat := if i < k then maskF z f i else f i
theorem upM_succ (z : Int) (f : Nat → Nat) (k : Nat) : (fun i => if i = k then maskF z f k else upM z f k i) = upM z f (k + 1) := by
  funext i
  unfold upM
  by_cases h : i = k
  · subst h; rw [if_pos rfl, if_pos (by omega)]
  · rw [if_neg h]
    by_cases h2 : i < k
    · rw [if_pos h2, if_pos (by omega)]
    · rw [if_neg h2, if_neg (by omega)]
theorem upM_zero (z : Int) (f : Nat → Nat) : upM z f 0 = f := by
  funext i
  unfold upM
  rw [if_neg (by omega)]
theorem and_top : ∀ m, m < 9 → ∀ x : Nat, x < 256 → bits .and .u8 (x : Int) ((255 * 2 ^ m % 256 : Nat) : Int) = ((topB (8 - m) x : Nat) : Int) := by decide +kernel
theorem shl_255 : ∀ k, k < 9 → IntKind.u8.wrap ((255 : Int) * 2 ^ k) = ((255 * 2 ^ k % 256 : Nat) : Int) := by decide +kernel

set_option maxRecDepth 100000 in
set_option maxHeartbeats 2000000 in
theorem mask_addr (s : Bool) (f : Nat → Nat) (hf : ∀ i, f i < 256) (z : Int) (hr : rightB s f = false) (w : World) :
    Calls Try.prog 34 #[.agg (prefL s f z).toArray] w fun e w' => e = .returned (.tuple #[maskV s f z, .int .i64 (maskE s f z : Nat)]) ∧ Below w.heap.size w w' := by
  obtain ⟨zs, hz, hzs, hzc⟩ : ∃ zs : Array Value, (∀ w, (zeroValue 29).run Try.prog w = .ok (.agg zs) w) ∧ zs.size = 18 ∧ zs = (prefL false nought 0).toArray := ⟨_, zero_pref, pref_size _ _ _, rfl⟩
  have HZS := Lib.hid hzs
  have HZC := Lib.hid hzc
  have HB0 := Lib.hid pref_built0
  have HO := Lib.hid (pref_one false nought 0)
  rw [← hzc] at HB0 HO
  clear hzs hzc
  have HF := Lib.hid hf
  clear hf
  obtain ⟨M, hM⟩ : ∃ M, maskV s f z = M := ⟨_, rfl⟩
  obtain ⟨E, hE⟩ : ∃ E, maskE s f z = E := ⟨_, rfl⟩
  rw [hM, hE]
  have HM := Lib.hid hM
  have HE := Lib.hid hE
  clear hM hE
  obtain ⟨L, hL⟩ : ∃ L, prefL s f z = L := ⟨_, rfl⟩
  rw [hL]
  have HL := Lib.hid hL
  clear hL
  go_enter Try.func34, Try.ntmps34
  go_upto_region 1 with fail
  refine cut_world (fun X => MaskW w w.heap.size L zs X) ⟨(Whole.new _ _ _).alloc _, whole_new _ _ (by simp), below_alloc (below_alloc (Below.refl _ _) _) _⟩ ?_
  intro W hW
  generalize hB : w.heap.size = B at hW ⊢
  have HB := Lib.hid hB
  clear hB
  have HA := Lib.hid (addrL_length s f)
  have HR := Lib.hid (pref_range (HL.out ▸ hW.arg))
  have HW := Lib.hid hW
  clear hW
  obtain ⟨A, hA⟩ : ∃ A, addrL s f = A := ⟨_, rfl⟩
  have C1 := Lib.hid (right_any s f HF.out W)
  rw [hA] at C1 HR HA
  have HAe := Lib.hid hA
  clear hA
  go_wp2_with (refine wpList_load_mid rfl 27 (.tmp 6) rfl B 0 rfl A _ HR.out rfl rfl (by rw [HA.out]; kernel_rfl) ?_)
  refine C1.out.mono ?_
  rintro e w1 ⟨rfl, hb1⟩
  have HW1 := Lib.hid (HW.out.below hb1)
  clear hb1 HR HW C1
  rw [hr]
  go_wp2_with (first | (refine wpList_built0 rfl 29 rfl zs HB0.out ?_) | (refine wpList_store_row rfl 29 (.tmp 2) (.tmp 10) rfl (B + 1) zs rfl rfl 29 _ HW1.out.res (by rw [HZS.out]; kernel_rfl) rfl HO.out ?_))
  have hret : Whole (w1.setRow (B + 1) zs) (B + 1) 29 (prefL false nought 0).toArray := by
    rw [← HZC.out]
    exact setRow_heap _ _ _ _ _ _ HW1.out.res
  refine bodyPost_ret (Poly.results_cell_tmp rfl _ _ (B + 1) 29 _ _ rfl hret rfl rfl (by rw [prefL_length]; kernel_rfl)) rfl ?_
  refine ⟨?_, by rw [HB.out]; exact below_setRow HW1.out.bel (Nat.le_succ _) _⟩
  rw [← HM.out, ← HE.out]
  have e1 : maskE s f z = 40 := by unfold maskE; rw [if_pos hr]
  unfold maskV mS mF mZ
  rw [e1]
  rfl

set_option maxRecDepth 100000 in
set_option maxHeartbeats 2000000 in
theorem mask_neg (s : Bool) (f : Nat → Nat) (hf : ∀ i, f i < 256) (z : Int) (hr : rightB s f = true) (hneg : z < 0) (w : World) :
    Calls Try.prog 34 #[.agg (prefL s f z).toArray] w fun e w' => e = .returned (.tuple #[maskV s f z, .int .i64 (maskE s f z : Nat)]) ∧ Below w.heap.size w w' := by
  obtain ⟨zs, hz, hzs, hzc⟩ : ∃ zs : Array Value, (∀ w, (zeroValue 29).run Try.prog w = .ok (.agg zs) w) ∧ zs.size = 18 ∧ zs = (prefL false nought 0).toArray := ⟨_, zero_pref, pref_size _ _ _, rfl⟩
  have HZS := Lib.hid hzs
  have HZC := Lib.hid hzc
  have HB0 := Lib.hid pref_built0
  have HO := Lib.hid (pref_one false nought 0)
  rw [← hzc] at HB0 HO
  clear hzs hzc
  have HF := Lib.hid hf
  clear hf
  obtain ⟨M, hM⟩ : ∃ M, maskV s f z = M := ⟨_, rfl⟩
  obtain ⟨E, hE⟩ : ∃ E, maskE s f z = E := ⟨_, rfl⟩
  rw [hM, hE]
  have HM := Lib.hid hM
  have HE := Lib.hid hE
  clear hM hE
  obtain ⟨L, hL⟩ : ∃ L, prefL s f z = L := ⟨_, rfl⟩
  rw [hL]
  have HL := Lib.hid hL
  clear hL
  go_enter Try.func34, Try.ntmps34
  go_upto_region 1 with fail
  refine cut_world (fun X => MaskW w w.heap.size L zs X) ⟨(Whole.new _ _ _).alloc _, whole_new _ _ (by simp), below_alloc (below_alloc (Below.refl _ _) _) _⟩ ?_
  intro W hW
  generalize hB : w.heap.size = B at hW ⊢
  have HB := Lib.hid hB
  clear hB
  have HA := Lib.hid (addrL_length s f)
  have HR := Lib.hid (pref_range (HL.out ▸ hW.arg))
  have HW := Lib.hid hW
  clear hW
  obtain ⟨A, hA⟩ : ∃ A, addrL s f = A := ⟨_, rfl⟩
  have C1 := Lib.hid (right_any s f HF.out W)
  rw [hA] at C1 HR HA
  have HAe := Lib.hid hA
  clear hA
  go_wp2_with (refine wpList_load_mid rfl 27 (.tmp 6) rfl B 0 rfl A _ HR.out rfl rfl (by rw [HA.out]; kernel_rfl) ?_)
  refine C1.out.mono ?_
  rintro e w1 ⟨rfl, hb1⟩
  have HW1 := Lib.hid (HW.out.below hb1)
  clear hb1 HR HW C1
  rw [hr]
  have hc17 : ∀ X : World, MaskW w B L zs X → X.cell? ⟨B, 17, none⟩ = some (.int .i64 z) := fun X hX => by rw [hX.arg.cell, ← HL.out, List.getElem?_toArray, pref_bits]
  have HRX := Lib.hid (fun (X : World) (hX : MaskW w B L zs X) => (show X.rangeAt B 0 A from HAe.out ▸ pref_range (HL.out ▸ hX.arg)))
  have C2 := Lib.hid (fun (X : World) => (show Calls Try.prog 49 #[.agg A.toArray] X _ from HAe.out ▸ digits_any s f X))
  have H17 := Lib.hid hc17
  clear hc17
  go_upto_region 3 with fail
  have d1 : decide (z < 0) = true := decide_eq_true hneg
  refine q_start (by kernel_rfl) (by kernel_rfl) ?_
  refine q_take _ (by rfl) (fun x hx => by go_simp; try with_reducible rfl) ?_
  try simp only [Act.put, List.setIfInBounds_toArray, List.set_cons_zero, List.set_cons_succ]
  refine q_take (.int .i64 z) (by rfl) (fun x hx => by have h17 := H17.out x (HW1.out.below hx); go_simp; try with_reducible rfl) ?_
  try simp only [Act.put, List.setIfInBounds_toArray, List.set_cons_zero, List.set_cons_succ]
  refine q_take (.bool true) (by rfl) (fun x hx => by go_simp; try with_reducible rfl) ?_
  try simp only [Act.put, List.setIfInBounds_toArray, List.set_cons_zero, List.set_cons_succ]
  refine q_take _ (by rfl) (fun x hx => by go_simp; try with_reducible rfl) ?_
  try simp only [Act.put, List.setIfInBounds_toArray, List.set_cons_zero, List.set_cons_succ]
  refine q_pass (by rfl) ?_
  try simp only [Act.put, List.setIfInBounds_toArray, List.set_cons_zero, List.set_cons_succ]
  refine q_pass (by rfl) ?_
  try simp only [Act.put, List.setIfInBounds_toArray, List.set_cons_zero, List.set_cons_succ]
  refine q_pass (by rfl) ?_
  try simp only [Act.put, List.setIfInBounds_toArray, List.set_cons_zero, List.set_cons_succ]
  refine q_pass (by rfl) ?_
  try simp only [Act.put, List.setIfInBounds_toArray, List.set_cons_zero, List.set_cons_succ]
  refine q_pass (by rfl) ?_
  try simp only [Act.put, List.setIfInBounds_toArray, List.set_cons_zero, List.set_cons_succ]
  refine q_pass (by rfl) ?_
  try simp only [Act.put, List.setIfInBounds_toArray, List.set_cons_zero, List.set_cons_succ]
  refine q_take (.bool true) (by rfl) (fun x hx => by go_simp; try with_reducible rfl) ?_
  try simp only [Act.put, List.setIfInBounds_toArray, List.set_cons_zero, List.set_cons_succ]
  refine wpQuiet_nil ?_
  intro w2 hb2
  have HW2 := Lib.hid (HW1.out.below hb2)
  clear HW1 hb2
  go_wp2_with (first | (refine wpList_built0 rfl 29 rfl zs HB0.out ?_) | (refine wpList_store_row rfl 29 (.tmp 2) (.tmp 22) rfl (B + 1) zs rfl rfl 29 _ HW2.out.res (by rw [HZS.out]; kernel_rfl) rfl HO.out ?_))
  have hret : Whole (w2.setRow (B + 1) zs) (B + 1) 29 (prefL false nought 0).toArray := by
    rw [← HZC.out]
    exact setRow_heap _ _ _ _ _ _ HW2.out.res
  refine bodyPost_ret (Poly.results_cell_tmp rfl _ _ (B + 1) 29 _ _ rfl hret rfl rfl (by rw [prefL_length]; kernel_rfl)) rfl ?_
  refine ⟨?_, by rw [HB.out]; exact below_setRow HW2.out.bel (Nat.le_succ _) _⟩
  rw [← HM.out, ← HE.out]
  have e1 : maskE s f z = 41 := by unfold maskE; rw [if_neg (by rw [hr]; decide), if_pos (Or.inl hneg)]
  unfold maskV mS mF mZ
  rw [e1]
  rfl

set_option maxRecDepth 100000 in
set_option maxHeartbeats 2000000 in
theorem mask_far (s : Bool) (f : Nat → Nat) (hf : ∀ i, f i < 256) (z : Int) (hr : rightB s f = true) (hneg : 0 ≤ z) (hfar : digitsI s < z) (w : World) :
    Calls Try.prog 34 #[.agg (prefL s f z).toArray] w fun e w' => e = .returned (.tuple #[maskV s f z, .int .i64 (maskE s f z : Nat)]) ∧ Below w.heap.size w w' := by
  obtain ⟨zs, hz, hzs, hzc⟩ : ∃ zs : Array Value, (∀ w, (zeroValue 29).run Try.prog w = .ok (.agg zs) w) ∧ zs.size = 18 ∧ zs = (prefL false nought 0).toArray := ⟨_, zero_pref, pref_size _ _ _, rfl⟩
  have HZS := Lib.hid hzs
  have HZC := Lib.hid hzc
  have HB0 := Lib.hid pref_built0
  have HO := Lib.hid (pref_one false nought 0)
  rw [← hzc] at HB0 HO
  clear hzs hzc
  have HF := Lib.hid hf
  clear hf
  obtain ⟨M, hM⟩ : ∃ M, maskV s f z = M := ⟨_, rfl⟩
  obtain ⟨E, hE⟩ : ∃ E, maskE s f z = E := ⟨_, rfl⟩
  rw [hM, hE]
  have HM := Lib.hid hM
  have HE := Lib.hid hE
  clear hM hE
  obtain ⟨L, hL⟩ : ∃ L, prefL s f z = L := ⟨_, rfl⟩
  rw [hL]
  have HL := Lib.hid hL
  clear hL
  go_enter Try.func34, Try.ntmps34
  go_upto_region 1 with fail
  refine cut_world (fun X => MaskW w w.heap.size L zs X) ⟨(Whole.new _ _ _).alloc _, whole_new _ _ (by simp), below_alloc (below_alloc (Below.refl _ _) _) _⟩ ?_
  intro W hW
  generalize hB : w.heap.size = B at hW ⊢
  have HB := Lib.hid hB
  clear hB
  have HA := Lib.hid (addrL_length s f)
  have HR := Lib.hid (pref_range (HL.out ▸ hW.arg))
  have HW := Lib.hid hW
  clear hW
  obtain ⟨A, hA⟩ : ∃ A, addrL s f = A := ⟨_, rfl⟩
  have C1 := Lib.hid (right_any s f HF.out W)
  rw [hA] at C1 HR HA
  have HAe := Lib.hid hA
  clear hA
  go_wp2_with (refine wpList_load_mid rfl 27 (.tmp 6) rfl B 0 rfl A _ HR.out rfl rfl (by rw [HA.out]; kernel_rfl) ?_)
  refine C1.out.mono ?_
  rintro e w1 ⟨rfl, hb1⟩
  have HW1 := Lib.hid (HW.out.below hb1)
  clear hb1 HR HW C1
  rw [hr]
  have hc17 : ∀ X : World, MaskW w B L zs X → X.cell? ⟨B, 17, none⟩ = some (.int .i64 z) := fun X hX => by rw [hX.arg.cell, ← HL.out, List.getElem?_toArray, pref_bits]
  have HRX := Lib.hid (fun (X : World) (hX : MaskW w B L zs X) => (show X.rangeAt B 0 A from HAe.out ▸ pref_range (HL.out ▸ hX.arg)))
  have C2 := Lib.hid (fun (X : World) => (show Calls Try.prog 49 #[.agg A.toArray] X _ from HAe.out ▸ digits_any s f X))
  have H17 := Lib.hid hc17
  clear hc17
  go_upto_region 3 with fail
  have d1 : decide (z < 0) = false := decide_eq_false (by omega)
  have d2 : decide (digitsI s < z) = true := decide_eq_true hfar
  refine q_start (by kernel_rfl) (by kernel_rfl) ?_
  refine q_take _ (by rfl) (fun x hx => by go_simp; try with_reducible rfl) ?_
  try simp only [Act.put, List.setIfInBounds_toArray, List.set_cons_zero, List.set_cons_succ]
  refine q_take (.int .i64 z) (by rfl) (fun x hx => by have h17 := H17.out x (HW1.out.below hx); go_simp; try with_reducible rfl) ?_
  try simp only [Act.put, List.setIfInBounds_toArray, List.set_cons_zero, List.set_cons_succ]
  refine q_take (.bool false) (by rfl) (fun x hx => by go_simp; try with_reducible rfl) ?_
  try simp only [Act.put, List.setIfInBounds_toArray, List.set_cons_zero, List.set_cons_succ]
  refine q_take _ (by rfl) (fun x hx => by go_simp; try with_reducible rfl) ?_
  try simp only [Act.put, List.setIfInBounds_toArray, List.set_cons_zero, List.set_cons_succ]
  refine q_take _ (by rfl) (fun x hx => by go_simp; try with_reducible rfl) ?_
  try simp only [Act.put, List.setIfInBounds_toArray, List.set_cons_zero, List.set_cons_succ]
  refine q_take (.int .i64 z) (by rfl) (fun x hx => by have h17 := H17.out x (HW1.out.below hx); go_simp; try with_reducible rfl) ?_
  try simp only [Act.put, List.setIfInBounds_toArray, List.set_cons_zero, List.set_cons_succ]
  refine q_take _ (by rfl) (fun x hx => by go_simp; try with_reducible rfl) ?_
  try simp only [Act.put, List.setIfInBounds_toArray, List.set_cons_zero, List.set_cons_succ]
  refine q_take (.agg A.toArray) (by rfl) (fun x hx => run_mid_in 27 (.tmp 17) rfl B 0 rfl A _ (HRX.out x (HW1.out.below hx)) rfl rfl (by rw [HA.out]; kernel_rfl)) ?_
  try simp only [Act.put, List.setIfInBounds_toArray, List.set_cons_zero, List.set_cons_succ]
  refine q_call (.int .i64 (digitsI s)) 49 #[.agg A.toArray] (by rfl) (by intro w; go_simp; try with_reducible rfl) (fun x hx => (C2.out x).mono (fun e w' ⟨h1, h2⟩ => ⟨h1, below_trans hx h2⟩)) ?_
  try simp only [Act.put, List.setIfInBounds_toArray, List.set_cons_zero, List.set_cons_succ]
  refine q_take (.bool true) (by rfl) (fun x hx => by go_simp; try with_reducible rfl) ?_
  try simp only [Act.put, List.setIfInBounds_toArray, List.set_cons_zero, List.set_cons_succ]
  refine q_take (.bool true) (by rfl) (fun x hx => by go_simp; try with_reducible rfl) ?_
  try simp only [Act.put, List.setIfInBounds_toArray, List.set_cons_zero, List.set_cons_succ]
  refine wpQuiet_nil ?_
  intro w2 hb2
  have HW2 := Lib.hid (HW1.out.below hb2)
  clear HW1 hb2
  go_wp2_with (first | (refine wpList_built0 rfl 29 rfl zs HB0.out ?_) | (refine wpList_store_row rfl 29 (.tmp 2) (.tmp 22) rfl (B + 1) zs rfl rfl 29 _ HW2.out.res (by rw [HZS.out]; kernel_rfl) rfl HO.out ?_))
  have hret : Whole (w2.setRow (B + 1) zs) (B + 1) 29 (prefL false nought 0).toArray := by
    rw [← HZC.out]
    exact setRow_heap _ _ _ _ _ _ HW2.out.res
  refine bodyPost_ret (Poly.results_cell_tmp rfl _ _ (B + 1) 29 _ _ rfl hret rfl rfl (by rw [prefL_length]; kernel_rfl)) rfl ?_
  refine ⟨?_, by rw [HB.out]; exact below_setRow HW2.out.bel (Nat.le_succ _) _⟩
  rw [← HM.out, ← HE.out]
  have e1 : maskE s f z = 41 := by unfold maskE; rw [if_neg (by rw [hr]; decide), if_pos (Or.inr hfar)]
  unfold maskV mS mF mZ
  rw [e1]
  rfl

set_option maxRecDepth 100000 in
set_option maxHeartbeats 2000000 in
theorem mask_ok (s : Bool) (f : Nat → Nat) (hf : ∀ i, f i < 256) (z : Int) (hz0 : -9223372036854775808 ≤ z) (hz1 : z ≤ 9223372036854775807) (hr : rightB s f = true) (hneg : 0 ≤ z) (hfar : z ≤ digitsI s) (w : World) :
    Calls Try.prog 34 #[.agg (prefL s f z).toArray] w fun e w' => e = .returned (.tuple #[maskV s f z, .int .i64 (maskE s f z : Nat)]) ∧ Below w.heap.size w w' := by
  obtain ⟨zs, hz, hzs, hzc⟩ : ∃ zs : Array Value, (∀ w, (zeroValue 29).run Try.prog w = .ok (.agg zs) w) ∧ zs.size = 18 ∧ zs = (prefL false nought 0).toArray := ⟨_, zero_pref, pref_size _ _ _, rfl⟩
  have HZS := Lib.hid hzs
  have HZC := Lib.hid hzc
  have HB0 := Lib.hid pref_built0
  have HO := Lib.hid (pref_one false nought 0)
  rw [← hzc] at HB0 HO
  clear hzs hzc
  have HF := Lib.hid hf
  clear hf
  obtain ⟨M, hM⟩ : ∃ M, maskV s f z = M := ⟨_, rfl⟩
  obtain ⟨E, hE⟩ : ∃ E, maskE s f z = E := ⟨_, rfl⟩
  rw [hM, hE]
  have HM := Lib.hid hM
  have HE := Lib.hid hE
  clear hM hE
  obtain ⟨L, hL⟩ : ∃ L, prefL s f z = L := ⟨_, rfl⟩
  rw [hL]
  have HL := Lib.hid hL
  clear hL
  go_enter Try.func34, Try.ntmps34
  go_upto_region 1 with fail
  refine cut_world (fun X => MaskW w w.heap.size L zs X) ⟨(Whole.new _ _ _).alloc _, whole_new _ _ (by simp), below_alloc (below_alloc (Below.refl _ _) _) _⟩ ?_
  intro W hW
  generalize hB : w.heap.size = B at hW ⊢
  have HB := Lib.hid hB
  clear hB
  have HA := Lib.hid (addrL_length s f)
  have HR := Lib.hid (pref_range (HL.out ▸ hW.arg))
  have HW := Lib.hid hW
  clear hW
  obtain ⟨A, hA⟩ : ∃ A, addrL s f = A := ⟨_, rfl⟩
  have C1 := Lib.hid (right_any s f HF.out W)
  rw [hA] at C1 HR HA
  have HAe := Lib.hid hA
  clear hA
  go_wp2_with (refine wpList_load_mid rfl 27 (.tmp 6) rfl B 0 rfl A _ HR.out rfl rfl (by rw [HA.out]; kernel_rfl) ?_)
  refine C1.out.mono ?_
  rintro e w1 ⟨rfl, hb1⟩
  have HW1 := Lib.hid (HW.out.below hb1)
  clear hb1 HR HW C1
  rw [hr]
  have hc17 : ∀ X : World, MaskW w B L zs X → X.cell? ⟨B, 17, none⟩ = some (.int .i64 z) := fun X hX => by rw [hX.arg.cell, ← HL.out, List.getElem?_toArray, pref_bits]
  have HRX := Lib.hid (fun (X : World) (hX : MaskW w B L zs X) => (show X.rangeAt B 0 A from HAe.out ▸ pref_range (HL.out ▸ hX.arg)))
  have C2 := Lib.hid (fun (X : World) => (show Calls Try.prog 49 #[.agg A.toArray] X _ from HAe.out ▸ digits_any s f X))
  have H17 := Lib.hid hc17
  clear hc17
  go_upto_region 3 with fail
  have d1 : decide (z < 0) = false := decide_eq_false (by omega)
  have d2 : decide (digitsI s < z) = false := decide_eq_false (by omega)
  refine q_start (by kernel_rfl) (by kernel_rfl) ?_
  refine q_take _ (by rfl) (fun x hx => by go_simp; try with_reducible rfl) ?_
  try simp only [Act.put, List.setIfInBounds_toArray, List.set_cons_zero, List.set_cons_succ]
  refine q_take (.int .i64 z) (by rfl) (fun x hx => by have h17 := H17.out x (HW1.out.below hx); go_simp; try with_reducible rfl) ?_
  try simp only [Act.put, List.setIfInBounds_toArray, List.set_cons_zero, List.set_cons_succ]
  refine q_take (.bool false) (by rfl) (fun x hx => by go_simp; try with_reducible rfl) ?_
  try simp only [Act.put, List.setIfInBounds_toArray, List.set_cons_zero, List.set_cons_succ]
  refine q_take _ (by rfl) (fun x hx => by go_simp; try with_reducible rfl) ?_
  try simp only [Act.put, List.setIfInBounds_toArray, List.set_cons_zero, List.set_cons_succ]
  refine q_take _ (by rfl) (fun x hx => by go_simp; try with_reducible rfl) ?_
  try simp only [Act.put, List.setIfInBounds_toArray, List.set_cons_zero, List.set_cons_succ]
  refine q_take (.int .i64 z) (by rfl) (fun x hx => by have h17 := H17.out x (HW1.out.below hx); go_simp; try with_reducible rfl) ?_
  try simp only [Act.put, List.setIfInBounds_toArray, List.set_cons_zero, List.set_cons_succ]
  refine q_take _ (by rfl) (fun x hx => by go_simp; try with_reducible rfl) ?_
  try simp only [Act.put, List.setIfInBounds_toArray, List.set_cons_zero, List.set_cons_succ]
  refine q_take (.agg A.toArray) (by rfl) (fun x hx => run_mid_in 27 (.tmp 17) rfl B 0 rfl A _ (HRX.out x (HW1.out.below hx)) rfl rfl (by rw [HA.out]; kernel_rfl)) ?_
  try simp only [Act.put, List.setIfInBounds_toArray, List.set_cons_zero, List.set_cons_succ]
  refine q_call (.int .i64 (digitsI s)) 49 #[.agg A.toArray] (by rfl) (by intro w; go_simp; try with_reducible rfl) (fun x hx => (C2.out x).mono (fun e w' ⟨h1, h2⟩ => ⟨h1, below_trans hx h2⟩)) ?_
  try simp only [Act.put, List.setIfInBounds_toArray, List.set_cons_zero, List.set_cons_succ]
  refine q_take (.bool false) (by rfl) (fun x hx => by go_simp; try with_reducible rfl) ?_
  try simp only [Act.put, List.setIfInBounds_toArray, List.set_cons_zero, List.set_cons_succ]
  refine q_take (.bool false) (by rfl) (fun x hx => by go_simp; try with_reducible rfl) ?_
  try simp only [Act.put, List.setIfInBounds_toArray, List.set_cons_zero, List.set_cons_succ]
  refine wpQuiet_nil ?_
  intro w2 hb2
  have HW2 := Lib.hid (HW1.out.below hb2)
  clear HW1 hb2
  have hzd : z ≤ 128 := by
    have : digitsI s ≤ 128 := by unfold digitsI; split <;> omega
    omega
  clear HRX C2 H17 HA HAe
  go_upto_region 5 with fail
  go_wp2_with fail
  go_loopw [4, 5, 23] (fun _ _ i X => ∃ k : Nat, k ≤ 16 ∧ i = .int .i64 k ∧ MaskW w B (prefL s (upM z f k) z) zs X) (fun _ _ i _ => 16 - (intOf i).toNat)
  case atStart => exact ⟨0, Nat.zero_le _, rfl, by rw [upM_zero, HL.out]; exact HW2.out⟩
  case round =>
    obtain ⟨k, hk, rfl, hX⟩ := hrel
    have HX := Lib.hid hX
    clear hX
    by_cases hlt : k < 16
    · have c17 : wr.cell? ⟨B, 17, none⟩ = some (.int .i64 z) := by rw [HX.out.arg.cell, List.getElem?_toArray, pref_bits]
      have hkb : wr.cell? ⟨B, 1 + k, none⟩ = some (.int .u8 (f k : Nat)) := by
        rw [HX.out.arg.cell, List.getElem?_toArray, pref_byte _ _ _ k hlt]
        unfold upM
        rw [if_neg (by omega)]
      have hfr := HX.out.arg.free (1 + k)
      obtain ⟨q, hq, hq8⟩ : ∃ q : Nat, keptN z k = q ∧ q ≤ 8 := ⟨_, rfl, keptN_le z k⟩
      have hmin : min (max (z - 8 * (k : Int)) 0) 8 = (q : Int) := by rw [← hq]; unfold keptN; omega
      have hk2 : IntKind.i64.wrap ((k : Int) + 1) = (k : Int) + 1 := by rw [IntKind.wrap_i64]; omega
      obtain ⟨m, hm, hm8⟩ : ∃ m : Nat, 8 - q = m ∧ m ≤ 8 := ⟨_, rfl, by omega⟩
      have hw8 : IntKind.i64.wrap (8 - (q : Int)) = (m : Int) := by rw [IntKind.wrap_i64]; omega
      obtain ⟨y, hy⟩ : ∃ y : Nat, 255 * 2 ^ m % 256 = y := ⟨_, rfl⟩
      have hsh : IntKind.u8.wrap ((255 : Int) * 2 ^ m) = (y : Int) := by rw [shl_255 m (by omega), hy]
      have hand := and_top m (by omega) (f k) (HF.out k)
      rw [hy, show 8 - m = q from by omega, ← hq] at hand
      have HQ := Lib.hid hq
      clear hq hm hy
      have hif : (if (8 : Int) < if z - 8 * (k : Int) < 0 then 0 else z - 8 * (k : Int) then 8 else if z - 8 * (k : Int) < 0 then 0 else z - 8 * (k : Int)) = (q : Int) := by
        rw [← HQ.out]; unfold keptN; split <;> split <;> omega
      go_upto_region 9 with fail
      refine wp_region_still_tail 12 (by kernel_rfl) (by kernel_rfl) ?_
      simp only [List.take_succ_cons, List.take_zero, List.drop_succ_cons, List.drop_zero]
      repeat still_step
      refine wpStill_nil ?_
      change wpList _ _ _ _ _ wr.drew
      go_upto_region 10 with fail
      have HY := Lib.hid (show MaskW w B (prefL s (upM z f (k + 1)) z) zs (wr.setCell ⟨B, 1 + k, none⟩ (.int .u8 (maskF z f k : Nat))).drew from by
        have h := HX.out.arg.put (1 + k) (.int .u8 (maskF z f k : Nat))
        rw [pref_set s (upM z f k) z k _ hlt, upM_succ] at h
        exact ⟨h.drew, (HX.out.res.far (by simp) _).drew, ((HX.out.bel.setCell (Nat.le_refl _) _)).drew⟩)
      refine cut_world (fun X => MaskW w B (prefL s (upM z f (k + 1)) z) zs X) HY.out ?_
      clear hand HX HY HQ hw8 hsh hif hkb hfr
      rintro W2 hW2
      have HW3 := Lib.hid hW2
      clear hW2
      go_wp2_with fail
      exact ⟨⟨k + 1, by omega, by simp, HW3.out⟩, by simp [intOf]; omega⟩
    · obtain rfl : k = 16 := by omega
      go_wp2_with (first | (refine wpList_load_row rfl 29 (.tmp 1) rfl B rfl 29 (prefL s (upM z f 16) z).toArray (0, 0) _ HX.out.arg rfl rfl (by rw [pref_size]; kernel_rfl) ?_) | (refine wpList_store_row rfl 29 (.tmp 2) (.tmp 46) rfl (B + 1) (prefL s (upM z f 16) z).toArray rfl rfl 29 _ HX.out.res (by rw [pref_size]; kernel_rfl) (by rw [pref_size, HZS.out]) (pref_one _ _ _) ?_))
      have hret : Whole (wr.setRow (B + 1) (prefL s (upM z f 16) z).toArray) (B + 1) 29 (prefL s (upM z f 16) z).toArray := setRow_heap _ _ _ _ _ _ HX.out.res
      refine bodyPost_ret (Poly.results_cell_tmp rfl _ _ (B + 1) 29 _ _ rfl hret rfl rfl (by rw [prefL_length]; kernel_rfl)) rfl ?_
      refine ⟨?_, by rw [HB.out]; exact below_setRow HX.out.bel (Nat.le_succ _) _⟩
      rw [← HM.out, ← HE.out]
      have e1 : maskE s f z = 0 := by unfold maskE; rw [if_neg (by rw [hr]; decide), if_neg (by omega)]
      unfold maskV mS mF mZ
      rw [e1, if_pos rfl, if_pos rfl, if_pos rfl, pref_congr (f := upM z f 16) (g := maskF z f) (fun i hi => by unfold upM; rw [if_pos hi])]
      rfl

theorem mask_any (s : Bool) (f : Nat → Nat) (hf : ∀ i, f i < 256) (z : Int) (hz0 : -9223372036854775808 ≤ z) (hz1 : z ≤ 9223372036854775807) (w : World) :
    Calls Try.prog 34 #[.agg (prefL s f z).toArray] w fun e w' => e = .returned (.tuple #[maskV s f z, .int .i64 (maskE s f z : Nat)]) ∧ Below w.heap.size w w' := by
  cases hr : rightB s f
  · exact mask_addr s f hf z hr w
  · by_cases h0 : z < 0
    · exact mask_neg s f hf z hr h0 w
    · by_cases h1 : digitsI s < z
      · exact mask_far s f hf z hr (by omega) h1 w
      · exact mask_ok s f hf z hz0 hz1 hr (by omega) (by omega) w

end Adr
end Go.Proofs.Ytcpfchfhcfdcpaa
