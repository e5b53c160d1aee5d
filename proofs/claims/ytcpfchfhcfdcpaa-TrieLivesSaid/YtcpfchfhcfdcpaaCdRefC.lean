/- The document's own Mask. -/
import Derived.Test.YtcpfchfhcfdcpaaCdRefB
namespace Go.Proofs.Ytcpfchfhcfdcpaa
namespace Tri
open Go.ChangeShapes Go.WideShapes Go.ChangeAt Go.RowKit
open Num Mem Words Chacha Aead Poly Quiet Ops Adr RowS

theorem top_add : ∀ r, r < 8 → ∀ x, x < 256 → (x / 2 ^ (7 - r) % 2 = 1 → topB r x + 128 / 2 ^ r = topB (r + 1) x) ∧ (x / 2 ^ (7 - r) % 2 = 0 → topB r x = topB (r + 1) x) := by decide +kernel
theorem shr_128 : ∀ m, m < 8 → ((128 / 2 ^ m : Nat) : Int) = (128 : Int) / 2 ^ m := by decide +kernel
theorem maskF_add {f : Nat → Nat} (hf : ∀ i, f i < 256) (k : Nat) : (f (k / 8) / 2 ^ (7 - k % 8) % 2 = 1 → maskF (k : Int) f (k / 8) + 128 / 2 ^ (k % 8) = maskF ((k + 1 : Nat) : Int) f (k / 8)) ∧ (f (k / 8) / 2 ^ (7 - k % 8) % 2 = 0 → maskF (k : Int) f (k / 8) = maskF ((k + 1 : Nat) : Int) f (k / 8)) := by
  unfold maskF
  rw [keptN_nat, keptN_nat, show min (k - 8 * (k / 8)) 8 = k % 8 by omega, show min (k + 1 - 8 * (k / 8)) 8 = k % 8 + 1 by omega]
  exact top_add _ (by omega) _ (hf _)
structure MkW (w : World) (B : Nat) (L : List Value) (Z : Array Value) (X : World) : Prop where
  arg : Whole X B 29 L.toArray
  res : Whole X (B + 1) 29 Z
  bel : Below B w X
theorem MkW.below {w : World} {B : Nat} {L : List Value} {Z : Array Value} {X Y : World} (h : MkW w B L Z X) (hb : Below X.heap.size X Y) : MkW w B L Z Y :=
  ⟨h.arg.below hb h.arg.lt, h.res.below hb h.res.lt, h.bel.trans (hb.mono (Nat.le_of_lt h.arg.lt))⟩
set_option maxRecDepth 100000 in
set_option maxHeartbeats 2000000 in
theorem rMask_addr (s : Bool) (f : Nat → Nat) (hf : ∀ i, f i < 256) (z : Int) (hr : rightB s f = false) (w : World) :
    Calls Try.prog 53 #[.agg (prefL s f z).toArray] w fun e w' => e = .returned (.tuple #[maskV s f z, .int .i64 (maskE s f z : Nat)]) ∧ Below w.heap.size w w' := by
  have HF := Lib.hid hf
  have HB0 := Lib.hid pref_built0
  have HO := Lib.hid (pref_one false nought 0)
  have hz : ∀ w, (zeroValue 29).run Try.prog w = .ok (.agg (prefL false nought 0).toArray) w := zero_pref
  have HZS := Lib.hid (show (prefL false nought 0).toArray.size = 18 from pref_size _ _ _)
  have HPR := Lib.hid (show ∀ X T, Whole X w.heap.size T (prefL s f z).toArray → X.rangeAt w.heap.size 0 (addrL s f) from fun X T h => pref_range h)
  have HC := Lib.hid (show ∀ X T, Whole X w.heap.size T (prefL s f z).toArray → X.cell? ⟨w.heap.size, 0, none⟩ = some (.bool s) ∧ X.cell? ⟨w.heap.size, 17, none⟩ = some (.int .i64 z) from fun X T h => ⟨by rw [h.cell, List.getElem?_toArray]; rfl, by rw [h.cell, List.getElem?_toArray]; exact pref_bits _ _ _⟩)
  have HRI := Lib.hid (fun X => rRight_any s f hf X)
  have HSI := Lib.hid (fun X => rSize_any s f X)
  have HA := Lib.hid (addrL_length s f)
  rw [hr] at HRI
  have HV := Lib.hid (show maskV s f z = .agg (prefL (mS s f z) (mF s f z) (mZ s f z)).toArray from rfl)
  obtain ⟨V, hV⟩ : ∃ V, maskV s f z = V := ⟨_, rfl⟩
  obtain ⟨E, hE⟩ : ∃ E, maskE s f z = E := ⟨_, rfl⟩
  rw [hV, hE]
  rw [hV] at HV
  have HE := Lib.hid hE
  obtain ⟨A, hA⟩ : ∃ L, addrL s f = L := ⟨_, rfl⟩
  have HAE := Lib.hid hA
  rw [hA] at HPR HRI HSI HA
  obtain ⟨L, hL⟩ : ∃ L, prefL s f z = L := ⟨_, rfl⟩
  have HLE := Lib.hid hL
  rw [hL] at HPR HC ⊢
  obtain ⟨Z, hZ⟩ : ∃ Z, (prefL false nought 0).toArray = Z := ⟨_, rfl⟩
  have HZE := Lib.hid hZ
  rw [hZ] at HB0 HO HZS hz
  clear hV hE hA hL hZ hf
  go_enter Try.func53, Try.ntmps53
  go_upto_region 1 with fail
  refine cut_world (fun X => MkW w w.heap.size L Z X) ⟨(Whole.new _ _ _).alloc _, whole_new _ _ (by simp), below_alloc (below_alloc (Below.refl _ _) _) _⟩ ?_
  intro W hW
  generalize hB : w.heap.size = B at hW HPR HC ⊢
  have HB := Lib.hid hB
  have HW := Lib.hid hW
  clear hB hW
  have HRG := Lib.hid (HPR.out _ _ HW.out.arg)
  go_upto_region 2 with (first
    | (refine wpList_load_mid rfl 27 (.tmp 6) rfl B 0 rfl A _ HRG.out rfl rfl (by rw [HA.out]; kernel_rfl) ?_)
    | (go_at_call 44; refine (HRI.out _).mono ?_; rintro e w1 ⟨rfl, hb1⟩; have HW1 := Lib.hid (HW.out.below hb1); clear hb1))
  go_wp2_with (first | (refine wpList_built0 rfl 29 rfl Z HB0.out ?_) | (refine wpList_store_row rfl 29 (.tmp 2) (.tmp 10) rfl (B + 1) Z rfl rfl 29 _ HW1.out.res (by rw [HZS.out]; kernel_rfl) rfl HO.out ?_))
  have hret : Whole (w1.setRow (B + 1) Z) (B + 1) 29 (prefL false nought 0).toArray := by
    rw [HZE.out]
    exact setRow_heap _ _ _ _ _ _ HW1.out.res
  refine bodyPost_ret (Poly.results_cell_tmp rfl _ _ (B + 1) 29 _ _ rfl hret rfl rfl (by rw [prefL_length]; kernel_rfl)) rfl ?_
  refine ⟨?_, by rw [HB.out]; exact below_setRow HW1.out.bel (Nat.le_succ _) _⟩
  have e1 : E = 40 := by rw [← HE.out]; unfold maskE; rw [if_pos hr]
  rw [HV.out, e1]
  rw [← HE.out] at e1
  unfold mS mF mZ
  rw [e1]
  rfl
set_option maxRecDepth 100000 in
set_option maxHeartbeats 2000000 in
theorem rMask_neg (s : Bool) (f : Nat → Nat) (hf : ∀ i, f i < 256) (z : Int) (hr : rightB s f = true) (hneg : z < 0) (w : World) :
    Calls Try.prog 53 #[.agg (prefL s f z).toArray] w fun e w' => e = .returned (.tuple #[maskV s f z, .int .i64 (maskE s f z : Nat)]) ∧ Below w.heap.size w w' := by
  have HF := Lib.hid hf
  have HB0 := Lib.hid pref_built0
  have HO := Lib.hid (pref_one false nought 0)
  have hz : ∀ w, (zeroValue 29).run Try.prog w = .ok (.agg (prefL false nought 0).toArray) w := zero_pref
  have HZS := Lib.hid (show (prefL false nought 0).toArray.size = 18 from pref_size _ _ _)
  have HPR := Lib.hid (show ∀ X T, Whole X w.heap.size T (prefL s f z).toArray → X.rangeAt w.heap.size 0 (addrL s f) from fun X T h => pref_range h)
  have HC := Lib.hid (show ∀ X T, Whole X w.heap.size T (prefL s f z).toArray → X.cell? ⟨w.heap.size, 0, none⟩ = some (.bool s) ∧ X.cell? ⟨w.heap.size, 17, none⟩ = some (.int .i64 z) from fun X T h => ⟨by rw [h.cell, List.getElem?_toArray]; rfl, by rw [h.cell, List.getElem?_toArray]; exact pref_bits _ _ _⟩)
  have HRI := Lib.hid (fun X => rRight_any s f hf X)
  have HSI := Lib.hid (fun X => rSize_any s f X)
  have HA := Lib.hid (addrL_length s f)
  rw [hr] at HRI
  have HV := Lib.hid (show maskV s f z = .agg (prefL (mS s f z) (mF s f z) (mZ s f z)).toArray from rfl)
  obtain ⟨V, hV⟩ : ∃ V, maskV s f z = V := ⟨_, rfl⟩
  obtain ⟨E, hE⟩ : ∃ E, maskE s f z = E := ⟨_, rfl⟩
  rw [hV, hE]
  rw [hV] at HV
  have HE := Lib.hid hE
  obtain ⟨A, hA⟩ : ∃ L, addrL s f = L := ⟨_, rfl⟩
  have HAE := Lib.hid hA
  rw [hA] at HPR HRI HSI HA
  obtain ⟨L, hL⟩ : ∃ L, prefL s f z = L := ⟨_, rfl⟩
  have HLE := Lib.hid hL
  rw [hL] at HPR HC ⊢
  obtain ⟨Z, hZ⟩ : ∃ Z, (prefL false nought 0).toArray = Z := ⟨_, rfl⟩
  have HZE := Lib.hid hZ
  rw [hZ] at HB0 HO HZS hz
  clear hV hE hA hL hZ hf
  go_enter Try.func53, Try.ntmps53
  go_upto_region 1 with fail
  refine cut_world (fun X => MkW w w.heap.size L Z X) ⟨(Whole.new _ _ _).alloc _, whole_new _ _ (by simp), below_alloc (below_alloc (Below.refl _ _) _) _⟩ ?_
  intro W hW
  generalize hB : w.heap.size = B at hW HPR HC ⊢
  have HB := Lib.hid hB
  have HW := Lib.hid hW
  clear hB hW
  have HRG := Lib.hid (HPR.out _ _ HW.out.arg)
  have HN := Lib.hid hneg
  have hd : decide (z < 0) = true := decide_eq_true hneg
  clear hneg
  go_upto_region 3 with (first
    | (refine wpList_load_mid rfl 27 (.tmp 6) rfl B 0 rfl A _ HRG.out rfl rfl (by rw [HA.out]; kernel_rfl) ?_)
    | (go_at_call 44; refine (HRI.out _).mono ?_; rintro e w1 ⟨rfl, hb1⟩; have HW1 := Lib.hid (HW.out.below hb1); clear hb1))
  have H17 := Lib.hid (show ∀ X, Below w1.heap.size w1 X → X.cell? ⟨B, 17, none⟩ = some (.int .i64 z) from fun X hx => (HC.out _ _ (HW1.out.below hx).arg).2)
  refine q_start (by kernel_rfl) (by kernel_rfl) ?_
  refine Ops.wq_in ?_
  refine Ops.wq_take _ (by rfl) (fun X hx => by go_simp; try with_reducible rfl) ?_
  try simp only [Act.put, List.setIfInBounds_toArray, List.set_cons_zero, List.set_cons_succ]
  refine Ops.wq_take _ (by rfl) (fun X hx => by have cl := H17.out X hx; go_simp; try with_reducible rfl) ?_
  try simp only [Act.put, List.setIfInBounds_toArray, List.set_cons_zero, List.set_cons_succ]
  refine Ops.wq_take (.bool true) (by rfl) (fun X hx => by go_simp; try with_reducible rfl) ?_
  try simp only [Act.put, List.setIfInBounds_toArray, List.set_cons_zero, List.set_cons_succ]
  refine Ops.wq_take _ (by rfl) (fun X hx => by go_simp; try with_reducible rfl) ?_
  try simp only [Act.put, List.setIfInBounds_toArray, List.set_cons_zero, List.set_cons_succ]
  refine Ops.wq_pass (by rfl) ?_
  try simp only [Act.put, List.setIfInBounds_toArray, List.set_cons_zero, List.set_cons_succ]
  refine Ops.wq_pass (by rfl) ?_
  try simp only [Act.put, List.setIfInBounds_toArray, List.set_cons_zero, List.set_cons_succ]
  refine Ops.wq_pass (by rfl) ?_
  try simp only [Act.put, List.setIfInBounds_toArray, List.set_cons_zero, List.set_cons_succ]
  refine Ops.wq_pass (by rfl) ?_
  try simp only [Act.put, List.setIfInBounds_toArray, List.set_cons_zero, List.set_cons_succ]
  refine Ops.wq_pass (by rfl) ?_
  try simp only [Act.put, List.setIfInBounds_toArray, List.set_cons_zero, List.set_cons_succ]
  refine Ops.wq_pass (by rfl) ?_
  try simp only [Act.put, List.setIfInBounds_toArray, List.set_cons_zero, List.set_cons_succ]
  refine Ops.wq_take (.bool true) (by rfl) (fun X hx => by go_simp; try with_reducible rfl) ?_
  try simp only [Act.put, List.setIfInBounds_toArray, List.set_cons_zero, List.set_cons_succ]
  refine Ops.wq_end ?_
  intro w2 hb2
  have HW2 := Lib.hid (HW1.out.below hb2)
  clear HW1 hb2
  have HW1 := HW2
  go_wp2_with (first | (refine wpList_built0 rfl 29 rfl Z HB0.out ?_) | (refine wpList_store_row rfl 29 (.tmp 2) (.tmp 22) rfl (B + 1) Z rfl rfl 29 _ HW2.out.res (by rw [HZS.out]; kernel_rfl) rfl HO.out ?_))
  have hret : Whole (w2.setRow (B + 1) Z) (B + 1) 29 (prefL false nought 0).toArray := by
    rw [HZE.out]
    exact setRow_heap _ _ _ _ _ _ HW1.out.res
  refine bodyPost_ret (Poly.results_cell_tmp rfl _ _ (B + 1) 29 _ _ rfl hret rfl rfl (by rw [prefL_length]; kernel_rfl)) rfl ?_
  refine ⟨?_, by rw [HB.out]; exact below_setRow HW1.out.bel (Nat.le_succ _) _⟩
  have e1 : E = 41 := by rw [← HE.out]; unfold maskE; rw [if_neg (by rw [hr]; decide), if_pos (.inl HN.out)]
  rw [HV.out, e1]
  rw [← HE.out] at e1
  unfold mS mF mZ
  rw [e1]
  rfl
set_option maxRecDepth 100000 in
set_option maxHeartbeats 2000000 in
theorem rMask_far (s : Bool) (f : Nat → Nat) (hf : ∀ i, f i < 256) (z : Int) (hr : rightB s f = true) (hneg : 0 ≤ z) (hfar : digitsI s < z) (w : World) :
    Calls Try.prog 53 #[.agg (prefL s f z).toArray] w fun e w' => e = .returned (.tuple #[maskV s f z, .int .i64 (maskE s f z : Nat)]) ∧ Below w.heap.size w w' := by
  have HF := Lib.hid hf
  have HB0 := Lib.hid pref_built0
  have HO := Lib.hid (pref_one false nought 0)
  have hz : ∀ w, (zeroValue 29).run Try.prog w = .ok (.agg (prefL false nought 0).toArray) w := zero_pref
  have HZS := Lib.hid (show (prefL false nought 0).toArray.size = 18 from pref_size _ _ _)
  have HPR := Lib.hid (show ∀ X T, Whole X w.heap.size T (prefL s f z).toArray → X.rangeAt w.heap.size 0 (addrL s f) from fun X T h => pref_range h)
  have HC := Lib.hid (show ∀ X T, Whole X w.heap.size T (prefL s f z).toArray → X.cell? ⟨w.heap.size, 0, none⟩ = some (.bool s) ∧ X.cell? ⟨w.heap.size, 17, none⟩ = some (.int .i64 z) from fun X T h => ⟨by rw [h.cell, List.getElem?_toArray]; rfl, by rw [h.cell, List.getElem?_toArray]; exact pref_bits _ _ _⟩)
  have HRI := Lib.hid (fun X => rRight_any s f hf X)
  have HSI := Lib.hid (fun X => rSize_any s f X)
  have HA := Lib.hid (addrL_length s f)
  rw [hr] at HRI
  have HV := Lib.hid (show maskV s f z = .agg (prefL (mS s f z) (mF s f z) (mZ s f z)).toArray from rfl)
  obtain ⟨V, hV⟩ : ∃ V, maskV s f z = V := ⟨_, rfl⟩
  obtain ⟨E, hE⟩ : ∃ E, maskE s f z = E := ⟨_, rfl⟩
  rw [hV, hE]
  rw [hV] at HV
  have HE := Lib.hid hE
  obtain ⟨A, hA⟩ : ∃ L, addrL s f = L := ⟨_, rfl⟩
  have HAE := Lib.hid hA
  rw [hA] at HPR HRI HSI HA
  obtain ⟨L, hL⟩ : ∃ L, prefL s f z = L := ⟨_, rfl⟩
  have HLE := Lib.hid hL
  rw [hL] at HPR HC ⊢
  obtain ⟨Z, hZ⟩ : ∃ Z, (prefL false nought 0).toArray = Z := ⟨_, rfl⟩
  have HZE := Lib.hid hZ
  rw [hZ] at HB0 HO HZS hz
  clear hV hE hA hL hZ hf
  go_enter Try.func53, Try.ntmps53
  go_upto_region 1 with fail
  refine cut_world (fun X => MkW w w.heap.size L Z X) ⟨(Whole.new _ _ _).alloc _, whole_new _ _ (by simp), below_alloc (below_alloc (Below.refl _ _) _) _⟩ ?_
  intro W hW
  generalize hB : w.heap.size = B at hW HPR HC ⊢
  have HB := Lib.hid hB
  have HW := Lib.hid hW
  clear hB hW
  have hd2 : decide (digitsI s < z) = true := decide_eq_true hfar
  have HRG := Lib.hid (HPR.out _ _ HW.out.arg)
  have hd : decide (z < 0) = false := decide_eq_false (by omega)
  go_upto_region 3 with (first
    | (refine wpList_load_mid rfl 27 (.tmp 6) rfl B 0 rfl A _ HRG.out rfl rfl (by rw [HA.out]; kernel_rfl) ?_)
    | (go_at_call 44; refine (HRI.out _).mono ?_; rintro e w1 ⟨rfl, hb1⟩; have HW1 := Lib.hid (HW.out.below hb1); clear hb1))
  have H17 := Lib.hid (show ∀ X, Below w1.heap.size w1 X → X.cell? ⟨B, 17, none⟩ = some (.int .i64 z) from fun X hx => (HC.out _ _ (HW1.out.below hx).arg).2)
  refine q_start (by kernel_rfl) (by kernel_rfl) ?_
  refine Ops.wq_in ?_
  refine Ops.wq_take _ (by rfl) (fun X hx => by go_simp; try with_reducible rfl) ?_
  try simp only [Act.put, List.setIfInBounds_toArray, List.set_cons_zero, List.set_cons_succ]
  refine Ops.wq_take _ (by rfl) (fun X hx => by have cl := H17.out X hx; go_simp; try with_reducible rfl) ?_
  try simp only [Act.put, List.setIfInBounds_toArray, List.set_cons_zero, List.set_cons_succ]
  refine Ops.wq_take (.bool false) (by rfl) (fun X hx => by go_simp; try with_reducible rfl) ?_
  try simp only [Act.put, List.setIfInBounds_toArray, List.set_cons_zero, List.set_cons_succ]
  refine Ops.wq_take _ (by rfl) (fun X hx => by go_simp; try with_reducible rfl) ?_
  try simp only [Act.put, List.setIfInBounds_toArray, List.set_cons_zero, List.set_cons_succ]
  refine Ops.wq_take _ (by rfl) (fun X hx => by go_simp; try with_reducible rfl) ?_
  try simp only [Act.put, List.setIfInBounds_toArray, List.set_cons_zero, List.set_cons_succ]
  refine Ops.wq_take _ (by rfl) (fun X hx => by have cl := H17.out X hx; go_simp; try with_reducible rfl) ?_
  try simp only [Act.put, List.setIfInBounds_toArray, List.set_cons_zero, List.set_cons_succ]
  refine Ops.wq_take _ (by rfl) (fun X hx => by go_simp; try with_reducible rfl) ?_
  try simp only [Act.put, List.setIfInBounds_toArray, List.set_cons_zero, List.set_cons_succ]
  refine Ops.wq_take (.agg A.toArray) (by rfl) (fun X hx => run_mid_in 27 (.tmp 17) rfl B 0 rfl A _ (HPR.out X _ (HW1.out.below hx).arg) rfl rfl (by rw [HA.out]; kernel_rfl)) ?_
  try simp only [Act.put, List.setIfInBounds_toArray, List.set_cons_zero, List.set_cons_succ]
  refine Ops.wq_call (.int .i64 (digitsI s)) 54 #[.agg A.toArray] (by rfl) (by intro w; go_simp; try with_reducible rfl) (fun X hx => (HSI.out X).mono (fun e w' ⟨h1, h2⟩ => ⟨h1, below_trans hx h2⟩)) ?_
  try simp only [Act.put, List.setIfInBounds_toArray, List.set_cons_zero, List.set_cons_succ]
  refine Ops.wq_take (.bool true) (by rfl) (fun X hx => by go_simp; try with_reducible rfl) ?_
  try simp only [Act.put, List.setIfInBounds_toArray, List.set_cons_zero, List.set_cons_succ]
  refine Ops.wq_take (.bool true) (by rfl) (fun X hx => by go_simp; try with_reducible rfl) ?_
  try simp only [Act.put, List.setIfInBounds_toArray, List.set_cons_zero, List.set_cons_succ]
  refine Ops.wq_end ?_
  intro w2 hb2
  have HW2 := Lib.hid (HW1.out.below hb2)
  clear HW1 hb2 HRG H17
  have HW1 := HW2
  go_wp2_with (first | (refine wpList_built0 rfl 29 rfl Z HB0.out ?_) | (refine wpList_store_row rfl 29 (.tmp 2) (.tmp 22) rfl (B + 1) Z rfl rfl 29 _ HW2.out.res (by rw [HZS.out]; kernel_rfl) rfl HO.out ?_))
  have hret : Whole (w2.setRow (B + 1) Z) (B + 1) 29 (prefL false nought 0).toArray := by
    rw [HZE.out]
    exact setRow_heap _ _ _ _ _ _ HW1.out.res
  refine bodyPost_ret (Poly.results_cell_tmp rfl _ _ (B + 1) 29 _ _ rfl hret rfl rfl (by rw [prefL_length]; kernel_rfl)) rfl ?_
  refine ⟨?_, by rw [HB.out]; exact below_setRow HW1.out.bel (Nat.le_succ _) _⟩
  have e1 : E = 41 := by rw [← HE.out]; unfold maskE; rw [if_neg (by rw [hr]; decide), if_pos (.inr hfar)]
  rw [HV.out, e1]
  rw [← HE.out] at e1
  unfold mS mF mZ
  rw [e1]
  rfl
end Tri
end Go.Proofs.Ytcpfchfhcfdcpaa
