/- The walk of WheelNobody. -/
import Derived.Test.YtgbahkkccpcadaaWhAlive
import Derived.Test.YtgbahkkccpcadaaSh
namespace Go.Proofs.Ytgbahkkccpcadaa
namespace WheelNobody
open Go.ChangeShapes Go.WideShapes Go.ChangeAt Go.RowKit Go.Maps
open Num Mem Words Chacha Aead Poly Quiet RowV RowS Ops EqLits Stamp Wh

structure St (w : World) (B : Nat) (c o k t : Int) (X : World) : Prop where
  q : Whole X B 34 #[.int .i64 c, .int .i64 o, .int .i64 k, .int .i64 t]
  z : Whole X (B + 1) 50 #[.int .i64 0, .map none, .pointer none]
  bel : Below w.heap.size w X
theorem St.below {w : World} {B : Nat} {c o k t : Int} {X Y : World} (h : St w B c o k t X) (hb : Below X.heap.size X Y) : St w B c o k t Y := ⟨h.q.below hb h.q.lt, h.z.below hb h.z.lt, below_trans h.bel hb⟩
theorem St.no {w : World} {B : Nat} {c o k t : Int} {X : World} (h : St w B c o k t X) : No X (.pointer (some ⟨B + 1, 0, none⟩)) := .inr ⟨B + 1, _, _, rfl, h.z⟩
theorem own1 {w : World} {B : Nat} {c o k t : Int} (X : World) (h : St w B c o k t X) : X.cell? ⟨B, 1, none⟩ = some (.int .i64 o) := h.q.cell 1
theorem own2 {w : World} {B : Nat} {c o k t : Int} (X : World) (h : St w B c o k t X) : X.cell? ⟨B, 2, none⟩ = some (.int .i64 k) := h.q.cell 2
theorem own3 {w : World} {B : Nat} {c o k t : Int} (X : World) (h : St w B c o k t X) : X.cell? ⟨B, 3, none⟩ = some (.int .i64 t) := h.q.cell 3
theorem nil_no (X : World) : No X (.pointer none) := .inl rfl
set_option maxRecDepth 100000 in
set_option maxHeartbeats 4000000 in
theorem walk0 (c o k t : Int) (w : World) : Calls Try.prog 4 #[.agg #[.int .i64 c, .int .i64 o, .int .i64 k, .int .i64 t]] w fun e w' => e = .returned (.bool true) ∧ Below w.heap.size w w' := by
  go_enter Try.func4, Try.ntmps4
  go_upto_region 3 with fail
  obtain ⟨B, hB⟩ : ∃ B, w.heap.size = B := ⟨_, rfl⟩
  refine cut_world (fun X => St w B c o k t X) ⟨(whole_new _ _ hB).alloc _, whole_new _ _ (by simp [hB]), below_alloc (below_alloc (Below.refl _ _) _) _⟩ ?_
  rw [hB]
  intro X hX
  have HX := Lib.hid hX
  have c1 : X.cell? ⟨B, 1, none⟩ = some (.int .i64 o) := hX.q.cell 1
  have c2 : X.cell? ⟨B, 2, none⟩ = some (.int .i64 k) := hX.q.cell 2
  have c3 : X.cell? ⟨B, 3, none⟩ = some (.int .i64 t) := hX.q.cell 3
  have HP : No X (.pointer none) := .inl rfl
  have HN := Lib.hid HP
  have HZ := Lib.hid hX.no
  clear hX hB HP
  obtain ⟨Z, hZ⟩ : ∃ Z, zeroT.toArray = Z := ⟨_, rfl⟩
  have HZS := Lib.hid (show Z.size = 3 by rw [← hZ]; rfl)
  have HPO := Lib.hid (show Z.all (·.oneCell') = true by rw [← hZ]; simp [zeroT, Value.oneCell'])
  have HX1 := Lib.hid (fun W => next_nil W)
  have HX2 := Lib.hid (fun W h => next_zero (B + 1) (.int .i64 0) (.map none) W h)
  rw [hZ] at HX1 HX2
  clear hZ
  go_wp2_with fail
  refine (advance_no _ t X HN.out).mono ?_
  rintro e Y ⟨rfl, rfl⟩
  go_wp2_with fail
  refine (advance_no _ t X HZ.out).mono ?_
  rintro e Y ⟨rfl, rfl⟩
  go_wp2_with fail
  refine (get_no _ o k X HN.out).mono ?_
  rintro e Y ⟨rfl, rfl⟩
  go_wp2_with fail
  refine (get_no _ o k X HZ.out).mono ?_
  rintro e Y ⟨rfl, rfl⟩
  go_wp2_with fail
  refine (HX1.out X).mono ?_
  rintro e X1 ⟨rfl, hb1⟩
  have H1 := Lib.hid (HX.out.below hb1)
  clear hb1 c1 c2 c3 HX HN HZ
  go_upto_region 8 with (refine wpList_store_row rfl 38 (.tmp 13) (.tmp 50) rfl X1.heap.size Z rfl rfl 38 _ (Whole.new _ _ _) (by rw [HZS.out]; kernel_rfl) (by rw [HZS.out]; rfl) HPO.out ?_)
  refine cut_world (fun X => St w B c o k t X) (H1.out.below (below_var X1 _ _ _)) ?_
  obtain ⟨p1, hp1⟩ : ∃ p, X1.heap.size = p := ⟨_, rfl⟩
  rw [hp1]
  clear H1 hp1
  clear X X1
  intro X1 h1
  have H1 := Lib.hid h1
  clear h1
  go_wp2_with fail
  refine (HX2.out X1 H1.out.z).mono ?_
  rintro e X2 ⟨rfl, hb1⟩
  have H2 := Lib.hid (H1.out.below hb1)
  clear hb1 H1
  go_upto_region 9 with (refine wpList_store_row rfl 38 (.tmp 15) (.tmp 54) rfl X2.heap.size Z rfl rfl 38 _ (Whole.new _ _ _) (by rw [HZS.out]; kernel_rfl) (by rw [HZS.out]; rfl) HPO.out ?_)
  obtain ⟨p2, hp2⟩ : ∃ p, X2.heap.size = p := ⟨_, rfl⟩
  refine cut_world (fun X => St w B c o k t X) (H2.out.below (below_var X2 _ _ _)) ?_
  rw [hp2]
  clear H2 hp2 HX1 HX2 HPO HZS
  clear X2 X1
  intro X3 h3
  refine region_class (C := fun X => St w B c o k t X) (by kernel_rfl) (by kernel_rfl) (h3.below (below_drewN (Below.refl _ _) 1)) ?_
  refine wq_in ?_
  refine wq_call (.bool true) 8 #[] (by rfl) (by intro w; go_simp; try with_reducible rfl) (fun X hx => (alive_ok X).mono (fun e w' k => ⟨k.1, hx.below k.2⟩)) ?_
  try simp only [Act.put, List.setIfInBounds_toArray, List.set_cons_zero, List.set_cons_succ]
  refine Ops.wq_take _ (by rfl) (fun X hx => by go_simp; try with_reducible rfl) ?_
  try simp only [Act.put, List.setIfInBounds_toArray, List.set_cons_zero, List.set_cons_succ]
  refine Ops.wq_take _ (by rfl) (fun X hx => by go_simp; try with_reducible rfl) ?_
  try simp only [Act.put, List.setIfInBounds_toArray, List.set_cons_zero, List.set_cons_succ]
  refine Ops.wq_take _ (by rfl) (fun X hx => by go_simp; try with_reducible rfl) ?_
  try simp only [Act.put, List.setIfInBounds_toArray, List.set_cons_zero, List.set_cons_succ]
  refine Ops.wq_take _ (by rfl) (fun X hx => by go_simp; try with_reducible rfl) ?_
  try simp only [Act.put, List.setIfInBounds_toArray, List.set_cons_zero, List.set_cons_succ]
  refine Ops.wq_take _ (by rfl) (fun X hx => by go_simp; try with_reducible rfl) ?_
  try simp only [Act.put, List.setIfInBounds_toArray, List.set_cons_zero, List.set_cons_succ]
  refine Ops.wq_take _ (by rfl) (fun X hx => by go_simp; try with_reducible rfl) ?_
  try simp only [Act.put, List.setIfInBounds_toArray, List.set_cons_zero, List.set_cons_succ]
  refine Ops.wq_take _ (by rfl) (fun X hx => by go_simp; try with_reducible rfl) ?_
  try simp only [Act.put, List.setIfInBounds_toArray, List.set_cons_zero, List.set_cons_succ]
  refine Ops.wq_take _ (by rfl) (fun X hx => by go_simp; try with_reducible rfl) ?_
  try simp only [Act.put, List.setIfInBounds_toArray, List.set_cons_zero, List.set_cons_succ]
  refine Ops.wq_take _ (by rfl) (fun X hx => by go_simp; try with_reducible rfl) ?_
  try simp only [Act.put, List.setIfInBounds_toArray, List.set_cons_zero, List.set_cons_succ]
  refine Ops.wq_take _ (by rfl) (fun X hx => by go_simp; try with_reducible rfl) ?_
  try simp only [Act.put, List.setIfInBounds_toArray, List.set_cons_zero, List.set_cons_succ]
  refine Ops.wq_take _ (by rfl) (fun X hx => by go_simp; try with_reducible rfl) ?_
  try simp only [Act.put, List.setIfInBounds_toArray, List.set_cons_zero, List.set_cons_succ]
  refine Ops.wq_take _ (by rfl) (fun X hx => by go_simp; try with_reducible rfl) ?_
  try simp only [Act.put, List.setIfInBounds_toArray, List.set_cons_zero, List.set_cons_succ]
  refine Ops.wq_take _ (by rfl) (fun X hx => by go_simp; try with_reducible rfl) ?_
  try simp only [Act.put, List.setIfInBounds_toArray, List.set_cons_zero, List.set_cons_succ]
  refine Ops.wq_take _ (by rfl) (fun X hx => by go_simp; try with_reducible rfl) ?_
  try simp only [Act.put, List.setIfInBounds_toArray, List.set_cons_zero, List.set_cons_succ]
  refine Ops.wq_take _ (by rfl) (fun X hx => by go_simp; try with_reducible rfl) ?_
  try simp only [Act.put, List.setIfInBounds_toArray, List.set_cons_zero, List.set_cons_succ]
  refine Ops.wq_take _ (by rfl) (fun X hx => by go_simp; try with_reducible rfl) ?_
  try simp only [Act.put, List.setIfInBounds_toArray, List.set_cons_zero, List.set_cons_succ]
  refine Ops.wq_take _ (by rfl) (fun X hx => by go_simp; try with_reducible rfl) ?_
  try simp only [Act.put, List.setIfInBounds_toArray, List.set_cons_zero, List.set_cons_succ]
  refine Ops.wq_take _ (by rfl) (fun X hx => by go_simp; try with_reducible rfl) ?_
  try simp only [Act.put, List.setIfInBounds_toArray, List.set_cons_zero, List.set_cons_succ]
  refine Ops.wq_take _ (by rfl) (fun X hx => by go_simp; try with_reducible rfl) ?_
  try simp only [Act.put, List.setIfInBounds_toArray, List.set_cons_zero, List.set_cons_succ]
  refine Ops.wq_take _ (by rfl) (fun X hx => by go_simp; try with_reducible rfl) ?_
  try simp only [Act.put, List.setIfInBounds_toArray, List.set_cons_zero, List.set_cons_succ]
  refine Ops.wq_take _ (by rfl) (fun X hx => by go_simp; try with_reducible rfl) ?_
  try simp only [Act.put, List.setIfInBounds_toArray, List.set_cons_zero, List.set_cons_succ]
  refine Ops.wq_take _ (by rfl) (fun X hx => by go_simp; try with_reducible rfl) ?_
  try simp only [Act.put, List.setIfInBounds_toArray, List.set_cons_zero, List.set_cons_succ]
  refine Ops.wq_take _ (by rfl) (fun X hx => by go_simp; try with_reducible rfl) ?_
  try simp only [Act.put, List.setIfInBounds_toArray, List.set_cons_zero, List.set_cons_succ]
  refine Ops.wq_take _ (by rfl) (fun X hx => by go_simp; try with_reducible rfl) ?_
  try simp only [Act.put, List.setIfInBounds_toArray, List.set_cons_zero, List.set_cons_succ]
  refine Ops.wq_take _ (by rfl) (fun X hx => by go_simp; try with_reducible rfl) ?_
  try simp only [Act.put, List.setIfInBounds_toArray, List.set_cons_zero, List.set_cons_succ]
  refine Ops.wq_take _ (by rfl) (fun X hx => by go_simp; try with_reducible rfl) ?_
  try simp only [Act.put, List.setIfInBounds_toArray, List.set_cons_zero, List.set_cons_succ]
  refine Ops.wq_take _ (by rfl) (fun X hx => by go_simp; try with_reducible rfl) ?_
  try simp only [Act.put, List.setIfInBounds_toArray, List.set_cons_zero, List.set_cons_succ]
  refine Ops.wq_take _ (by rfl) (fun X hx => by have cl := own1 X hx; go_simp; try with_reducible rfl) ?_
  try simp only [Act.put, List.setIfInBounds_toArray, List.set_cons_zero, List.set_cons_succ]
  refine Ops.wq_take _ (by rfl) (fun X hx => by go_simp; try with_reducible rfl) ?_
  try simp only [Act.put, List.setIfInBounds_toArray, List.set_cons_zero, List.set_cons_succ]
  refine Ops.wq_take _ (by rfl) (fun X hx => by have cl := own2 X hx; go_simp; try with_reducible rfl) ?_
  try simp only [Act.put, List.setIfInBounds_toArray, List.set_cons_zero, List.set_cons_succ]
  refine Ops.wq_take _ (by rfl) (fun X hx => by go_simp; try with_reducible rfl) ?_
  try simp only [Act.put, List.setIfInBounds_toArray, List.set_cons_zero, List.set_cons_succ]
  refine Ops.wq_take _ (by rfl) (fun X hx => by have cl := own3 X hx; go_simp; try with_reducible rfl) ?_
  try simp only [Act.put, List.setIfInBounds_toArray, List.set_cons_zero, List.set_cons_succ]
  refine wq_call (.int .i64 6) 17 #[.pointer none, .int .i64 o, .int .i64 k, .int .i64 t] (by rfl) (by intro w; go_simp; try with_reducible rfl) (fun X hx => (set_no _ o k t X (nil_no X)).mono (fun e w' h => ⟨h.1, h.2 ▸ hx⟩)) ?_
  try simp only [Act.put, List.setIfInBounds_toArray, List.set_cons_zero, List.set_cons_succ]
  refine Ops.wq_take _ (by rfl) (fun X hx => by go_simp; try with_reducible rfl) ?_
  try simp only [Act.put, List.setIfInBounds_toArray, List.set_cons_zero, List.set_cons_succ]
  refine Ops.wq_take _ (by rfl) (fun X hx => by go_simp; try with_reducible rfl) ?_
  try simp only [Act.put, List.setIfInBounds_toArray, List.set_cons_zero, List.set_cons_succ]
  refine Ops.wq_take _ (by rfl) (fun X hx => by go_simp; try with_reducible rfl) ?_
  try simp only [Act.put, List.setIfInBounds_toArray, List.set_cons_zero, List.set_cons_succ]
  refine Ops.wq_take _ (by rfl) (fun X hx => by go_simp; try with_reducible rfl) ?_
  try simp only [Act.put, List.setIfInBounds_toArray, List.set_cons_zero, List.set_cons_succ]
  refine Ops.wq_take _ (by rfl) (fun X hx => by have cl := own1 X hx; go_simp; try with_reducible rfl) ?_
  try simp only [Act.put, List.setIfInBounds_toArray, List.set_cons_zero, List.set_cons_succ]
  refine Ops.wq_take _ (by rfl) (fun X hx => by go_simp; try with_reducible rfl) ?_
  try simp only [Act.put, List.setIfInBounds_toArray, List.set_cons_zero, List.set_cons_succ]
  refine Ops.wq_take _ (by rfl) (fun X hx => by have cl := own2 X hx; go_simp; try with_reducible rfl) ?_
  try simp only [Act.put, List.setIfInBounds_toArray, List.set_cons_zero, List.set_cons_succ]
  refine Ops.wq_take _ (by rfl) (fun X hx => by go_simp; try with_reducible rfl) ?_
  try simp only [Act.put, List.setIfInBounds_toArray, List.set_cons_zero, List.set_cons_succ]
  refine Ops.wq_take _ (by rfl) (fun X hx => by have cl := own3 X hx; go_simp; try with_reducible rfl) ?_
  try simp only [Act.put, List.setIfInBounds_toArray, List.set_cons_zero, List.set_cons_succ]
  refine wq_call (.int .i64 6) 17 #[.pointer (some ⟨B + 1, 0, none⟩), .int .i64 o, .int .i64 k, .int .i64 t] (by rfl) (by intro w; go_simp; try with_reducible rfl) (fun X hx => (set_no _ o k t X hx.no).mono (fun e w' h => ⟨h.1, h.2 ▸ hx⟩)) ?_
  try simp only [Act.put, List.setIfInBounds_toArray, List.set_cons_zero, List.set_cons_succ]
  refine Ops.wq_take _ (by rfl) (fun X hx => by go_simp; try with_reducible rfl) ?_
  try simp only [Act.put, List.setIfInBounds_toArray, List.set_cons_zero, List.set_cons_succ]
  refine Ops.wq_take _ (by rfl) (fun X hx => by go_simp; try with_reducible rfl) ?_
  try simp only [Act.put, List.setIfInBounds_toArray, List.set_cons_zero, List.set_cons_succ]
  refine Ops.wq_take _ (by rfl) (fun X hx => by go_simp; try with_reducible rfl) ?_
  try simp only [Act.put, List.setIfInBounds_toArray, List.set_cons_zero, List.set_cons_succ]
  refine Ops.wq_take _ (by rfl) (fun X hx => by go_simp; try with_reducible rfl) ?_
  try simp only [Act.put, List.setIfInBounds_toArray, List.set_cons_zero, List.set_cons_succ]
  refine Ops.wq_take _ (by rfl) (fun X hx => by go_simp; try with_reducible rfl) ?_
  try simp only [Act.put, List.setIfInBounds_toArray, List.set_cons_zero, List.set_cons_succ]
  refine Ops.wq_take _ (by rfl) (fun X hx => by have cl := own1 X hx; go_simp; try with_reducible rfl) ?_
  try simp only [Act.put, List.setIfInBounds_toArray, List.set_cons_zero, List.set_cons_succ]
  refine Ops.wq_take _ (by rfl) (fun X hx => by go_simp; try with_reducible rfl) ?_
  try simp only [Act.put, List.setIfInBounds_toArray, List.set_cons_zero, List.set_cons_succ]
  refine Ops.wq_take _ (by rfl) (fun X hx => by have cl := own2 X hx; go_simp; try with_reducible rfl) ?_
  try simp only [Act.put, List.setIfInBounds_toArray, List.set_cons_zero, List.set_cons_succ]
  refine wq_call (.bool false) 18 #[.pointer none, .int .i64 o, .int .i64 k] (by rfl) (by intro w; go_simp; try with_reducible rfl) (fun X hx => (clear_no _ o k X (nil_no X)).mono (fun e w' h => ⟨h.1, h.2 ▸ hx⟩)) ?_
  try simp only [Act.put, List.setIfInBounds_toArray, List.set_cons_zero, List.set_cons_succ]
  refine Ops.wq_take _ (by rfl) (fun X hx => by go_simp; try with_reducible rfl) ?_
  try simp only [Act.put, List.setIfInBounds_toArray, List.set_cons_zero, List.set_cons_succ]
  refine Ops.wq_take _ (by rfl) (fun X hx => by go_simp; try with_reducible rfl) ?_
  try simp only [Act.put, List.setIfInBounds_toArray, List.set_cons_zero, List.set_cons_succ]
  refine Ops.wq_take _ (by rfl) (fun X hx => by go_simp; try with_reducible rfl) ?_
  try simp only [Act.put, List.setIfInBounds_toArray, List.set_cons_zero, List.set_cons_succ]
  refine Ops.wq_take _ (by rfl) (fun X hx => by go_simp; try with_reducible rfl) ?_
  try simp only [Act.put, List.setIfInBounds_toArray, List.set_cons_zero, List.set_cons_succ]
  refine Ops.wq_take _ (by rfl) (fun X hx => by go_simp; try with_reducible rfl) ?_
  try simp only [Act.put, List.setIfInBounds_toArray, List.set_cons_zero, List.set_cons_succ]
  refine Ops.wq_take _ (by rfl) (fun X hx => by have cl := own1 X hx; go_simp; try with_reducible rfl) ?_
  try simp only [Act.put, List.setIfInBounds_toArray, List.set_cons_zero, List.set_cons_succ]
  refine wq_call (.int .i64 0) 19 #[.pointer none, .int .i64 o] (by rfl) (by intro w; go_simp; try with_reducible rfl) (fun X hx => (clearAll_no _ o X (nil_no X)).mono (fun e w' h => ⟨h.1, h.2 ▸ hx⟩)) ?_
  try simp only [Act.put, List.setIfInBounds_toArray, List.set_cons_zero, List.set_cons_succ]
  refine Ops.wq_take _ (by rfl) (fun X hx => by go_simp; try with_reducible rfl) ?_
  try simp only [Act.put, List.setIfInBounds_toArray, List.set_cons_zero, List.set_cons_succ]
  refine Ops.wq_take _ (by rfl) (fun X hx => by have cl := own1 X hx; go_simp; try with_reducible rfl) ?_
  try simp only [Act.put, List.setIfInBounds_toArray, List.set_cons_zero, List.set_cons_succ]
  refine wq_call (.int .i64 0) 19 #[.pointer (some ⟨B + 1, 0, none⟩), .int .i64 o] (by rfl) (by intro w; go_simp; try with_reducible rfl) (fun X hx => (clearAll_no _ o X hx.no).mono (fun e w' h => ⟨h.1, h.2 ▸ hx⟩)) ?_
  try simp only [Act.put, List.setIfInBounds_toArray, List.set_cons_zero, List.set_cons_succ]
  refine Ops.wq_take _ (by rfl) (fun X hx => by go_simp; try with_reducible rfl) ?_
  try simp only [Act.put, List.setIfInBounds_toArray, List.set_cons_zero, List.set_cons_succ]
  refine Ops.wq_take _ (by rfl) (fun X hx => by go_simp; try with_reducible rfl) ?_
  try simp only [Act.put, List.setIfInBounds_toArray, List.set_cons_zero, List.set_cons_succ]
  refine wq_call (.int .i64 0) 13 #[.pointer none] (by rfl) (by intro w; go_simp; try with_reducible rfl) (fun X hx => (count_no _ X (nil_no X)).mono (fun e w' h => ⟨h.1, h.2 ▸ hx⟩)) ?_
  try simp only [Act.put, List.setIfInBounds_toArray, List.set_cons_zero, List.set_cons_succ]
  refine Ops.wq_take _ (by rfl) (fun X hx => by go_simp; try with_reducible rfl) ?_
  try simp only [Act.put, List.setIfInBounds_toArray, List.set_cons_zero, List.set_cons_succ]
  refine wq_call (.int .i64 0) 13 #[.pointer (some ⟨B + 1, 0, none⟩)] (by rfl) (by intro w; go_simp; try with_reducible rfl) (fun X hx => (count_no _ X hx.no).mono (fun e w' h => ⟨h.1, h.2 ▸ hx⟩)) ?_
  try simp only [Act.put, List.setIfInBounds_toArray, List.set_cons_zero, List.set_cons_succ]
  refine Ops.wq_take _ (by rfl) (fun X hx => by go_simp; try with_reducible rfl) ?_
  try simp only [Act.put, List.setIfInBounds_toArray, List.set_cons_zero, List.set_cons_succ]
  refine Ops.wq_take _ (by rfl) (fun X hx => by go_simp; try with_reducible rfl) ?_
  try simp only [Act.put, List.setIfInBounds_toArray, List.set_cons_zero, List.set_cons_succ]
  refine Ops.wq_take _ (by rfl) (fun X hx => by go_simp; try with_reducible rfl) ?_
  try simp only [Act.put, List.setIfInBounds_toArray, List.set_cons_zero, List.set_cons_succ]
  refine Ops.wq_take _ (by rfl) (fun X hx => by go_simp; try with_reducible rfl) ?_
  try simp only [Act.put, List.setIfInBounds_toArray, List.set_cons_zero, List.set_cons_succ]
  refine Ops.wq_take _ (by rfl) (fun X hx => by go_simp; try with_reducible rfl) ?_
  try simp only [Act.put, List.setIfInBounds_toArray, List.set_cons_zero, List.set_cons_succ]
  refine wq_call (.int .i64 0) 14 #[.pointer none] (by rfl) (by intro w; go_simp; try with_reducible rfl) (fun X hx => (now_no _ X (nil_no X)).mono (fun e w' h => ⟨h.1, h.2 ▸ hx⟩)) ?_
  try simp only [Act.put, List.setIfInBounds_toArray, List.set_cons_zero, List.set_cons_succ]
  refine wq_call (.int .i64 0) 14 #[.pointer (some ⟨B + 1, 0, none⟩)] (by rfl) (by intro w; go_simp; try with_reducible rfl) (fun X hx => (now_no _ X hx.no).mono (fun e w' h => ⟨h.1, h.2 ▸ hx⟩)) ?_
  try simp only [Act.put, List.setIfInBounds_toArray, List.set_cons_zero, List.set_cons_succ]
  refine Ops.wq_take _ (by rfl) (fun X hx => by go_simp; try with_reducible rfl) ?_
  try simp only [Act.put, List.setIfInBounds_toArray, List.set_cons_zero, List.set_cons_succ]
  refine Ops.wq_take _ (by rfl) (fun X hx => by go_simp; try with_reducible rfl) ?_
  try simp only [Act.put, List.setIfInBounds_toArray, List.set_cons_zero, List.set_cons_succ]
  refine Ops.wq_take _ (by rfl) (fun X hx => by go_simp; try with_reducible rfl) ?_
  try simp only [Act.put, List.setIfInBounds_toArray, List.set_cons_zero, List.set_cons_succ]
  refine Ops.wq_take _ (by rfl) (fun X hx => by go_simp; try with_reducible rfl) ?_
  try simp only [Act.put, List.setIfInBounds_toArray, List.set_cons_zero, List.set_cons_succ]
  refine wq_end ?_
  intro X hX
  have HX := Lib.hid hX
  clear hX h3
  have hw0 : IntKind.i64.wrap 0 = 0 := by decide
  simp only [hw0]
  go_wp2_with fail
  go_ret
  exact ⟨rfl, HX.out.bel⟩

theorem walk (cs : List Value) (w : World) (hl : cs.length = 4) (h : Shp.Good w (.cons (.int .i64) (.cons (.int .i64) (.cons (.int .i64) (.cons (.int .i64) .nil)))) cs) : Calls Try.prog 4 #[.agg cs.toArray] w fun e w' => e = .returned (.bool true) ∧ Below w.heap.size w w' := by
  obtain ⟨v0, r0, rfl, ⟨c, e0, hc⟩, h, hl⟩ := Shp.good_cons1 h rfl hl
  obtain ⟨v1, r1, rfl, ⟨o, e1, ho⟩, h, hl⟩ := Shp.good_cons1 h rfl hl
  obtain ⟨v2, r2, rfl, ⟨k, e2, hk⟩, h, hl⟩ := Shp.good_cons1 h rfl hl
  obtain ⟨v3, r3, rfl, ⟨t, e3, ht⟩, h, hl⟩ := Shp.good_cons1 h rfl hl
  obtain rfl := Shp.good_nil hl
  injection e0 with e0
  injection e1 with e1
  injection e2 with e2
  injection e3 with e3
  subst e0 e1 e2 e3
  exact walk0 c o k t w
end WheelNobody
end Go.Proofs.Ytgbahkkccpcadaa
