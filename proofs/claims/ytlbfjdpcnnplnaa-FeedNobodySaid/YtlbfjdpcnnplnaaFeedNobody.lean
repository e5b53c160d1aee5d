/- The walk of FeedNobody. -/
import Derived.Test.YtlbfjdpcnnplnaaFdEv
import Derived.Test.YtlbfjdpcnnplnaaOps
import Derived.Test.YtlbfjdpcnnplnaaSh
import Derived.BigQuiet
namespace Go.Proofs.Ytlbfjdpcnnplnaa
namespace FeedNobody
open Go.ChangeShapes Go.WideShapes Go.ChangeAt Go.RowKit Go.Maps
open Num Mem Words Chacha Aead Poly Quiet Ops RowV Fee

set_option maxRecDepth 100000 in
theorem watchers_no {p : Value} {w : World} (h : No w p) : Calls Try.prog 21 #[p] w fun e w' => e = .returned (.slice none 0 0) ∧ w = w' := by
  have HN := Lib.hid (none_no h)
  clear h
  go_enter Try.func21, Try.ntmps21
  go_wp2_with fail
  refine HN.out.mono ?_
  rintro e w1 ⟨rfl, rfl⟩
  go_wp2_with fail
  go_ret
  exact ⟨rfl, rfl⟩
structure St (w : World) (B : Nat) (k : Int) (o : Nat) (n : Int) (X : World) : Prop where
  q : Whole X B 31 #[.int .i64 k, .int .u64 (o : Nat), .int .i64 n]
  z : Whole X (B + 1) 63 #[.map none, .int .u64 0]
  bel : Below w.heap.size w X
theorem St.below {w : World} {B : Nat} {k : Int} {o : Nat} {n : Int} {X Y : World} (h : St w B k o n X) (hb : Below X.heap.size X Y) : St w B k o n Y := ⟨h.q.below hb h.q.lt, h.z.below hb h.z.lt, below_trans h.bel hb⟩
theorem St.c1 {w : World} {B : Nat} {k : Int} {o : Nat} {n : Int} {X : World} (h : St w B k o n X) : X.cell? ⟨B, 1, none⟩ = some (.int .u64 (o : Nat)) := h.q.cell 1
theorem St.c2 {w : World} {B : Nat} {k : Int} {o : Nat} {n : Int} {X : World} (h : St w B k o n X) : X.cell? ⟨B, 2, none⟩ = some (.int .i64 n) := h.q.cell 2
theorem own1 {w : World} {B : Nat} {k : Int} {o : Nat} {n : Int} (X : World) (h : St w B k o n X) : X.cell? ⟨B, 1, none⟩ = some (.int .u64 (o : Nat)) := h.q.cell 1
theorem St.no {w : World} {B : Nat} {k : Int} {o : Nat} {n : Int} {X : World} (h : St w B k o n X) : No X (.pointer (some ⟨B + 1, 0, none⟩)) := .inr ⟨_, _, rfl, h.z⟩
theorem nil_no (X : World) : No X (.pointer none) := .inl rfl
set_option maxRecDepth 100000 in
set_option maxHeartbeats 4000000 in
theorem walk0 (k : Int) (o : Nat) (n : Int) (w : World) : Calls Try.prog 4 #[.agg #[.int .i64 k, .int .u64 (o : Nat), .int .i64 n]] w fun e w' => e = .returned (.bool true) ∧ Below w.heap.size w w' := by
  go_enter Try.func4, Try.ntmps4
  go_upto_region 3 with fail
  refine cut_world (fun X => St w w.heap.size k o n X) ⟨Whole.alloc (whole_new _ _ rfl) _, whole_new _ _ (by simp), below_alloc (below_alloc (Below.refl _ _) _) _⟩ ?_
  have e1 : (w.alloc (.cells #[.int .i64 k, .int .u64 (o : Nat), .int .i64 n] 31)).heap.size = w.heap.size + 1 := by simp
  try rw [e1]
  clear e1
  intro X0 h0
  have H0 := Lib.hid h0
  clear h0
  generalize hB : w.heap.size = B at H0 ⊢
  go_wp2_with fail
  refine (events_any 1 3 (by decide) X0).mono ?_
  rintro e X1 ⟨A1, z1, rfl, ho1, hb1⟩
  have H1 := Lib.hid (H0.out.below hb1)
  clear ho1 hb1 H0
  clear X0
  go_wp2_with fail
  refine (push_no (nil_no X1) _).mono ?_
  rintro e w2 ⟨rfl, rfl⟩
  go_wp2_with fail
  refine (events_any 1 3 (by decide) X1).mono ?_
  rintro e X2 ⟨A2, z2, rfl, ho2, hb2⟩
  have H2 := Lib.hid (H1.out.below hb2)
  clear ho2 hb2 H1
  clear X1
  go_wp2_with fail
  refine (push_no H2.out.no _).mono ?_
  rintro e w2 ⟨rfl, rfl⟩
  go_wp2_with fail
  refine (watch_no (nil_no X2)).mono ?_
  rintro e w2 ⟨rfl, rfl⟩
  go_wp2_with fail
  refine (watch_no H2.out.no).mono ?_
  rintro e w2 ⟨rfl, rfl⟩
  have c1 := H2.out.c1
  have c2 := H2.out.c2
  go_wp2_with fail
  refine (take_no (nil_no X2) o n).mono ?_
  rintro e w2 ⟨rfl, rfl⟩
  go_wp2_with fail
  refine (take_no H2.out.no o n).mono ?_
  rintro e w2 ⟨rfl, rfl⟩
  go_upto_region 9 with fail
  have h3 := H2.out
  clear c1 c2 H2
  refine region_class (C := fun X => St w B k o n X) (by kernel_rfl) (by kernel_rfl) (h3.below (Below.drew (Below.refl _ _))) ?_
  refine wq_in ?_
  refine wq_call (.bool true) 24 #[] (by rfl) (by intro w; go_simp; try with_reducible rfl) (fun X hx => (alive_ok X).mono (fun e w' k => ⟨k.1, hx.below k.2⟩)) ?_
  try simp only [Act.put, List.setIfInBounds_toArray, List.set_cons_zero, List.set_cons_succ]
  refine Ops.wq_take _ (by rfl) (fun X hx => by go_simp; try with_reducible rfl) ?_
  try simp only [Act.put, List.setIfInBounds_toArray, List.set_cons_zero, List.set_cons_succ]
  refine Ops.wq_take _ (by rfl) (fun X hx => by go_simp; try with_reducible rfl) ?_
  try simp only [Act.put, List.setIfInBounds_toArray, List.set_cons_zero, List.set_cons_succ]
  refine Ops.wq_take _ (by rfl) (fun X hx => by go_simp; try with_reducible rfl) ?_
  try simp only [Act.put, List.setIfInBounds_toArray, List.set_cons_zero, List.set_cons_succ]
  refine Ops.wq_take _ (by rfl) (fun X hx => by go_simp; try with_reducible rfl) ?_
  try simp only [Act.put, List.setIfInBounds_toArray, List.set_cons_zero, List.set_cons_succ]
  refine Ops.wq_take _ (by rfl) (fun X hx => by go_simp; try with_reducible rfl) ?_
  try simp only [Act.put, List.setIfInBounds_toArray, List.set_cons_zero, List.set_cons_succ]
  refine Ops.wq_take _ (by rfl) (fun X hx => by go_simp; try with_reducible rfl) ?_
  try simp only [Act.put, List.setIfInBounds_toArray, List.set_cons_zero, List.set_cons_succ]
  refine Ops.wq_take _ (by rfl) (fun X hx => by go_simp; try with_reducible rfl) ?_
  try simp only [Act.put, List.setIfInBounds_toArray, List.set_cons_zero, List.set_cons_succ]
  refine Ops.wq_take _ (by rfl) (fun X hx => by go_simp; try with_reducible rfl) ?_
  try simp only [Act.put, List.setIfInBounds_toArray, List.set_cons_zero, List.set_cons_succ]
  refine Ops.wq_take _ (by rfl) (fun X hx => by go_simp; try with_reducible rfl) ?_
  try simp only [Act.put, List.setIfInBounds_toArray, List.set_cons_zero, List.set_cons_succ]
  refine Ops.wq_take _ (by rfl) (fun X hx => by go_simp; try with_reducible rfl) ?_
  try simp only [Act.put, List.setIfInBounds_toArray, List.set_cons_zero, List.set_cons_succ]
  refine Ops.wq_take _ (by rfl) (fun X hx => by go_simp; try with_reducible rfl) ?_
  try simp only [Act.put, List.setIfInBounds_toArray, List.set_cons_zero, List.set_cons_succ]
  refine Ops.wq_take _ (by rfl) (fun X hx => by go_simp; try with_reducible rfl) ?_
  try simp only [Act.put, List.setIfInBounds_toArray, List.set_cons_zero, List.set_cons_succ]
  refine Ops.wq_take _ (by rfl) (fun X hx => by go_simp; try with_reducible rfl) ?_
  try simp only [Act.put, List.setIfInBounds_toArray, List.set_cons_zero, List.set_cons_succ]
  refine Ops.wq_take _ (by rfl) (fun X hx => by go_simp; try with_reducible rfl) ?_
  try simp only [Act.put, List.setIfInBounds_toArray, List.set_cons_zero, List.set_cons_succ]
  refine Ops.wq_take _ (by rfl) (fun X hx => by go_simp; try with_reducible rfl) ?_
  try simp only [Act.put, List.setIfInBounds_toArray, List.set_cons_zero, List.set_cons_succ]
  refine Ops.wq_take _ (by rfl) (fun X hx => by go_simp; try with_reducible rfl) ?_
  try simp only [Act.put, List.setIfInBounds_toArray, List.set_cons_zero, List.set_cons_succ]
  refine Ops.wq_take _ (by rfl) (fun X hx => by go_simp; try with_reducible rfl) ?_
  try simp only [Act.put, List.setIfInBounds_toArray, List.set_cons_zero, List.set_cons_succ]
  refine Ops.wq_take _ (by rfl) (fun X hx => by go_simp; try with_reducible rfl) ?_
  try simp only [Act.put, List.setIfInBounds_toArray, List.set_cons_zero, List.set_cons_succ]
  refine Ops.wq_take _ (by rfl) (fun X hx => by go_simp; try with_reducible rfl) ?_
  try simp only [Act.put, List.setIfInBounds_toArray, List.set_cons_zero, List.set_cons_succ]
  refine Ops.wq_take _ (by rfl) (fun X hx => by have cl := own1 X hx; go_simp; try with_reducible rfl) ?_
  try simp only [Act.put, List.setIfInBounds_toArray, List.set_cons_zero, List.set_cons_succ]
  refine wq_call (.bool false) 11 #[.pointer none, .int .u64 (o : Nat)] (by rfl) (by intro w; go_simp; try with_reducible rfl) (fun X hx => (leave_no (nil_no X) o).mono (fun e w' k => ⟨k.1, k.2 ▸ hx⟩)) ?_
  try simp only [Act.put, List.setIfInBounds_toArray, List.set_cons_zero, List.set_cons_succ]
  refine Ops.wq_take _ (by rfl) (fun X hx => by go_simp; try with_reducible rfl) ?_
  try simp only [Act.put, List.setIfInBounds_toArray, List.set_cons_zero, List.set_cons_succ]
  refine Ops.wq_take _ (by rfl) (fun X hx => by go_simp; try with_reducible rfl) ?_
  try simp only [Act.put, List.setIfInBounds_toArray, List.set_cons_zero, List.set_cons_succ]
  refine Ops.wq_take _ (by rfl) (fun X hx => by go_simp; try with_reducible rfl) ?_
  try simp only [Act.put, List.setIfInBounds_toArray, List.set_cons_zero, List.set_cons_succ]
  refine Ops.wq_take _ (by rfl) (fun X hx => by go_simp; try with_reducible rfl) ?_
  try simp only [Act.put, List.setIfInBounds_toArray, List.set_cons_zero, List.set_cons_succ]
  refine Ops.wq_take _ (by rfl) (fun X hx => by have cl := own1 X hx; go_simp; try with_reducible rfl) ?_
  try simp only [Act.put, List.setIfInBounds_toArray, List.set_cons_zero, List.set_cons_succ]
  refine wq_call (.bool false) 11 #[.pointer (some ⟨B + 1, 0, none⟩), .int .u64 (o : Nat)] (by rfl) (by intro w; go_simp; try with_reducible rfl) (fun X hx => (leave_no hx.no o).mono (fun e w' k => ⟨k.1, k.2 ▸ hx⟩)) ?_
  try simp only [Act.put, List.setIfInBounds_toArray, List.set_cons_zero, List.set_cons_succ]
  refine Ops.wq_take _ (by rfl) (fun X hx => by go_simp; try with_reducible rfl) ?_
  try simp only [Act.put, List.setIfInBounds_toArray, List.set_cons_zero, List.set_cons_succ]
  refine Ops.wq_take _ (by rfl) (fun X hx => by go_simp; try with_reducible rfl) ?_
  try simp only [Act.put, List.setIfInBounds_toArray, List.set_cons_zero, List.set_cons_succ]
  refine Ops.wq_take _ (by rfl) (fun X hx => by go_simp; try with_reducible rfl) ?_
  try simp only [Act.put, List.setIfInBounds_toArray, List.set_cons_zero, List.set_cons_succ]
  refine Ops.wq_take _ (by rfl) (fun X hx => by go_simp; try with_reducible rfl) ?_
  try simp only [Act.put, List.setIfInBounds_toArray, List.set_cons_zero, List.set_cons_succ]
  refine Ops.wq_take _ (by rfl) (fun X hx => by go_simp; try with_reducible rfl) ?_
  try simp only [Act.put, List.setIfInBounds_toArray, List.set_cons_zero, List.set_cons_succ]
  refine Ops.wq_take _ (by rfl) (fun X hx => by have cl := own1 X hx; go_simp; try with_reducible rfl) ?_
  try simp only [Act.put, List.setIfInBounds_toArray, List.set_cons_zero, List.set_cons_succ]
  refine wq_call (.int .i64 0) 22 #[.pointer none, .int .u64 (o : Nat)] (by rfl) (by intro w; go_simp; try with_reducible rfl) (fun X hx => (waits_no (nil_no X) o).mono (fun e w' k => ⟨k.1, k.2 ▸ hx⟩)) ?_
  try simp only [Act.put, List.setIfInBounds_toArray, List.set_cons_zero, List.set_cons_succ]
  refine Ops.wq_take _ (by rfl) (fun X hx => by go_simp; try with_reducible rfl) ?_
  try simp only [Act.put, List.setIfInBounds_toArray, List.set_cons_zero, List.set_cons_succ]
  refine Ops.wq_take _ (by rfl) (fun X hx => by have cl := own1 X hx; go_simp; try with_reducible rfl) ?_
  try simp only [Act.put, List.setIfInBounds_toArray, List.set_cons_zero, List.set_cons_succ]
  refine wq_call (.int .i64 0) 22 #[.pointer (some ⟨B + 1, 0, none⟩), .int .u64 (o : Nat)] (by rfl) (by intro w; go_simp; try with_reducible rfl) (fun X hx => (waits_no hx.no o).mono (fun e w' k => ⟨k.1, k.2 ▸ hx⟩)) ?_
  try simp only [Act.put, List.setIfInBounds_toArray, List.set_cons_zero, List.set_cons_succ]
  refine Ops.wq_take _ (by rfl) (fun X hx => by go_simp; try with_reducible rfl) ?_
  try simp only [Act.put, List.setIfInBounds_toArray, List.set_cons_zero, List.set_cons_succ]
  refine Ops.wq_take _ (by rfl) (fun X hx => by go_simp; try with_reducible rfl) ?_
  try simp only [Act.put, List.setIfInBounds_toArray, List.set_cons_zero, List.set_cons_succ]
  refine wq_call (.slice none 0 0) 21 #[.pointer none] (by rfl) (by intro w; go_simp; try with_reducible rfl) (fun X hx => (watchers_no (nil_no X)).mono (fun e w' k => ⟨k.1, k.2 ▸ hx⟩)) ?_
  try simp only [Act.put, List.setIfInBounds_toArray, List.set_cons_zero, List.set_cons_succ]
  refine Ops.wq_take _ (by rfl) (fun X hx => by go_simp; try with_reducible rfl) ?_
  try simp only [Act.put, List.setIfInBounds_toArray, List.set_cons_zero, List.set_cons_succ]
  refine Ops.wq_take _ (by rfl) (fun X hx => by go_simp; try with_reducible rfl) ?_
  try simp only [Act.put, List.setIfInBounds_toArray, List.set_cons_zero, List.set_cons_succ]
  refine wq_call (.slice none 0 0) 21 #[.pointer (some ⟨B + 1, 0, none⟩)] (by rfl) (by intro w; go_simp; try with_reducible rfl) (fun X hx => (watchers_no hx.no).mono (fun e w' k => ⟨k.1, k.2 ▸ hx⟩)) ?_
  try simp only [Act.put, List.setIfInBounds_toArray, List.set_cons_zero, List.set_cons_succ]
  refine Ops.wq_take _ (by rfl) (fun X hx => by go_simp; try with_reducible rfl) ?_
  try simp only [Act.put, List.setIfInBounds_toArray, List.set_cons_zero, List.set_cons_succ]
  refine Ops.wq_take _ (by rfl) (fun X hx => by go_simp; try with_reducible rfl) ?_
  try simp only [Act.put, List.setIfInBounds_toArray, List.set_cons_zero, List.set_cons_succ]
  refine Ops.wq_take _ (by rfl) (fun X hx => by go_simp; try with_reducible rfl) ?_
  try simp only [Act.put, List.setIfInBounds_toArray, List.set_cons_zero, List.set_cons_succ]
  refine Ops.wq_take _ (by rfl) (fun X hx => by go_simp; try with_reducible rfl) ?_
  try simp only [Act.put, List.setIfInBounds_toArray, List.set_cons_zero, List.set_cons_succ]
  refine Ops.wq_take _ (by rfl) (fun X hx => by go_simp; try with_reducible rfl) ?_
  try simp only [Act.put, List.setIfInBounds_toArray, List.set_cons_zero, List.set_cons_succ]
  refine wq_end ?_
  intro X hX
  have HX := Lib.hid hX
  clear hX h3
  have hw0 : IntKind.i64.wrap 0 = 0 := by decide
  try simp only [hw0]
  go_wp2_with fail
  go_ret
  exact ⟨rfl, HX.out.bel⟩

theorem walk (cs : List Value) (w : World) (hl : cs.length = 3) (h : Shp.Good w (.cons (.int .i64) (.cons (.int .u64) (.cons (.int .i64) .nil))) cs) : Calls Try.prog 4 #[.agg cs.toArray] w fun e w' => e = .returned (.bool true) ∧ Below w.heap.size w w' := by
  obtain ⟨v0, r0, rfl, ⟨k, e0, hk⟩, h, hl⟩ := Shp.good_cons1 h rfl hl
  obtain ⟨v1, r1, rfl, ⟨o, e1, ho⟩, h, hl⟩ := Shp.good_cons1 h rfl hl
  obtain ⟨v2, r2, rfl, ⟨n, e2, hn⟩, h, hl⟩ := Shp.good_cons1 h rfl hl
  obtain rfl := Shp.good_nil hl
  injection e0 with e0
  injection e1 with e1
  injection e2 with e2
  subst e0 e1 e2
  obtain ⟨o, rfl, _⟩ := nat_u64 ho
  exact walk0 k o n w
end FeedNobody
end Go.Proofs.Ytlbfjdpcnnplnaa
