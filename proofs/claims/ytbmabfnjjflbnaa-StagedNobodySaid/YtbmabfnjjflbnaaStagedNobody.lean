/- The walk of StagedNobody. -/
import Derived.Test.YtbmabfnjjflbnaaYdAlive
import Derived.Test.YtbmabfnjjflbnaaOps
import Derived.Test.YtbmabfnjjflbnaaSh
namespace Go.Proofs.Ytbmabfnjjflbnaa
namespace StagedNobody
open Go.ChangeShapes Go.WideShapes Go.ChangeAt Go.RowKit Go.Maps
open Num Mem Words Chacha Aead Poly Quiet Ops RowV Yd

structure St (w : World) (B : Nat) (k o : Int) (A : Option Addr) (n c : Nat) (X : World) : Prop where
  q : Whole X B 32 #[.int .i64 k, .int .i64 o, .slice A n c]
  z : Whole X (B + 1) 41 #[.map none, .int .u64 0, .int .u64 0]
  bel : Below w.heap.size w X
theorem St.below {w : World} {B : Nat} {k o : Int} {A : Option Addr} {n c : Nat} {X Y : World} (h : St w B k o A n c X) (hb : Below X.heap.size X Y) : St w B k o A n c Y := ⟨h.q.below hb h.q.lt, h.z.below hb h.z.lt, below_trans h.bel hb⟩
theorem St.own {w : World} {B : Nat} {k o : Int} {A : Option Addr} {n c : Nat} {X : World} (h : St w B k o A n c X) : X.cell? ⟨B, 1, none⟩ = some (.int .i64 o) := h.q.cell 1

set_option maxRecDepth 100000 in
set_option maxHeartbeats 4000000 in
theorem walk0 (k o : Int) (A : Option Addr) (n c : Nat) (hn : n ≤ 9223372036854775807) (w : World) : Calls Try.prog 4 #[.agg #[.int .i64 k, .int .i64 o, .slice A n c]] w fun e w' => e = .returned (.bool true) ∧ Below w.heap.size w w' := by
  by_cases h2 : 2000 < n
  · have hd : decide ((2000 : Int) < (n : Int)) = true := decide_eq_true (by omega)
    have hd2 : (2000 : Int) < (n : Int) := by omega
    have HA := Lib.hid alive_ok
    clear h2
    go_enter Try.func4, Try.ntmps4
    go_upto_region 1 with fail
    refine cut_world (fun X => X.cell? ⟨w.heap.size, 2, none⟩ = some (.slice A n c) ∧ Below w.heap.size w X) ⟨(Whole.new w _ _).cell 2, below_alloc (Below.refl _ _) _⟩ ?_
    rintro X ⟨c2, hb⟩
    have HB := Lib.hid hb
    have HC := Lib.hid (HA.out X)
    clear hb HA
    go_wp2_with fail
    refine HC.out.mono ?_
    rintro e w1 ⟨rfl, hb1⟩
    go_wp2_with fail
    go_ret
    exact ⟨rfl, below_trans HB.out hb1⟩
  have hd : decide ((2000 : Int) < (n : Int)) = false := decide_eq_false (by omega)
  have hd2 : ((2000 : Int) < (n : Int)) = False := eq_false (by omega)
  clear h2
  go_enter Try.func4, Try.ntmps4
  go_upto_region 1 with fail
  refine cut_world (fun X => Whole X w.heap.size 32 #[.int .i64 k, .int .i64 o, .slice A n c] ∧ X.heap.size = w.heap.size + 1 ∧ Below w.heap.size w X) ⟨Whole.new w _ _, by simp, below_alloc (Below.refl _ _) _⟩ ?_
  rintro X ⟨hq, hs, hb⟩
  have HQ := Lib.hid hq
  have HB := Lib.hid hb
  have HS := Lib.hid hs
  have c2 : X.cell? ⟨w.heap.size, 2, none⟩ = some (.slice A n c) := hq.cell 2
  clear hq hb hs
  go_upto_region 5 with fail
  refine cut_world (fun X => St w w.heap.size k o A n c X) ⟨HQ.out.alloc _, whole_new _ _ (by rw [HS.out]), below_alloc HB.out _⟩ ?_
  rw [HS.out]
  intro X0 h0
  have H0 := Lib.hid h0
  clear h0 HQ HB HS c2 hd hd2
  clear X
  generalize hB : w.heap.size = B at H0 ⊢
  have c1 := H0.out.own
  have c2 : X0.cell? ⟨B, 2, none⟩ = some (.slice A n c) := H0.out.q.cell 2
  have HP1 := Lib.hid (put_nil o A n c X0)
  have HP2 := Lib.hid (put_zero (B + 1) _ _ o A n c X0 H0.out.z)
  have HT1 := Lib.hid (take_nil o X0)
  have HPO := Lib.hid (show zeroP.toArray.all (·.oneCell') = true by simp [zeroP, Value.oneCell'])
  obtain ⟨Z, hZ⟩ : ∃ Z, zeroP.toArray = Z := ⟨_, rfl⟩
  have HZS := Lib.hid (show Z.size = 2 by rw [← hZ]; rfl)
  have HTZ := Lib.hid (fun X h => take_zero (B + 1) (.int .u64 0) (.int .u64 0) o X h)
  rw [hZ] at HT1 HPO HTZ
  clear hZ
  go_wp2_with fail
  refine HP1.out.mono ?_
  rintro e X1 ⟨rfl, rfl⟩
  go_wp2_with fail
  refine HP2.out.mono ?_
  rintro e X1 ⟨rfl, rfl⟩
  go_wp2_with fail
  refine HT1.out.mono ?_
  rintro e X1 ⟨rfl, hb1⟩
  have H1 := Lib.hid (H0.out.below hb1)
  clear hb1 c1 c2 HP1 HP2 HT1 H0
  go_upto_region 8 with (refine wpList_store_row rfl 46 (.tmp 11) (.tmp 44) rfl X1.heap.size Z rfl rfl 46 _ (Whole.new _ _ _) (by rw [HZS.out]; kernel_rfl) (by rw [HZS.out]; rfl) HPO.out ?_)
  refine cut_world (fun X => St w B k o A n c X) (H1.out.below (below_var X1 _ _ _)) ?_
  obtain ⟨p1, hp1⟩ : ∃ p, X1.heap.size = p := ⟨_, rfl⟩
  rw [hp1]
  clear H1 hp1
  clear X1
  intro X1 h1
  have H1 := Lib.hid h1
  have c1 := h1.own
  clear h1
  go_wp2_with fail
  refine (HTZ.out X1 H1.out.z).mono ?_
  rintro e X2 ⟨rfl, hb1⟩
  have H2 := Lib.hid (H1.out.below hb1)
  clear hb1 c1 H1
  go_upto_region 9 with (refine wpList_store_row rfl 46 (.tmp 13) (.tmp 50) rfl X2.heap.size Z rfl rfl 46 _ (Whole.new _ _ _) (by rw [HZS.out]; kernel_rfl) (by rw [HZS.out]; rfl) HPO.out ?_)
  obtain ⟨p2, hp2⟩ : ∃ p, X2.heap.size = p := ⟨_, rfl⟩
  refine cut_world (fun X => St w B k o A n c X) (H2.out.below (below_var X2 _ _ _)) ?_
  rw [hp2]
  clear H2 hp2 HTZ HPO HZS
  clear X2 X1
  intro X3 h3
  refine region_class (C := fun X => St w B k o A n c X) (by kernel_rfl) (by kernel_rfl) (h3.below (below_drewN (Below.refl _ _) 1)) ?_
  refine wq_in ?_
  refine wq_call (.bool true) 9 #[] (by rfl) (by intro w; go_simp; try with_reducible rfl) (fun X hx => (alive_ok X).mono (fun e w' k => ⟨k.1, hx.below k.2⟩)) ?_
  try simp only [Act.put, List.setIfInBounds_toArray, List.set_cons_zero, List.set_cons_succ]
  refine wq_take _ (by rfl) (fun X hx => by go_simp; try with_reducible rfl) ?_
  try simp only [Act.put, List.setIfInBounds_toArray, List.set_cons_zero, List.set_cons_succ]
  refine wq_take _ (by rfl) (fun X hx => by go_simp; try with_reducible rfl) ?_
  try simp only [Act.put, List.setIfInBounds_toArray, List.set_cons_zero, List.set_cons_succ]
  refine wq_take _ (by rfl) (fun X hx => by go_simp; try with_reducible rfl) ?_
  try simp only [Act.put, List.setIfInBounds_toArray, List.set_cons_zero, List.set_cons_succ]
  refine wq_take _ (by rfl) (fun X hx => by go_simp; try with_reducible rfl) ?_
  try simp only [Act.put, List.setIfInBounds_toArray, List.set_cons_zero, List.set_cons_succ]
  refine wq_take _ (by rfl) (fun X hx => by go_simp; try with_reducible rfl) ?_
  try simp only [Act.put, List.setIfInBounds_toArray, List.set_cons_zero, List.set_cons_succ]
  refine wq_take _ (by rfl) (fun X hx => by go_simp; try with_reducible rfl) ?_
  try simp only [Act.put, List.setIfInBounds_toArray, List.set_cons_zero, List.set_cons_succ]
  refine wq_take _ (by rfl) (fun X hx => by go_simp; try with_reducible rfl) ?_
  try simp only [Act.put, List.setIfInBounds_toArray, List.set_cons_zero, List.set_cons_succ]
  refine wq_take _ (by rfl) (fun X hx => by go_simp; try with_reducible rfl) ?_
  try simp only [Act.put, List.setIfInBounds_toArray, List.set_cons_zero, List.set_cons_succ]
  refine wq_take _ (by rfl) (fun X hx => by go_simp; try with_reducible rfl) ?_
  try simp only [Act.put, List.setIfInBounds_toArray, List.set_cons_zero, List.set_cons_succ]
  refine wq_take _ (by rfl) (fun X hx => by go_simp; try with_reducible rfl) ?_
  try simp only [Act.put, List.setIfInBounds_toArray, List.set_cons_zero, List.set_cons_succ]
  refine wq_take _ (by rfl) (fun X hx => by go_simp; try with_reducible rfl) ?_
  try simp only [Act.put, List.setIfInBounds_toArray, List.set_cons_zero, List.set_cons_succ]
  refine wq_take _ (by rfl) (fun X hx => by go_simp; try with_reducible rfl) ?_
  try simp only [Act.put, List.setIfInBounds_toArray, List.set_cons_zero, List.set_cons_succ]
  refine wq_take _ (by rfl) (fun X hx => by go_simp; try with_reducible rfl) ?_
  try simp only [Act.put, List.setIfInBounds_toArray, List.set_cons_zero, List.set_cons_succ]
  refine wq_take _ (by rfl) (fun X hx => by go_simp; try with_reducible rfl) ?_
  try simp only [Act.put, List.setIfInBounds_toArray, List.set_cons_zero, List.set_cons_succ]
  refine wq_take _ (by rfl) (fun X hx => by go_simp; try with_reducible rfl) ?_
  try simp only [Act.put, List.setIfInBounds_toArray, List.set_cons_zero, List.set_cons_succ]
  refine wq_take _ (by rfl) (fun X hx => by go_simp; try with_reducible rfl) ?_
  try simp only [Act.put, List.setIfInBounds_toArray, List.set_cons_zero, List.set_cons_succ]
  refine wq_take _ (by rfl) (fun X hx => by go_simp; try with_reducible rfl) ?_
  try simp only [Act.put, List.setIfInBounds_toArray, List.set_cons_zero, List.set_cons_succ]
  refine wq_take _ (by rfl) (fun X hx => by go_simp; try with_reducible rfl) ?_
  try simp only [Act.put, List.setIfInBounds_toArray, List.set_cons_zero, List.set_cons_succ]
  refine wq_take _ (by rfl) (fun X hx => by go_simp; try with_reducible rfl) ?_
  try simp only [Act.put, List.setIfInBounds_toArray, List.set_cons_zero, List.set_cons_succ]
  refine wq_take (.int .i64 o) (by rfl) (fun X hx => by have c := hx.own; go_simp; try with_reducible rfl) ?_
  try simp only [Act.put, List.setIfInBounds_toArray, List.set_cons_zero, List.set_cons_succ]
  refine wq_call (.slice none 0 0) 17 #[.pointer none, .int .i64 o] (by rfl) (by intro w; go_simp; try with_reducible rfl) (fun X hx => (takeAll_nil o X).mono (fun e w' k => ⟨k.1, hx.below k.2⟩)) ?_
  try simp only [Act.put, List.setIfInBounds_toArray, List.set_cons_zero, List.set_cons_succ]
  refine wq_take _ (by rfl) (fun X hx => by go_simp; try with_reducible rfl) ?_
  try simp only [Act.put, List.setIfInBounds_toArray, List.set_cons_zero, List.set_cons_succ]
  refine wq_take _ (by rfl) (fun X hx => by go_simp; try with_reducible rfl) ?_
  try simp only [Act.put, List.setIfInBounds_toArray, List.set_cons_zero, List.set_cons_succ]
  refine wq_take (.int .i64 o) (by rfl) (fun X hx => by have c := hx.own; go_simp; try with_reducible rfl) ?_
  try simp only [Act.put, List.setIfInBounds_toArray, List.set_cons_zero, List.set_cons_succ]
  refine wq_call (.slice none 0 0) 17 #[.pointer (some ⟨B + 1, 0, none⟩), .int .i64 o] (by rfl) (by intro w; go_simp; try with_reducible rfl) (fun X hx => (takeAll_zero (B + 1) _ _ o X hx.z).mono (fun e w' k => ⟨k.1, hx.below k.2⟩)) ?_
  try simp only [Act.put, List.setIfInBounds_toArray, List.set_cons_zero, List.set_cons_succ]
  refine wq_take _ (by rfl) (fun X hx => by go_simp; try with_reducible rfl) ?_
  try simp only [Act.put, List.setIfInBounds_toArray, List.set_cons_zero, List.set_cons_succ]
  refine wq_take _ (by rfl) (fun X hx => by go_simp; try with_reducible rfl) ?_
  try simp only [Act.put, List.setIfInBounds_toArray, List.set_cons_zero, List.set_cons_succ]
  refine wq_take _ (by rfl) (fun X hx => by go_simp; try with_reducible rfl) ?_
  try simp only [Act.put, List.setIfInBounds_toArray, List.set_cons_zero, List.set_cons_succ]
  refine wq_take _ (by rfl) (fun X hx => by go_simp; try with_reducible rfl) ?_
  try simp only [Act.put, List.setIfInBounds_toArray, List.set_cons_zero, List.set_cons_succ]
  refine wq_take _ (by rfl) (fun X hx => by go_simp; try with_reducible rfl) ?_
  try simp only [Act.put, List.setIfInBounds_toArray, List.set_cons_zero, List.set_cons_succ]
  refine wq_take _ (by rfl) (fun X hx => by go_simp; try with_reducible rfl) ?_
  try simp only [Act.put, List.setIfInBounds_toArray, List.set_cons_zero, List.set_cons_succ]
  refine wq_take _ (by rfl) (fun X hx => by go_simp; try with_reducible rfl) ?_
  try simp only [Act.put, List.setIfInBounds_toArray, List.set_cons_zero, List.set_cons_succ]
  refine wq_take (.int .i64 o) (by rfl) (fun X hx => by have c := hx.own; go_simp; try with_reducible rfl) ?_
  try simp only [Act.put, List.setIfInBounds_toArray, List.set_cons_zero, List.set_cons_succ]
  refine wq_call (.int .i64 0) 18 #[.pointer none, .int .i64 o] (by rfl) (by intro w; go_simp; try with_reducible rfl) (fun X hx => (drop_nil o X).mono (fun e w' k => ⟨k.1, k.2 ▸ hx⟩)) ?_
  try simp only [Act.put, List.setIfInBounds_toArray, List.set_cons_zero, List.set_cons_succ]
  refine wq_take _ (by rfl) (fun X hx => by go_simp; try with_reducible rfl) ?_
  try simp only [Act.put, List.setIfInBounds_toArray, List.set_cons_zero, List.set_cons_succ]
  refine wq_take (.int .i64 o) (by rfl) (fun X hx => by have c := hx.own; go_simp; try with_reducible rfl) ?_
  try simp only [Act.put, List.setIfInBounds_toArray, List.set_cons_zero, List.set_cons_succ]
  refine wq_call (.int .i64 0) 18 #[.pointer (some ⟨B + 1, 0, none⟩), .int .i64 o] (by rfl) (by intro w; go_simp; try with_reducible rfl) (fun X hx => (drop_zero (B + 1) _ _ o X hx.z).mono (fun e w' k => ⟨k.1, k.2 ▸ hx⟩)) ?_
  try simp only [Act.put, List.setIfInBounds_toArray, List.set_cons_zero, List.set_cons_succ]
  refine wq_take _ (by rfl) (fun X hx => by go_simp; try with_reducible rfl) ?_
  try simp only [Act.put, List.setIfInBounds_toArray, List.set_cons_zero, List.set_cons_succ]
  refine wq_take _ (by rfl) (fun X hx => by go_simp; try with_reducible rfl) ?_
  try simp only [Act.put, List.setIfInBounds_toArray, List.set_cons_zero, List.set_cons_succ]
  refine wq_take _ (by rfl) (fun X hx => by go_simp; try with_reducible rfl) ?_
  try simp only [Act.put, List.setIfInBounds_toArray, List.set_cons_zero, List.set_cons_succ]
  refine wq_take (.int .i64 o) (by rfl) (fun X hx => by have c := hx.own; go_simp; try with_reducible rfl) ?_
  try simp only [Act.put, List.setIfInBounds_toArray, List.set_cons_zero, List.set_cons_succ]
  refine wq_call (.int .i64 0) 11 #[.pointer none, .int .i64 o] (by rfl) (by intro w; go_simp; try with_reducible rfl) (fun X hx => (waits_nil o X).mono (fun e w' k => ⟨k.1, k.2 ▸ hx⟩)) ?_
  try simp only [Act.put, List.setIfInBounds_toArray, List.set_cons_zero, List.set_cons_succ]
  refine wq_take _ (by rfl) (fun X hx => by go_simp; try with_reducible rfl) ?_
  try simp only [Act.put, List.setIfInBounds_toArray, List.set_cons_zero, List.set_cons_succ]
  refine wq_take _ (by rfl) (fun X hx => by go_simp; try with_reducible rfl) ?_
  try simp only [Act.put, List.setIfInBounds_toArray, List.set_cons_zero, List.set_cons_succ]
  refine wq_take (.int .i64 o) (by rfl) (fun X hx => by have c := hx.own; go_simp; try with_reducible rfl) ?_
  try simp only [Act.put, List.setIfInBounds_toArray, List.set_cons_zero, List.set_cons_succ]
  refine wq_call (.int .i64 0) 11 #[.pointer (some ⟨B + 1, 0, none⟩), .int .i64 o] (by rfl) (by intro w; go_simp; try with_reducible rfl) (fun X hx => (waits_zero (B + 1) _ _ o X hx.z).mono (fun e w' k => ⟨k.1, k.2 ▸ hx⟩)) ?_
  try simp only [Act.put, List.setIfInBounds_toArray, List.set_cons_zero, List.set_cons_succ]
  refine wq_take _ (by rfl) (fun X hx => by go_simp; try with_reducible rfl) ?_
  try simp only [Act.put, List.setIfInBounds_toArray, List.set_cons_zero, List.set_cons_succ]
  refine wq_take _ (by rfl) (fun X hx => by go_simp; try with_reducible rfl) ?_
  try simp only [Act.put, List.setIfInBounds_toArray, List.set_cons_zero, List.set_cons_succ]
  refine wq_call (.int .i64 0) 13 #[.pointer none] (by rfl) (by intro w; go_simp; try with_reducible rfl) (fun X hx => (all_nil X).mono (fun e w' k => ⟨k.1, k.2 ▸ hx⟩)) ?_
  try simp only [Act.put, List.setIfInBounds_toArray, List.set_cons_zero, List.set_cons_succ]
  refine wq_take _ (by rfl) (fun X hx => by go_simp; try with_reducible rfl) ?_
  try simp only [Act.put, List.setIfInBounds_toArray, List.set_cons_zero, List.set_cons_succ]
  refine wq_call (.int .i64 0) 13 #[.pointer (some ⟨B + 1, 0, none⟩)] (by rfl) (by intro w; go_simp; try with_reducible rfl) (fun X hx => (all_zero (B + 1) _ _ X hx.z).mono (fun e w' k => ⟨k.1, k.2 ▸ hx⟩)) ?_
  try simp only [Act.put, List.setIfInBounds_toArray, List.set_cons_zero, List.set_cons_succ]
  refine wq_take _ (by rfl) (fun X hx => by go_simp; try with_reducible rfl) ?_
  try simp only [Act.put, List.setIfInBounds_toArray, List.set_cons_zero, List.set_cons_succ]
  refine wq_take _ (by rfl) (fun X hx => by go_simp; try with_reducible rfl) ?_
  try simp only [Act.put, List.setIfInBounds_toArray, List.set_cons_zero, List.set_cons_succ]
  refine wq_take _ (by rfl) (fun X hx => by go_simp; try with_reducible rfl) ?_
  try simp only [Act.put, List.setIfInBounds_toArray, List.set_cons_zero, List.set_cons_succ]
  refine wq_take _ (by rfl) (fun X hx => by go_simp; try with_reducible rfl) ?_
  try simp only [Act.put, List.setIfInBounds_toArray, List.set_cons_zero, List.set_cons_succ]
  refine wq_take _ (by rfl) (fun X hx => by go_simp; try with_reducible rfl) ?_
  try simp only [Act.put, List.setIfInBounds_toArray, List.set_cons_zero, List.set_cons_succ]
  refine wq_call (.int .u64 0) 14 #[.pointer none] (by rfl) (by intro w; go_simp; try with_reducible rfl) (fun X hx => (thrown_nil X).mono (fun e w' k => ⟨k.1, k.2 ▸ hx⟩)) ?_
  try simp only [Act.put, List.setIfInBounds_toArray, List.set_cons_zero, List.set_cons_succ]
  refine wq_call (.int .u64 0) 14 #[.pointer (some ⟨B + 1, 0, none⟩)] (by rfl) (by intro w; go_simp; try with_reducible rfl) (fun X hx => (thrown_zero (B + 1) _ _ X hx.z).mono (fun e w' k => ⟨k.1, k.2 ▸ hx⟩)) ?_
  try simp only [Act.put, List.setIfInBounds_toArray, List.set_cons_zero, List.set_cons_succ]
  refine wq_take _ (by rfl) (fun X hx => by go_simp; try with_reducible rfl) ?_
  try simp only [Act.put, List.setIfInBounds_toArray, List.set_cons_zero, List.set_cons_succ]
  refine wq_take _ (by rfl) (fun X hx => by go_simp; try with_reducible rfl) ?_
  try simp only [Act.put, List.setIfInBounds_toArray, List.set_cons_zero, List.set_cons_succ]
  refine wq_take _ (by rfl) (fun X hx => by go_simp; try with_reducible rfl) ?_
  try simp only [Act.put, List.setIfInBounds_toArray, List.set_cons_zero, List.set_cons_succ]
  refine wq_take _ (by rfl) (fun X hx => by go_simp; try with_reducible rfl) ?_
  try simp only [Act.put, List.setIfInBounds_toArray, List.set_cons_zero, List.set_cons_succ]
  refine wq_end ?_
  intro X4 h4
  have H4 := Lib.hid h4
  clear h3 h4
  go_wp2_with fail
  go_ret
  exact ⟨rfl, H4.out.bel⟩

theorem walk (cs : List Value) (w : World) (hl : cs.length = 3) (h : Shp.Good w (.cons (.int .i64) (.cons (.int .i64) (.cons (.list (.int .u8)) .nil))) cs) : Calls Try.prog 4 #[.agg cs.toArray] w fun e w' => e = .returned (.bool true) ∧ Below w.heap.size w w' := by
  obtain ⟨v0, r0, rfl, ⟨k, e0, hk⟩, h, hl⟩ := Shp.good_cons1 h rfl hl
  obtain ⟨v1, r1, rfl, ⟨o, e1, ho⟩, h, hl⟩ := Shp.good_cons1 h rfl hl
  obtain ⟨v2, r2, rfl, hb, h, hl⟩ := Shp.good_cons1 h rfl hl
  obtain rfl := Shp.good_nil hl
  obtain ⟨A, n, c, e2, h1, h2, _⟩ := hb
  injection e0 with e0
  injection e1 with e1
  injection e2 with e2
  subst e0 e1 e2
  exact walk0 k o A n c (by have : maxLen = 9223372036854775807 := rfl; omega) w
end StagedNobody
end Go.Proofs.Ytbmabfnjjflbnaa
