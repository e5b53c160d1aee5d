/- Package staged: the ring's take. -/
import Derived.Test.YtbmabfnjjflbnaaYdRing
namespace Go.Proofs.Ytbmabfnjjflbnaa
namespace Yd
open Go.ChangeShapes Go.WideShapes Go.ChangeAt Go.RowKit Go.Maps
open Num Mem Words Chacha Aead Poly Quiet RowV

structure TakeW (w : World) (r : Nat) (L : List Pk) (cs : List Value) (p : Nat) (N : Nat) (X : World) : Prop where
  ring : RingC X r L cs p
  res : Whole X N 46 #[.int .u64 0, .slice none 0 0]
  bel : Below w.heap.size w X
theorem whole_set2 {w : World} {g : Nat} {t : TypeId} {cs : List Value} (h : Whole w g t cs.toArray) (i : Nat) (u v : Value) : Whole (w.setCells g i [u, v]) g t ((cs.set i u).set (i + 1) v).toArray := by
  have h1 := (h.put i u).put (i + 1) v
  rw [List.setIfInBounds_toArray, List.setIfInBounds_toArray] at h1
  exact h1
theorem grown_set2 (w : World) (g i : Nat) (u v : Value) : w.grownBy (w.setCells g i [u, v]) (some g) := by
  have h := ((Below.refl 0 w).setCell (p := ⟨g, i, none⟩) (Nat.zero_le _) u)
  have h2 := (h.setCell (p := ⟨g, i + 1, none⟩) (Nat.zero_le _) v)
  refine ⟨h2.os, h2.tape, h2.output, h2.size, fun k _ hk => ?_⟩
  have hne : k ≠ g := fun e => hk (by rw [e])
  exact (Below.heap_setCell _ ⟨g, i + 1, none⟩ v k hne).trans (Below.heap_setCell w ⟨g, i, none⟩ u k hne)

theorem cut_post {F : Exit → Act → World → Prop} {e : Exit} {a : Act} {w : World} (R : World → Prop) (hR : R w) (h : ∀ w', R w' → F e a w') : F e a w := h w hR
theorem pk_one (a : Nat) (x : Pk) : (pkL a x).toArray.all (·.oneCell') = true := by simp [pkL, Value.oneCell']
structure Take2 (w : World) (r : Nat) (L : List Pk) (cs : List Value) (p : Nat) (N V a : Nat) (x : Pk) (X : World) : Prop where
  ring : RingC X r L cs p
  res : Whole X N 46 #[.int .u64 0, .slice none 0 0]
  got : Whole X V 46 (pkL a x).toArray
  byt : Whole X a 5 (byteCells x.f x.len).toArray
  bel : Below w.heap.size w X
structure Take3 (w X0 : World) (r : Nat) (c2 : List Value) (N V a : Nat) (x : Pk) (X : World) : Prop where
  blk : Whole X r 66 c2.toArray
  res : Whole X N 46 #[.int .u64 0, .slice none 0 0]
  got : Whole X V 46 (pkL a x).toArray
  kp : KpB X0 X
  gr : w.grownBy X (some r)
theorem grown_set1 (w : World) (g i : Nat) (u : Value) : w.grownBy (w.setCell ⟨g, i, none⟩ u) (some g) := by
  have h := ((Below.refl 0 w).setCell (p := ⟨g, i, none⟩) (Nat.zero_le _) u)
  exact ⟨h.os, h.tape, h.output, h.size, fun k _ hk => Below.heap_setCell w ⟨g, i, none⟩ u k (fun e => hk (by rw [e]))⟩
theorem there_of {w : World} {g : Nat} {t : TypeId} {cs : List Value} (h : Whole w g t cs.toArray) (o n : Nat) (hl : o + n ≤ cs.length) : w.there g o n := fun j hj => by
  refine ⟨?_, h.free _⟩
  rw [h.cell, List.getElem?_toArray, List.getElem?_eq_getElem (by omega)]
  rfl
theorem zero_one : (#[Value.int .u64 0, .slice none 0 0] : Array Value).all (·.oneCell') = true := by simp [Value.oneCell']
theorem grown_undrew {a b : World} {row : Option Nat} (h : a.drew.grownBy b row) : a.grownBy b row := ⟨h.os, h.tape, h.output, h.size, h.block⟩
theorem grown_tr {a b c : World} {row : Option Nat} (h : a.grownBy b row) (k : b.grownBy c row) : a.grownBy c row := h.andThen k (fun _ hj => Or.inr hj)
theorem Take3.set {w X0 : World} {r : Nat} {c2 : List Value} {N V a : Nat} {x : Pk} {X : World} (h : Take3 w X0 r c2 N V a x X) (i : Nat) (u : Value) (h1 : r ≠ N) (h2 : r ≠ V) : Take3 w X0 r (c2.set i u) N V a x (X.setCell ⟨r, i, none⟩ u) := by
  have hb := h.blk.put i u
  rw [List.setIfInBounds_toArray] at hb
  have hg : X.grownBy (X.setCell ⟨r, i, none⟩ u) (some r) := grown_set1 X r i u
  exact ⟨hb, whole_grown h.res hg h1, whole_grown h.got hg h2, h.kp.trans (KpB.grown hg h.blk (by decide)), grown_tr h.gr hg⟩
theorem KpB.setRow {X : World} {g : Nat} {t : TypeId} {cs : Array Value} (hr : Whole X g t cs) (ht : t ≠ 5) {ds : Array Value} : KpB X (X.setRow g ds) := fun k es e => Whole.farRow e (by intro h; subst h; exact ht (whole_type hr e)) _
theorem grown_fresh {a b : World} {row : Option Nat} (h : a.grownBy b row) {g : Nat} (hg : a.heap.size ≤ g) (cs : Array Value) : a.grownBy (b.setRow g cs) row := by
  refine ⟨h.os, h.tape, h.output, by simp [World.setRow]; exact h.size, fun k hk hr => ?_⟩
  rw [setRow_other _ _ _ _ (by omega)]
  exact h.block k hk hr
theorem run_load_mid_op {P : Program} {o : Oper} {a : Act} {w : World} (ty : TypeId) (x : Operand) (ho : o.op = .load ty x) (g off : Nat) (hx : a.eval x = .pointer (some ⟨g, off, none⟩)) (cs : List Value) (d : TypeDesc) (hc : w.rangeAt g off cs)
    (hu : P.underlying ty = some d) (hd : d.isRow = true) (hi : (P.info? ty).map (·.size) = some cs.length) : (execOp a.eval o).run P w = .ok (.value (.agg cs.toArray)) w := by
  unfold execOp
  simp only [ho, hx, Instr.loadAt, Instr.sureAddr, Sem.run_bind, Sem.run_pure, Result.andThen_ok, run_loadVar_mid w g off ty cs d hc hu hd hi]

set_option maxRecDepth 100000 in
theorem take_any (r : Nat) (x : Pk) (L : List Pk) (cs : List Value) (p : Nat) (w : World) (h : RingC w r (x :: L) cs p) :
    Calls Try.prog 23 #[.pointer (some ⟨r, 0, none⟩)] w fun e w' => ∃ a, e = .returned (pkV a x) ∧ Whole w' a 5 (byteCells x.f x.len).toArray ∧ RingW w' r L ∧ w.grownBy w' (some r) := by
  have hp := h.pos
  obtain ⟨hx1, hx2, hx3, a, hx4, hx5, hx6, _⟩ := h.pk 0 x rfl
  have e0 : (p + 0) % 8 = p := Nat.mod_eq_of_lt hp
  rw [e0] at hx4 hx5
  clear e0
  have HBY := Lib.hid hx6
  have H := Lib.hid h
  have hrl := h.blk.lt
  clear h
  go_enter Try.func23, Try.ntmps23
  go_upto_region 1 with fail
  refine cut_world (fun X => TakeW w r (x :: L) cs p w.heap.size X) ⟨H.out.below (below_alloc (Below.refl _ _) _), whole_new _ _ rfl, below_alloc (Below.refl _ _) _⟩ ?_
  intro W hW
  have HW := Lib.hid hW
  have hrN : r ≠ w.heap.size := by omega
  generalize hN : w.heap.size = N at hrl HW hrN ⊢
  clear hW H
  have C16 := Lib.hid (fun X (hb : Below W.heap.size W X) => (show X.cell? ⟨r, 16, none⟩ = some (.int .i64 (p : Nat)) from by
    have := (HW.out.ring.blk.below hb HW.out.ring.blk.lt).cell 16
    rw [List.getElem?_toArray, HW.out.ring.at16] at this
    exact this))
  have RNG := Lib.hid (fun X (hb : Below W.heap.size W X) => (show X.rangeAt r (p * 2) (pkL a x) from by
    intro j v hj
    have := (HW.out.ring.blk.below hb HW.out.ring.blk.lt).cell (p * 2 + j)
    rw [this, List.getElem?_toArray]
    match j, hj with
    | 0, hj => exact hx4.trans hj
    | 1, hj => exact hx5.trans hj
    | j + 2, hj => simp [pkL] at hj))
  clear hx4 hx5
  have hp8 : (p : Int) < 8 := by omega
  refine region_drew (fun X => Below W.heap.size W X) (by kernel_rfl) (Below.drew (Below.refl _ _)) (fun hS => ?_)
  refine take 0 _ rfl (by kernel_rfl) (by kernel_rfl) (by kernel_rfl) (fun _ _ _ h => h) (by rfl) hS (by intro w _; go_simp; with_reducible rfl) ?_
  try simp only [Act.put, List.setIfInBounds_toArray, List.set_cons_zero, List.set_cons_succ]
  refine take 1 _ rfl (by kernel_rfl) (by kernel_rfl) (by kernel_rfl) (fun _ _ _ h => h) (by rfl) hS (by intro w _; go_simp; with_reducible rfl) ?_
  try simp only [Act.put, List.setIfInBounds_toArray, List.set_cons_zero, List.set_cons_succ]
  refine take 2 _ rfl (by kernel_rfl) (by kernel_rfl) (by kernel_rfl) (fun _ _ _ h => h) (by rfl) hS (by intro w _; go_simp; with_reducible rfl) ?_
  try simp only [Act.put, List.setIfInBounds_toArray, List.set_cons_zero, List.set_cons_succ]
  refine take 3 _ rfl (by kernel_rfl) (by kernel_rfl) (by kernel_rfl) (fun _ _ _ h => h) (by rfl) hS (by intro w _; go_simp; with_reducible rfl) ?_
  try simp only [Act.put, List.setIfInBounds_toArray, List.set_cons_zero, List.set_cons_succ]
  refine take 4 _ rfl (by kernel_rfl) (by kernel_rfl) (by kernel_rfl) (fun _ _ _ h => h) (by rfl) hS (by intro w hw; have hcl := C16.out w hw; go_simp; with_reducible rfl) ?_
  try simp only [Act.put, List.setIfInBounds_toArray, List.set_cons_zero, List.set_cons_succ]
  refine take 5 _ rfl (by kernel_rfl) (by kernel_rfl) (by kernel_rfl) (fun _ _ _ h => h) (by rfl) hS (by intro w _; go_simp; with_reducible rfl) ?_
  try simp only [Act.put, List.setIfInBounds_toArray, List.set_cons_zero, List.set_cons_succ]
  refine take 6 _ rfl (by kernel_rfl) (by kernel_rfl) (by kernel_rfl) (fun _ _ _ h => h) (by rfl) hS (by intro w _; go_simp; with_reducible rfl) ?_
  try simp only [Act.put, List.setIfInBounds_toArray, List.set_cons_zero, List.set_cons_succ]
  refine take 7 _ rfl (by kernel_rfl) (by kernel_rfl) (by kernel_rfl) (fun _ _ _ h => h) (by rfl) hS (by intro w _; go_simp; with_reducible rfl) ?_
  try simp only [Act.put, List.setIfInBounds_toArray, List.set_cons_zero, List.set_cons_succ]
  refine take 8 (pkV a x) rfl (by kernel_rfl) (by kernel_rfl) (by kernel_rfl) (fun _ _ _ h => h) (by rfl) hS (fun w hw => run_load_mid_op 46 (.tmp 11) rfl r (p * 2) rfl (pkL a x) _ (RNG.out w hw) rfl rfl (by kernel_rfl)) ?_
  try simp only [Act.put, List.setIfInBounds_toArray, List.set_cons_zero, List.set_cons_succ]
  refine alone 9 rfl (by kernel_rfl) (by rfl) ?_
  intro K hK
  go_simp
  refine hK.out _ _ (hS.alloc (Nat.le_refl _) _) ?_
  clear hK K
  try simp only [Act.put, List.setIfInBounds_toArray, List.set_cons_zero, List.set_cons_succ]
  refine alone 10 rfl (by kernel_rfl) (by rfl) ?_
  intro K hK
  refine wp_store_row 46 (.tmp 3) (.tmp 12) rfl W.heap.size (pkL a x).toArray (by rfl) (by rfl) 46 _ (Whole.new _ _ _) (by kernel_rfl) rfl (pk_one a x) ?_
  refine hK.out _ _ (below_setRow (hS.alloc (Nat.le_refl _) _) (Nat.le_refl _) _) ?_
  clear hK K
  try simp only [Act.put]
  refine region_end (by kernel_rfl) ?_
  have hbN : w.heap.size ≤ W.heap.size := HW.out.bel.size
  refine cut_post (F := Exit.then _ _) (fun X => Take2 w r (x :: L) cs p N W.heap.size a x X) ⟨HW.out.ring.below (below_setRow (Below.drew (below_alloc (Below.refl _ _) _)) (Nat.le_refl _) _), Whole.farRow (Whole.alloc HW.out.res _) (Nat.ne_of_lt HW.out.res.lt) _, setRow_heap _ _ _ _ _ _ (Whole.new _ _ _), (HBY.out.below HW.out.bel HBY.out.lt).below (below_setRow (Below.drew (below_alloc (Below.refl _ _) _)) (Nat.le_refl _) _) (Nat.lt_of_lt_of_le HBY.out.lt HW.out.bel.size), HW.out.bel.trans ((below_setRow (Below.drew (below_alloc (Below.refl _ _) _)) (Nat.le_refl _) _).mono hbN)⟩ ?_
  clear hS C16 RNG
  intro X hX
  have HX := Lib.hid hX
  have hNV : N ≠ W.heap.size := Nat.ne_of_lt HW.out.res.lt
  have hrV : r ≠ W.heap.size := Nat.ne_of_lt HW.out.ring.blk.lt
  generalize W.heap.size = V at *
  clear HBY HW hX hbN W
  have c16 : X.cell? ⟨r, 16, none⟩ = some (.int .i64 (p : Nat)) := by
    have := HX.out.ring.blk.cell 16
    rw [List.getElem?_toArray, HX.out.ring.at16] at this
    exact this
  go_upto_region 2 with fail
  refine wp_region_still_tail 9 (by kernel_rfl) (by kernel_rfl) ?_
  simp only [List.take_succ_cons, List.take_zero, List.drop_succ_cons, List.drop_zero]
  repeat still_step
  refine wpStill_nil ?_
  change wpList _ _ _ _ _ X.drew
  have TH : X.drew.there r (p * 2) 2 := there_of (show Whole X.drew r _ _ from HX.out.ring.blk) _ _ (by rw [HX.out.ring.len]; omega)
  (refine wpList_store_mid rfl 46 (.tmp 21) (.tmp 18) rfl r (p * 2) #[.int .u64 0, .slice none 0 0] rfl rfl TH (by kernel_rfl) zero_one ?_)
  go_upto_region 3 with fail
  clear TH
  have hL := HX.out.ring.len
  have h16 := HX.out.ring.at16
  have h17 := HX.out.ring.at17
  have hfew := HX.out.ring.few
  rw [List.length_cons] at h17 hfew
  obtain ⟨c2, hc2⟩ : ∃ c2, (cs.set (p * 2) (.int .u64 0)).set (p * 2 + 1) (.slice none 0 0) = c2 := ⟨_, rfl⟩
  have HC2 := Lib.hid hc2
  have HL2 := Lib.hid (show c2.length = 18 by rw [← hc2]; simp [hL])
  have H16 := Lib.hid (show c2[16]? = some (.int .i64 (p : Nat)) by rw [← hc2, List.getElem?_set_ne (by omega), List.getElem?_set_ne (by omega)]; exact h16)
  have H17 := Lib.hid (show c2[17]? = some (.int .i64 (L.length + 1 : Nat)) by rw [← hc2, List.getElem?_set_ne (by omega), List.getElem?_set_ne (by omega)]; exact h17)
  clear h16 h17 hL
  have hgX : w.grownBy X (some r) := ⟨HX.out.bel.os, HX.out.bel.tape, HX.out.bel.output, HX.out.bel.size, fun k hk _ => HX.out.bel.block k hk⟩
  refine cut_world (fun Y => Take3 w X r c2 N V a x Y) (by
    have hs := grown_undrew (grown_set2 X.drew r (p * 2) (.int .u64 0) (.slice none 0 0))
    have hb := whole_set2 (show Whole X.drew r 66 cs.toArray from HX.out.ring.blk) (p * 2) (.int .u64 0) (.slice none 0 0)
    rw [hc2] at hb
    exact ⟨hb, whole_grown HX.out.res hs hrN, whole_grown HX.out.got hs hrV, KpB.grown hs HX.out.ring.blk (by decide), grown_tr hgX hs⟩) ?_
  intro Y1 hY1
  have HY1 := Lib.hid hY1
  have c16 : Y1.cell? ⟨r, 16, none⟩ = some (.int .i64 (p : Nat)) := by rw [hY1.blk.cell, List.getElem?_toArray]; exact H16.out
  have f16 : Y1.frozen? ⟨r, 16, none⟩ = false := hY1.blk.free 16
  have hw1 : IntKind.i64.wrap ((p : Int) + 1) = (p : Int) + 1 := by rw [IntKind.wrap_i64]; omega
  have ht1 : ((p : Int) + 1).tmod 8 = (((p + 1) % 8 : Nat) : Int) := by
    rw [show (p : Int) + 1 = ((p + 1 : Nat) : Int) by omega]
    exact (Int.ofNat_tmod (p + 1) 8).symm
  clear hc2 hgX hY1
  go_upto_region 4 with fail
  have e1 : ((p : Int) + 1) % 8 = (((p + 1) % 8 : Nat) : Int) := by omega
  rw [e1]
  obtain ⟨c3, hc3⟩ : ∃ c3, c2.set 16 (.int .i64 ((p + 1) % 8 : Nat)) = c3 := ⟨_, rfl⟩
  have HC3 := Lib.hid hc3
  have H17b := Lib.hid (show c3[17]? = some (.int .i64 (L.length + 1 : Nat)) by rw [← hc3, List.getElem?_set_ne (by omega)]; exact H17.out)
  refine cut_world (fun Y => Take3 w X r c3 N V a x Y) (by
    have h := HY1.out.set 16 (.int .i64 ((p + 1) % 8 : Nat)) hrN hrV
    rw [hc3] at h
    exact h) ?_
  clear c16 f16 hw1 ht1 e1 hc3 HY1 H16 H17
  clear Y1
  intro Y2 hY2
  have HY2 := Lib.hid hY2
  have c17 : Y2.cell? ⟨r, 17, none⟩ = some (.int .i64 ((L.length : Int) + 1)) := by rw [hY2.blk.cell, List.getElem?_toArray]; exact H17b.out
  have f17 : Y2.frozen? ⟨r, 17, none⟩ = false := hY2.blk.free 17
  have hw1 : IntKind.i64.wrap ((L.length : Int) + 1 - 1) = (L.length : Int) := by rw [IntKind.wrap_i64]; omega
  clear hY2
  go_upto_region 5 with fail
  refine cut_world (fun Y => Take3 w X r (c3.set 17 (.int .i64 (L.length : Nat))) N V a x Y) (HY2.out.set 17 _ hrN hrV) ?_
  clear c17 f17 hw1 HY2 c16
  clear Y2
  intro Y hY
  have HY := Lib.hid hY
  clear hY
  obtain ⟨Q, hQ⟩ : ∃ Q, (pkL a x).toArray = Q := ⟨_, rfl⟩
  have HQS := Lib.hid (show Q.size = 2 by rw [← hQ]; rfl)
  have HQO := Lib.hid (show Q.all (·.oneCell') = true by rw [← hQ]; exact pk_one a x)
  have HG := Lib.hid (show Whole Y V 46 Q by rw [← hQ]; exact HY.out.got)
  have HQ := Lib.hid hQ
  clear hQ
  go_wp2_with (first | (refine wpList_load_row rfl 46 (.tmp 3) rfl V rfl 46 Q (0, 0) _ HG.out rfl rfl (by rw [HQS.out]; kernel_rfl) ?_) | (refine wpList_store_row rfl 46 (.tmp 2) (.tmp 38) rfl N Q rfl rfl 46 _ HY.out.res (by rw [HQS.out]; kernel_rfl) (by rw [HQS.out]; rfl) HQO.out ?_))
  have hret : Whole (Y.setRow N Q) N 46 Q := setRow_heap _ _ _ _ _ _ HY.out.res
  refine bodyPost_ret (results_cell_row rfl _ _ N 46 _ (0, 0) _ rfl hret rfl rfl (by rw [HQS.out]; kernel_rfl)) rfl ?_
  have hnr : r ≠ N := hrN
  have hY2 : KpB X (Y.setRow N Q) := HY.out.kp.trans (KpB.setRow HY.out.res (by decide))
  refine ⟨a, ?_, hY2 _ _ (HX.out.byt), ?_, ?_⟩
  · rw [← HQ.out]; rfl
  · have hb : Whole (Y.setRow N Q) r 66 (c3.set 17 (.int .i64 (L.length : Nat))).toArray := Whole.farRow HY.out.blk hnr _
    rw [← HC3.out, ← HC2.out] at hb
    exact ⟨_, _, ring_taken HX.out.ring hY2 (.int .u64 0) (.slice none 0 0) hb⟩
  · exact grown_fresh HY.out.gr (by rw [hN]; exact Nat.le_refl _) Q
end Yd
end Go.Proofs.Ytbmabfnjjflbnaa
