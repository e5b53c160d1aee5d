/- Package wheel: slices.Insert of one timer where the row grows; at any place. -/
import Derived.Test.YtgbahkkccpcadaaWhIns
namespace Go.Proofs.Ytgbahkkccpcadaa
namespace Wh
open Go.ChangeShapes Go.WideShapes Go.ChangeAt Go.RowKit
open Num Mem Words Chacha Aead Poly Quiet RowV RowS Ops

set_option maxRecDepth 100000 in
set_option maxHeartbeats 4000000 in
theorem insert_grow {w : World} {B c g vb : Nat} {L : List Tm} {cur : Array Value} (i : Nat) (hi : i < L.length) (hL : L.length ≤ 1000000) (hw : Whole w g 38 cur) (h1 : L.length ≤ c) (h1b : c < L.length + 1) (ht : cur.toList.take (L.length * 3) = flatT L) (hB : B ≤ w.heap.size)
    (x : Tm) (hv : Whole w vb 38 (tmL x).toArray) :
    Calls Try.prog 32 #[.slice (some ⟨g, 0, none⟩) L.length c, .int .i64 i, .slice (some ⟨vb, 0, none⟩) 1 1] w fun e w' =>
      ∃ c', e = .returned (.slice (some ⟨w.heap.size, 0, none⟩) (L.length + 1) c') ∧ RowT w' B (some ⟨w.heap.size, 0, none⟩) c' (L.take i ++ x :: L.drop i) ∧ Below w.heap.size w w' := by
  obtain ⟨n, hn⟩ : ∃ n, L.length = n := ⟨_, rfl⟩
  obtain ⟨N, hN⟩ : ∃ N, w.heap.size = N := ⟨_, rfl⟩
  obtain ⟨i0, hi0, hz0, hzs, hzb⟩ := info_parts infoT
  obtain ⟨D, hD⟩ : ∃ D, D = flatT (L.drop i) := ⟨_, rfl⟩
  have hDl : D.length = (n - i) * 3 := by rw [hD, flatT_length, List.length_drop, hn]
  have hxl : (tmL x).length = 3 := rfl
  have hgN : g < N := hN ▸ hw.lt
  have hvN : vb < N := hN ▸ hv.lt
  have hcell : ∀ j v, (flatT L)[j]? = some v → w.cell? ⟨g, j, none⟩ = some v := fun j v hj => by
    rw [hw.cell, ← Array.getElem?_toList]
    rw [← ht, List.getElem?_take] at hj
    split at hj
    · exact hj
    · cases hj
  have hold : (Builtin.firstCells i0.size i (.slice (some ⟨g, 0, none⟩) i c)).run Try.prog w.drew = .ok (flatT (L.take i)).toArray w.drew := by
    rw [hzs]
    exact run_firstCells_some w.drew 3 i ⟨g, 0, none⟩ i c (flatT (L.take i)) (by rw [flatT_length, List.length_take]; omega) (fun j v hj => by
      rw [addr_add, Nat.zero_add]
      refine hcell j v ?_
      rw [flatT_take, List.getElem?_take] at hj
      split at hj
      · exact hj
      · cases hj)
  have hik : i + (n + 1 - i) = n + 1 := by omega
  have hkk : (n : Int) + 1 - (i : Int) = ((n + 1 - i : Nat) : Int) := by omega
  have hrz : ∀ ty, (Builtin.append_ #[45, 3] ty #[.slice (some ⟨g, 0, none⟩) i c, .int .i64 ((n : Int) + 1 - (i : Int))]).run Try.prog w =
      .ok (.slice (some ⟨N, 0, none⟩) (n + 1) (grownCap w (n + 1) c 38)) (w.drew.alloc (.cells ((flatT (L.take i)).toArray ++ Builtin.zeroCells (Value.agg zeroT.toArray).cells (n + 1 - i) ++ Builtin.zeroCells (Value.agg zeroT.toArray).cells (grownCap w (n + 1) c 38 - (n + 1))) 38)) := fun ty => by
    have h := Lib.run_append_grow_zeros w 45 3 ty 38 i0 _ .i64 .i64 Try.underlying45 Try.underlying3 hi0 hz0 (some ⟨g, 0, none⟩) i c (flatT (L.take i)) hold (n + 1 - i) (by omega) (by rw [hzs]; omega) (by omega) (by omega) (by rw [hzb]; omega) (by rw [hzb, hik]; exact growslice_fits (by omega) (by omega))
    rw [hik, hN] at h
    rw [hkk]
    exact h
  have hGn : n + 1 ≤ grownCap w (n + 1) c 38 := grownCap_ge w _ _ _
  have hGm := grownCap_le_maxLen w (n + 1) c 38 (by unfold maxLen; omega)
  obtain ⟨G, hG⟩ : ∃ G, grownCap w (n + 1) c 38 = G := ⟨_, rfl⟩
  rw [hG] at hrz hGn hGm
  obtain ⟨ROW, hROW⟩ : ∃ ROW : Array Value, (flatT (L.take i)).toArray ++ Builtin.zeroCells (Value.agg zeroT.toArray).cells (n + 1 - i) ++ Builtin.zeroCells (Value.agg zeroT.toArray).cells (G - (n + 1)) = ROW := ⟨_, rfl⟩
  rw [hROW] at hrz
  have hzc : ∀ k, (Builtin.zeroCells (Value.agg zeroT.toArray).cells k).size = k * 3 := fun k => by rw [size_zeroCells]; rfl
  have hRs : ROW.size = G * 3 := by
    rw [← hROW]
    simp only [Array.size_append, hzc, List.size_toArray, flatT_length, List.length_take, hn]
    omega
  have hRt : ROW.toList.take (i * 3) = flatT (L.take i) := by
    rw [← hROW]
    simp only [Array.toList_append, List.append_assoc]
    exact List.take_left' (by rw [flatT_length, List.length_take]; omega)
  obtain ⟨W1, hW1⟩ : ∃ W1, W1 = w.drew.alloc (.cells ROW 38) := ⟨_, rfl⟩
  rw [← hW1] at hrz
  have hwN : Whole W1 N 38 ROW := by rw [hW1]; exact whole_new (w := w.drew) _ _ hN
  have hb1 : Below N w W1 := by rw [hW1, ← hN]; exact below_alloc (Below.refl w.heap.size w).drew _
  have hvw : Whole W1 vb 38 (tmL x).toArray := hv.below hb1 hvN
  have hgw : Whole W1 g 38 cur := hw.below hb1 hgN
  have hs1 : ∀ (W : World) (cs : Array Value), Whole W N 38 cs → cs.size = G * 3 → ∀ j, j < G * 3 → (W.cell? ⟨N, j, none⟩).isSome = true := fun W cs h hs j hj => by
    rw [h.cell, Array.getElem?_eq_getElem (by omega)]; rfl
  have hcpA : ∀ ty dc, (Builtin.copy_ #[45, 45] ty #[.slice (some ⟨N, i * 3, none⟩) (n + 1 - i) dc, .slice (some ⟨vb, 0, none⟩) 1 1]).run Try.prog W1 = .ok (goInt (Nat.min 1 (n + 1 - i))) (W1.setCells N (i * 3) (tmL x)) := fun ty dc =>
    run_copy_cellsN W1 _ _ ty 38 N (i * 3) (n + 1 - i) dc ⟨vb, 0, none⟩ 1 1 3 (tmL x) Try.underlying45 sizeT (by rw [hxl]; simp only [Nat.min_def]; split <;> omega)
      (fun j v hj => by rw [addr_add, Nat.zero_add, hvw.cell, List.getElem?_toArray]; exact hj)
      (fun j hj => hs1 _ _ hwN hRs _ (by omega)) (fun j hj => hwN.free _) (tm_each x)
  obtain ⟨W2, hW2⟩ : ∃ W2, W2 = W1.setCells N (i * 3) (tmL x) := ⟨_, rfl⟩
  rw [← hW2] at hcpA
  have hwN2 : Whole W2 N 38 (putsA ROW (i * 3) (tmL x)) := by rw [hW2]; exact whole_puts _ _ hwN
  have hgr2 : W1.grownBy W2 (some N) := by rw [hW2]; exact grown_puts N _ _ _
  have hb2 : Below N w W2 := ⟨hgr2.os.trans hb1.os, hgr2.tape.trans hb1.tape, hgr2.output.trans hb1.output, Nat.le_trans hb1.size hgr2.size, fun k hk => (hgr2.block k (Nat.lt_of_lt_of_le (hN ▸ hk) hb1.size) (fun e => by injection e with e; omega)).trans (hb1.block k hk)⟩
  have hgw2 : Whole W2 g 38 cur := hw.below hb2 hgN
  have hcpB : ∀ ty dc sc, (Builtin.copy_ #[45, 45] ty #[.slice (some ⟨N, (i + 1) * 3, none⟩) (n + 1 - (i + 1)) dc, .slice (some ⟨g, i * 3, none⟩) (n - i) sc]).run Try.prog W2.drew = .ok (goInt (Nat.min (n - i) (n + 1 - (i + 1)))) (W2.drew.setCells N ((i + 1) * 3) D) := fun ty dc sc =>
    run_copy_cellsN W2.drew _ _ ty 38 N ((i + 1) * 3) (n + 1 - (i + 1)) dc ⟨g, i * 3, none⟩ (n - i) sc 3 D Try.underlying45 sizeT (by rw [hDl]; simp only [Nat.min_def]; split <;> omega)
      (fun j v hj => by
        rw [addr_add]
        exact (hb2.drew.cell (p := ⟨g, i * 3 + j, none⟩) hgN).trans (hcell _ v (by rw [hD, flatT_drop, List.getElem?_drop] at hj; exact hj)))
      (fun j hj => hs1 _ _ hwN2.drew (by rw [putsA_size, hRs]) _ (by omega)) (fun j hj => hwN2.drew.free _) (by rw [hD]; exact flatT_each _)
  obtain ⟨W3, hW3⟩ : ∃ W3, W3 = W2.drew.setCells N ((i + 1) * 3) D := ⟨_, rfl⟩
  rw [← hW3] at hcpB
  have hgr3 : W2.drew.grownBy W3 (some N) := by rw [hW3]; exact grown_puts N _ _ _
  have hres := Lib.hid (show RowT W3 B (some ⟨N, 0, none⟩) G (L.take i ++ x :: L.drop i) ∧ Below N w W3 from by
    have hll : (L.take i ++ x :: L.drop i).length = n + 1 := by rw [List.length_append, List.length_cons, List.length_take, List.length_drop, hn]; omega
    have hb2d := hb2.drew
    refine ⟨RowT.mk_ (hN ▸ hB) (by rw [hW3]; exact whole_puts _ _ hwN2.drew) (by omega) hGm (by rw [putsA_size, putsA_size, hRs]) ?_, ⟨hgr3.os.trans hb2d.os, hgr3.tape.trans hb2d.tape, hgr3.output.trans hb2d.output, Nat.le_trans hb2d.size hgr3.size, fun k hk => (hgr3.block k (Nat.lt_of_lt_of_le (hN ▸ hk) hb2d.size) (fun e => by injection e with e; omega)).trans (hb2d.block k hk)⟩⟩
    rw [hll, putsA_list _ _ _ (by rw [putsA_size, hRs, hDl]; omega), putsA_list _ _ _ (by rw [hRs, hxl]; omega)]
    have hfl : (flatT (L.take i)).length = i * 3 := by rw [flatT_length, List.length_take, hn]; omega
    have hP : (ROW.toList.take (i * 3) ++ (tmL x ++ ROW.toList.drop (i * 3 + (tmL x).length))).take ((i + 1) * 3) = flatT (L.take i) ++ tmL x := by
      rw [hRt, ← List.append_assoc]
      exact List.take_left' (by rw [List.length_append, hfl, hxl]; omega)
    rw [hP, flatT_append]
    show _ = _ ++ (tmL x ++ flatT (L.drop i))
    rw [← hD, ← List.append_assoc (flatT (L.take i) ++ tmL x), ← List.append_assoc (flatT (L.take i))]
    exact List.take_left' (by rw [List.length_append, List.length_append, hfl, hDl, hxl]; omega))
  have hGi : ¬ (G = i) := by omega
  have hGim : ¬ (G = i + 1) := by omega
  have hci : ¬ (c = i) := by omega
  have hw1 : IntKind.i64.wrap ((i : Int) + 1) = (i : Int) + 1 := by rw [IntKind.wrap_i64]; omega
  have hw2 : IntKind.i64.wrap ((n : Int) + 1) = (n : Int) + 1 := by rw [IntKind.wrap_i64]; omega
  have hz1 : ¬ ((i : Int) = (n : Int)) := by omega
  have hz3 : (c : Int) < (n : Int) + 1 := by omega
  have htn : ((i : Int) + 1).toNat = i + 1 := by omega
  have hin : i ≤ n := by omega
  have hbA : (0 : Int) ≤ (i : Int) + 1 := by omega
  have hbB : (i : Int) ≤ (n : Int) := by omega
  have hbC : (i : Int) + 1 ≤ (n : Int) + 1 := by omega
  have mixed : Try.prog.follows Departure.mixedOrders = true := by kernel_rfl
  have hG63 : G ≤ 9223372036854775807 := by have : maxLen = 9223372036854775807 := rfl; omega
  have hc63 : c ≤ 9223372036854775807 := by have : maxLen = 9223372036854775807 := rfl; omega
  have HW3 := Lib.hid hW3
  have HW2 := Lib.hid hW2
  rw [hn] at hi hL h1 h1b ⊢
  rw [hN]
  clear hwN hwN2 hgw2 hgw hcell hs1 hW1 hW2 hW3 ht hw hB hn hv hgr2 hgr3 hvw hDl hD hold hRs hRt hzc hROW hb1 hb2 hik hG hkk
  go_enter Try.func32, Try.ntmps32
  go_upto_region 9 with fail
  go_wp2_with (first
    | (at_builtin; refine Lib.wpList_append_run _ rfl _ _ _ _ rfl _ _ rfl rfl _ _ (hrz _) ?_)
    | (at_builtin; refine wpList_copy_runI _ rfl _ _ 45 45 rfl _ _ rfl rfl (hcpA _ _) ?_))
  go_region_law_o (refine step_copy_runI rfl _ _ 45 45 rfl (.slice (some ⟨N, (i + 1) * 3, none⟩) (n + 1 - (i + 1)) (G - (i + 1))) (.slice (some ⟨g, i * 3, none⟩) (n - i) (c - i)) (by simp [Act.eval, Act.put]) (by simp [Act.eval, Act.put]) (hcpB _ _ _) ?_)
  go_wp2
  go_ret
  exact ⟨G, rfl, hres.out⟩

theorem insert_any {w : World} {B c vb : Nat} {A : Option Addr} {L : List Tm} (i : Nat) (hi : i ≤ L.length) (hL : L.length ≤ 1000000) (hr : RowT w B A c L) (hB : B ≤ w.heap.size) (x : Tm) (hv : Whole w vb 38 (tmL x).toArray) (hne : ∀ g, A = some ⟨g, 0, none⟩ → vb ≠ g) :
    Calls Try.prog 32 #[.slice A L.length c, .int .i64 i, .slice (some ⟨vb, 0, none⟩) 1 1] w fun e w' =>
      ∃ A' c', e = .returned (.slice A' (L.length + 1) c') ∧ RowT w' B A' c' (L.take i ++ x :: L.drop i) ∧ w.grownBy w' (Value.slice A L.length c).ownBlock ∧ Lies2 w A A' := by
  by_cases e : i = L.length
  · subst e
    rw [List.take_length, List.drop_length]
    exact insert_end hL hr hB x hv
  · obtain ⟨g, cur, rfl, hBg, hw, h1, h2, h3, ht⟩ := hr.some_ (by omega)
    by_cases hc : L.length + 1 ≤ c
    · refine (insert_shift i (by omega) hL hw hc h2 h3 ht hBg x hv (hne g rfl)).mono ?_
      rintro e w' ⟨rfl, h4, h5⟩
      exact ⟨_, _, rfl, h4, h5, .inl rfl⟩
    · refine (insert_grow i (by omega) hL hw h1 (by omega) ht hB x hv).mono ?_
      rintro e w' ⟨c', rfl, h4, h5⟩
      exact ⟨_, _, rfl, h4, ⟨h5.os, h5.tape, h5.output, h5.size, fun i hi _ => h5.block i hi⟩, .inr ⟨_, rfl, Nat.le_refl _⟩⟩
end Wh
end Go.Proofs.Ytgbahkkccpcadaa
