/- Package wheel: slices.Insert of one timer. -/
import Derived.Test.YtgbahkkccpcadaaWhCut
namespace Go.Proofs.Ytgbahkkccpcadaa
namespace Wh
open Go.ChangeShapes Go.WideShapes Go.ChangeAt Go.RowKit
open Num Mem Words Chacha Aead Poly Quiet RowV RowS Ops

/-- where the row lies behind the call -/
def Lies2 (w : World) (A A' : Option Addr) : Prop := A' = A ∨ ∃ g, A' = some ⟨g, 0, none⟩ ∧ w.heap.size ≤ g
set_option maxRecDepth 100000 in
set_option maxHeartbeats 4000000 in
theorem insert_end {w : World} {B c vb : Nat} {A : Option Addr} {L : List Tm} (hL : L.length ≤ 1000000) (hr : RowT w B A c L) (hB : B ≤ w.heap.size) (x : Tm) (hv : Whole w vb 38 (tmL x).toArray) :
    Calls Try.prog 32 #[.slice A L.length c, .int .i64 L.length, .slice (some ⟨vb, 0, none⟩) 1 1] w fun e w' =>
      ∃ A' c', e = .returned (.slice A' (L.length + 1) c') ∧ RowT w' B A' c' (L ++ [x]) ∧ w.grownBy w' (Value.slice A L.length c).ownBlock ∧ Lies2 w A A' := by
  obtain ⟨n, hn⟩ : ∃ n, L.length = n := ⟨_, rfl⟩
  obtain ⟨i0, hi0, hz0, hz1, hz2⟩ := info_parts infoT
  have HR := Lib.hid (show w.ownsRow B 38 3 (.slice A n c) n (flatT L) from hn ▸ hr)
  have HNW := Lib.hid (show ∀ j u, (tmL x)[j]? = some u → w.cell? ((⟨vb, 0, none⟩ : Addr).add j) = some u from fun j u hj => by rw [addr_add, Nat.zero_add, hv.cell, List.getElem?_toArray]; exact hj)
  have hcap : n ≤ c := by
    rcases HR.out.2 with ⟨e, _⟩ | ⟨g, cap, cur, e, _, _, h1, _⟩
    · injection e with _ e1 e2; omega
    · injection e with _ _ e2; omega
  have hnil : A = none ∨ ∃ g, A = some ⟨g, 0, none⟩ := by
    rcases HR.out.2 with ⟨e, _⟩ | ⟨g, cap, cur, e, _⟩
    · injection e with e; exact .inl e
    · injection e with e; exact .inr ⟨g, e⟩
  have HN := Lib.hid hn
  rw [hn] at hL ⊢
  clear hr hv hn
  have HA := Lib.hid hnil
  clear hnil
  go_enter Try.func32, Try.ntmps32
  rcases HA.out with rfl | ⟨g, rfl⟩
  · go_wp2_with (at_builtin; refine wpList_append_own_at _ rfl _ _ 45 rfl B 38 i0 (.agg zeroT.toArray) 3 24 Try.underlying45 hi0 hz0 hz1 hz2 rfl (by decide) (.slice none n c) n (flatT L) rfl HR.out ⟨vb, 0, none⟩ 1 1 (tmL x) rfl rfl HNW.out (tm_each x) (by unfold maxLen; omega) (by omega) hB ?_; intro v' w' g1 g2 g3 g4)
    have G1 := Lib.hid g1
    have G2 := Lib.hid g2
    have G4 := Lib.hid g4
    clear g1 g2 g3 g4
    obtain ⟨A', c', rfl⟩ : ∃ A' c', v' = .slice A' (n + 1) c' := by
      rcases G1.out.2 with ⟨e, e0⟩ | ⟨g, cap, cur, e, _⟩
      · omega
      · exact ⟨_, _, e⟩
    go_wp2_with fail
    go_ret
    refine ⟨A', c', rfl, ?_, G2.out, ?_⟩
    · unfold RowT
      rw [List.length_append, HN.out, flatT_append, flatT_one]
      exact G1.out
    · rcases G4.out with e | e
      · rcases G1.out.2 with ⟨e1, e0⟩ | ⟨g', cap, cur, e1, _⟩
        · omega
        · rw [e1] at e; cases e
      · rcases G1.out.2 with ⟨e1, e0⟩ | ⟨g', cap, cur, e1, _⟩
        · omega
        · injection e1 with e1
          subst e1
          injection e with e
          exact .inr ⟨g', rfl, Nat.le_of_eq e.symm⟩
  · go_wp2_with (at_builtin; refine wpList_append_own_at _ rfl _ _ 45 rfl B 38 i0 (.agg zeroT.toArray) 3 24 Try.underlying45 hi0 hz0 hz1 hz2 rfl (by decide) (.slice (some ⟨g, 0, none⟩) n c) n (flatT L) rfl HR.out ⟨vb, 0, none⟩ 1 1 (tmL x) rfl rfl HNW.out (tm_each x) (by unfold maxLen; omega) (by omega) hB ?_; intro v' w' g1 g2 g3 g4)
    all_goals
      have G1 := Lib.hid g1
      have G2 := Lib.hid g2
      have G4 := Lib.hid g4
      clear g1 g2 g3 g4
      obtain ⟨A', c', rfl⟩ : ∃ A' c', v' = .slice A' (n + 1) c' := by
        rcases G1.out.2 with ⟨e, e0⟩ | ⟨g, cap, cur, e, _⟩
        · omega
        · exact ⟨_, _, e⟩
      go_wp2_with fail
      go_ret
      refine ⟨A', c', rfl, ?_, G2.out, ?_⟩
      · unfold RowT
        rw [List.length_append, HN.out, flatT_append, flatT_one]
        exact G1.out
      · rcases G1.out.2 with ⟨e1, e0⟩ | ⟨g', cap, cur, e1, _⟩
        · omega
        · injection e1 with e1
          subst e1
          rcases G4.out with e | e
          · injection e with e
            have e : g' = g := e
            exact .inl (by rw [e])
          · injection e with e
            exact .inr ⟨g', rfl, Nat.le_of_eq e.symm⟩

set_option maxRecDepth 100000 in
set_option maxHeartbeats 4000000 in
theorem insert_shift {w : World} {B c g vb : Nat} {L : List Tm} {cur : Array Value} (i : Nat) (hi : i < L.length) (hL : L.length ≤ 1000000) (hw : Whole w g 38 cur) (h1 : L.length + 1 ≤ c) (h2 : c ≤ maxLen) (h3 : cur.size = c * 3) (ht : cur.toList.take (L.length * 3) = flatT L) (hB : B ≤ g)
    (x : Tm) (hv : Whole w vb 38 (tmL x).toArray) (hvb : vb ≠ g) :
    Calls Try.prog 32 #[.slice (some ⟨g, 0, none⟩) L.length c, .int .i64 i, .slice (some ⟨vb, 0, none⟩) 1 1] w fun e w' =>
      e = .returned (.slice (some ⟨g, 0, none⟩) (L.length + 1) c) ∧ RowT w' B (some ⟨g, 0, none⟩) c (L.take i ++ x :: L.drop i) ∧ w.grownBy w' (some g) := by
  obtain ⟨n, hn⟩ : ∃ n, L.length = n := ⟨_, rfl⟩
  have hmax : c ≤ 9223372036854775807 := by have : maxLen = 9223372036854775807 := rfl; omega
  obtain ⟨D, hD⟩ : ∃ D, D = flatT (L.drop i) := ⟨_, rfl⟩
  have hDl : D.length = (n - i) * 3 := by rw [hD, flatT_length, List.length_drop, hn]
  have hcell : ∀ j v, (flatT L)[j]? = some v → w.drew.cell? ⟨g, j, none⟩ = some v := fun j v hj => by
    rw [hw.drew.cell, ← Array.getElem?_toList]
    rw [← ht, List.getElem?_take] at hj
    split at hj
    · exact hj
    · cases hj
  have hs1 : ∀ (W : World) (cs : Array Value), Whole W g 38 cs → cs.size = c * 3 → ∀ j, j < c * 3 → (W.cell? ⟨g, j, none⟩).isSome = true := fun W cs h hs j hj => by
    rw [h.cell, Array.getElem?_eq_getElem (by omega)]; rfl
  have hov : ∀ lb cb, (callFunc 39 #[.slice (some ⟨vb, 0, none⟩) 1 1, .slice (some ⟨g, (i + 1) * 3, none⟩) lb cb]).run Try.prog w = .ok (.value (.bool false)) w := fun lb cb => by
    have hsh : ∀ (b : Nat) (cs : Array Value), Whole w b 38 cs → w.shape? b = some (38, cs.size) := fun b cs h => by
      unfold Whole at h
      simp [World.shape?, h]
    rw [run_callFunc_extern Try.func39 (by kernel_rfl) (by kernel_rfl) (by kernel_rfl) (e := Extern.SlicesOverlaps.overlaps #[45, 45] #[4]) (by kernel_rfl),
      Lib.run_overlaps_apart w 45 4 38 Try.underlying45 3 sizeOfT ⟨vb, 0, none⟩ ⟨g, (i + 1) * 3, none⟩ 1 1 lb cb hvb 38 38 3 cur.size (hsh vb _ hv) (hsh g _ hw) (by omega) (hv.free 0) (hv.free 3)]
    rfl
  have hw1 : IntKind.i64.wrap ((i : Int) + 1) = (i : Int) + 1 := by rw [IntKind.wrap_i64]; omega
  have hw2 : IntKind.i64.wrap ((n : Int) + 1) = (n : Int) + 1 := by rw [IntKind.wrap_i64]; omega
  have hcp1 : ∀ ty dc sc, (Builtin.copy_ #[45, 45] ty #[.slice (some ⟨g, (i + 1) * 3, none⟩) (n + 1 - (i + 1)) dc, .slice (some ⟨g, i * 3, none⟩) (n + 1 - i) sc]).run Try.prog w.drew = .ok (goInt (Nat.min (n + 1 - i) (n + 1 - (i + 1)))) (w.drew.setCells g ((i + 1) * 3) D) := fun ty dc sc =>
    run_copy_cellsN w.drew _ _ ty 38 g ((i + 1) * 3) (n + 1 - (i + 1)) dc ⟨g, i * 3, none⟩ (n + 1 - i) sc 3 D Try.underlying45 sizeT (by rw [hDl]; simp only [Nat.min_def]; split <;> omega)
      (fun j v hj => by rw [addr_add]; exact hcell _ v (by rw [hD, flatT_drop, List.getElem?_drop] at hj; exact hj))
      (fun j hj => hs1 _ _ hw.drew h3 _ (by omega)) (fun j hj => hw.drew.free _) (by rw [hD]; exact flatT_each _)
  obtain ⟨W1, hW1⟩ : ∃ W1, W1 = w.drew.setCells g ((i + 1) * 3) D := ⟨_, rfl⟩
  rw [← hW1] at hcp1
  have hwh : Whole W1 g 38 (putsA cur ((i + 1) * 3) D) := by rw [hW1]; exact whole_puts _ _ hw.drew
  have hgr1 : w.grownBy W1 (some g) := by
    rw [hW1]
    exact (show w.grownBy w.drew (some g) from ⟨rfl, rfl, rfl, Nat.le_refl _, fun _ _ _ => rfl⟩).andThen (grown_puts g D w.drew _) (fun j hj => .inr (by rw [hj]))
  have hvw1 : Whole W1 vb 38 (tmL x).toArray := (hgr1.block vb hv.lt (fun e => hvb (Option.some.inj e))).trans hv
  have hcp2 : ∀ ty dc, (Builtin.copy_ #[45, 45] ty #[.slice (some ⟨g, i * 3, none⟩) (n + 1 - i) dc, .slice (some ⟨vb, 0, none⟩) 1 1]).run Try.prog W1 = .ok (goInt (Nat.min 1 (n + 1 - i))) (W1.setCells g (i * 3) (tmL x)) := fun ty dc =>
    run_copy_cellsN W1 _ _ ty 38 g (i * 3) (n + 1 - i) dc ⟨vb, 0, none⟩ 1 1 3 (tmL x) Try.underlying45 sizeT (by show 3 = _; simp only [Nat.min_def]; split <;> omega)
      (fun j v hj => by rw [addr_add, Nat.zero_add, hvw1.cell, List.getElem?_toArray]; exact hj)
      (fun j hj => hs1 _ _ hwh (by rw [putsA_size, h3]) _ (by have : (tmL x).length = 3 := rfl; omega)) (fun j hj => hwh.free _) (tm_each x)
  have hres := Lib.hid (show RowT (W1.setCells g (i * 3) (tmL x)) B (some ⟨g, 0, none⟩) c (L.take i ++ x :: L.drop i) ∧ w.grownBy (W1.setCells g (i * 3) (tmL x)) (some g) from by
    have hll : (L.take i ++ x :: L.drop i).length = n + 1 := by rw [List.length_append, List.length_cons, List.length_take, List.length_drop, hn]; omega
    have hxl : (tmL x).length = 3 := rfl
    refine ⟨RowT.mk_ hB (whole_puts _ _ hwh) (by omega) h2 (by rw [putsA_size, putsA_size, h3]) ?_, hgr1.andThen (grown_puts g _ _ _) (fun j hj => .inr (by rw [hj]))⟩
    rw [hll, putsA_list _ _ _ (by rw [putsA_size, h3]; omega), putsA_list _ _ _ (by rw [h3, hDl]; omega)]
    have e1 : cur.toList.take (i * 3) = (flatT L).take (i * 3) := by rw [← ht, List.take_take, hn, Nat.min_eq_left (by omega)]
    have hfl : (flatT (L.take i)).length = i * 3 := by rw [flatT_length, List.length_take, hn]; omega
    obtain ⟨R, hR⟩ : ∃ R, R = cur.toList.drop ((i + 1) * 3 + D.length) := ⟨_, rfl⟩
    rw [← hR]
    have hP1 : (cur.toList.take ((i + 1) * 3) ++ (D ++ R)).take (i * 3) = flatT (L.take i) := by
      rw [List.take_append_of_le_length (by rw [List.length_take, Array.length_toList]; omega), List.take_take, Nat.min_eq_left (by omega), e1, flatT_take]
    have hP2 : (cur.toList.take ((i + 1) * 3) ++ (D ++ R)).drop (i * 3 + (tmL x).length) = D ++ R := List.drop_left' (by rw [List.length_take, Array.length_toList, hxl]; omega)
    rw [hP1, hP2, flatT_append]
    show _ = _ ++ (tmL x ++ flatT (L.drop i))
    rw [← hD, ← List.append_assoc, ← List.append_assoc, ← List.append_assoc]
    exact List.take_left' (by rw [List.length_append, List.length_append, hfl, hDl, hxl]; omega))
  have HW := Lib.hid hW1
  have hz1 : ¬ ((i : Int) = (n : Int)) := by omega
  have hb1 : ¬ ((c : Int) < (n : Int) + 1) := by omega
  have hb2 : ¬ (c = i + 1) := by omega
  have hb3 : ¬ (c = i) := by omega
  have htn : ((i : Int) + 1).toNat = i + 1 := by omega
  have htn2 : ((n : Int) + 1).toNat = n + 1 := by omega
  have hin : i ≤ n := by omega
  have hbA : (0 : Int) ≤ (i : Int) + 1 := by omega
  have hbB : (i : Int) ≤ (n : Int) + 1 := by omega
  have hbC : (i : Int) + 1 ≤ (n : Int) + 1 := by omega
  have mixed : Try.prog.follows Departure.mixedOrders = true := by kernel_rfl
  rw [hn] at hi hL h1 ⊢
  clear hwh hcell hs1 hW1 ht hw h3 hB hn hv hgr1 hvw1 hDl hD
  go_enter Try.func32, Try.ntmps32
  go_wp2_with (simp only [hov])
  go_region_law_o (refine step_copy_runI rfl _ _ 45 45 rfl (.slice (some ⟨g, (i + 1) * 3, none⟩) (n + 1 - (i + 1)) (c - (i + 1))) (.slice (some ⟨g, i * 3, none⟩) (n + 1 - i) (c - i)) (by simp [Act.eval, Act.put]) (by simp [Act.eval, Act.put]) (hcp1 _ _ _) ?_)
  go_wp2_with (at_builtin; refine wpList_copy_runI _ rfl _ _ 45 45 rfl _ _ rfl rfl (hcp2 _ _) ?_)
  go_ret
  exact ⟨rfl, hres.out⟩
end Wh
end Go.Proofs.Ytgbahkkccpcadaa
