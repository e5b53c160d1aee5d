/- The library's sort of a short row of numbers of 64 digits. -/
import Derived.Test.YtlbfjdpcnnplnaaRfTake2
import Derived.BigQuiet
namespace Go.Proofs.Ytlbfjdpcnnplnaa
namespace Fee
open Go.ChangeShapes Go.WideShapes Go.ChangeAt Go.RowKit Go.Maps
open Num Mem Words Chacha Aead Poly Quiet RowV RowS

def us (l : List Nat) : List Value := l.map fun v => .int .u64 (v : Nat)
theorem us_length (l : List Nat) : (us l).length = l.length := List.length_map _
theorem us_get {l : List Nat} {i v : Nat} (h : l[i]? = some v) : (us l)[i]? = some (.int .u64 (v : Nat)) := by unfold us; rw [List.getElem?_map, h]; rfl
theorem us_set (l : List Nat) (i v : Nat) : (us l).set i (.int .u64 (v : Nat)) = us (l.set i v) := by unfold us; rw [List.map_set]
/-- the row that is being put in order -/
structure Ro (w : World) (B g c n : Nat) (l : List Nat) (X : World) : Prop where
  own : X.ownsRow B 23 1 (.slice (some ⟨g, 0, none⟩) n c) n (us l)
  gr : w.grownBy X (some g)
theorem Ro.cell {w X : World} {B g c n : Nat} {l : List Nat} (h : Ro w B g c n l X) {i v : Nat} (hv : l[i]? = some v) : X.cell? ⟨g, i, none⟩ = some (.int .u64 (v : Nat)) ∧ X.frozen? ⟨g, i, none⟩ = false := by
  have hi : i < l.length := (List.getElem?_eq_some_iff.1 hv).1
  have hm : l.length = n := by have := h.own.1; rw [us_length, Nat.mul_one] at this; exact this
  obtain ⟨g', e, _, _, hc⟩ := own_cells h.own (by omega)
  injection e with e
  injection e with e
  subst e
  exact hc i _ (us_get hv)
theorem Ro.put {w X : World} {B g c n : Nat} {l : List Nat} (h : Ro w B g c n l X) (i v : Nat) : Ro w B g c n (l.set i v) (X.setCell ⟨g, i, none⟩ (.int .u64 (v : Nat))) :=
  ⟨by rw [← us_set]; exact own_put h.own i _, grown_tr h.gr (grown_cell1 X g i _)⟩
theorem Ro.drewN {w X : World} {B g c n : Nat} {l : List Nat} (h : Ro w B g c n l X) (q : Nat) : Ro w B g c n l (X.drewN q) := ⟨own_keep h.own (Mem.below_drewN (Below.refl _ _) q), ⟨h.gr.os, h.gr.tape, h.gr.output, h.gr.size, h.gr.block⟩⟩

abbrev Asc (l : List Nat) : Prop := l.Pairwise (· ≤ ·)
/-- x on its way down -/
structure Mid (xs zs : List Nat) (k j x : Nat) (a b r : List Nat) : Prop where
  eq : zs = a ++ x :: (b ++ r)
  perm : zs.Perm xs
  la : a.length = j
  lb : j + b.length = k
  asc : Asc (a ++ b)
  up : ∀ y ∈ b, x < y
theorem Mid.done {xs zs : List Nat} {k j x : Nat} {a b r : List Nat} (h : Mid xs zs k j x a b r) (hs : ∀ y ∈ a, y ≤ x) : Asc (zs.take (k + 1)) := by
  have e : zs.take (k + 1) = a ++ x :: b := by
    rw [h.eq, ← List.cons_append, ← List.append_assoc, List.take_append_of_le_length (by rw [List.length_append, List.length_cons]; have := h.la; have := h.lb; omega), List.take_of_length_le (by rw [List.length_append, List.length_cons]; have := h.la; have := h.lb; omega)]
  rw [e]
  have h1 := List.pairwise_append.1 h.asc
  refine List.pairwise_append.2 ⟨h1.1, List.pairwise_cons.2 ⟨fun y hy => Nat.le_of_lt (h.up y hy), h1.2.1⟩, fun y hy z hz => ?_⟩
  rcases List.mem_cons.1 hz with rfl | hz
  · exact hs y hy
  · exact h1.2.2 y hy z hz
theorem Mid.down {xs zs : List Nat} {k j x y : Nat} {a b r : List Nat} (h : Mid xs zs k (j + 1) x (a ++ [y]) b r) (hxy : x < y) : Mid xs ((zs.set (j + 1) y).set j x) k j x a (y :: b) r := by
  have hla : a.length = j := by have := h.la; rw [List.length_append, List.length_singleton] at this; omega
  have e : (zs.set (j + 1) y).set j x = a ++ x :: (y :: b ++ r) := by
    rw [h.eq, List.append_assoc, List.singleton_append]
    rw [List.set_append_right _ _ (by omega), hla, show j + 1 - j = 1 by omega, List.set_append_right _ _ (by omega), hla, Nat.sub_self]
    rfl
  refine ⟨e, ?_, hla, by have := h.lb; rw [List.length_cons]; omega, by have := h.asc; rw [List.append_assoc] at this; exact this, fun z hz => ?_⟩
  · rw [e]
    refine List.Perm.trans ?_ h.perm
    rw [h.eq, List.append_assoc]
    exact List.Perm.append_left a (List.Perm.swap y x _)
  · rcases List.mem_cons.1 hz with rfl | hz
    · exact hxy
    · exact h.up z hz
theorem Mid.last {xs zs : List Nat} {k j x : Nat} {a b r : List Nat} (h : Mid xs zs k (j + 1) x a b r) : ∃ a' y, a = a' ++ [y] ∧ zs[j]? = some y ∧ zs[j + 1]? = some x ∧ (y ≤ x → ∀ z ∈ a, z ≤ x) := by
  have hne : a ≠ [] := fun e => by have := h.la; rw [e] at this; simp at this
  obtain ⟨a', y, rfl⟩ : ∃ a' y, a = a' ++ [y] := ⟨a.dropLast, a.getLast hne, (List.dropLast_concat_getLast hne).symm⟩
  have hl : a'.length = j := by have := h.la; rw [List.length_append, List.length_singleton] at this; omega
  refine ⟨a', y, rfl, ?_, ?_, fun hyx z hz => ?_⟩
  · rw [h.eq, List.append_assoc, List.getElem?_append_right (by omega), hl, Nat.sub_self]; rfl
  · rw [h.eq, List.append_assoc, List.getElem?_append_right (by omega), hl, show j + 1 - j = 1 by omega]; rfl
  · have h1 := (List.pairwise_append.1 (List.pairwise_append.1 h.asc).1)
    rcases List.mem_append.1 hz with hz | hz
    · exact Nat.le_trans (h1.2.2 z hz y (by simp)) hyx
    · rw [List.mem_singleton] at hz
      omega
theorem mid_start {xs zs : List Nat} {k x : Nat} (hp : zs.Perm xs) (ha : Asc (zs.take k)) (hx : zs[k]? = some x) : Mid xs zs k k x (zs.take k) [] (zs.drop (k + 1)) := by
  have hl := (List.getElem?_eq_some_iff.1 hx).1
  refine ⟨?_, hp, by rw [List.length_take]; omega, rfl, by rw [List.append_nil]; exact ha, fun y hy => (by cases hy)⟩
  rw [List.nil_append]
  have h1 : zs.drop k = x :: zs.drop (k + 1) := by
    rw [List.drop_eq_getElem_cons hl]
    congr 1
    exact (List.getElem?_eq_some_iff.1 hx).2
  rw [← h1, List.take_append_drop]
set_option maxRecDepth 100000 in
theorem nan_any (v : Nat) (w : World) : Calls Try.prog 52 #[.int .u64 (v : Nat)] w fun e w' => e = .returned (.bool false) ∧ w = w' := by
  go_enter Try.func52, Try.ntmps52
  go_wp2_with fail
  go_ret
  exact ⟨rfl, rfl⟩
set_option maxRecDepth 100000 in
theorem less_any (x y : Nat) (w : World) : Calls Try.prog 42 #[.int .u64 (x : Nat), .int .u64 (y : Nat)] w fun e w' => e = .returned (.bool (decide (x < y))) ∧ w = w' := by
  have HN := Lib.hid (nan_any x w)
  go_enter Try.func42, Try.ntmps42
  go_wp2_with fail
  refine HN.out.mono ?_
  rintro e w1 ⟨rfl, rfl⟩
  go_wp2_with fail
  go_ret
  refine ⟨?_, rfl⟩
  simp
set_option maxRecDepth 100000 in
set_option maxHeartbeats 2000000 in
theorem isort_any (B g c n : Nat) (xs : List Nat) (w : World) (h : w.ownsRow B 23 1 (.slice (some ⟨g, 0, none⟩) n c) n (us xs)) (hl : xs.length = n) (hn : n ≤ 1000) :
    Calls Try.prog 36 #[.slice (some ⟨g, 0, none⟩) n c, .int .i64 0, .int .i64 (n : Nat)] w fun e w' => e = .returned (.tuple #[]) ∧ ∃ zs, zs.Perm xs ∧ Asc zs ∧ Ro w B g c n zs w' := by
  have H0 := Lib.hid (show Ro w B g c n xs w from ⟨h, ⟨rfl, rfl, rfl, Nat.le_refl _, fun _ _ _ => rfl⟩⟩)
  have HL := Lib.hid hl
  clear h hl
  go_enter Try.func36, Try.ntmps36
  go_wp2_with fail
  go_loopw [6, 7] (fun i _ X => ∃ (k : Nat) (zs : List Nat), 1 ≤ k ∧ k ≤ n + 1 ∧ i = .int .i64 k ∧ zs.Perm xs ∧ Asc (zs.take k) ∧ Ro w B g c n zs X) (fun i _ _ => n - (intOf i).toNat)
  case atStart => exact ⟨1, xs, Nat.le_refl _, by omega, rfl, List.Perm.refl _, by rcases xs with _ | ⟨x, xs⟩ <;> simp [Asc], H0.out⟩
  case round =>
    obtain ⟨k, zs, hk1, hk2, rfl, hp, ha, hR⟩ := hrel
    have HP := Lib.hid hp
    have HA := Lib.hid ha
    have HR := Lib.hid hR
    clear hp ha hR H0
    by_cases hlt : k < n
    · obtain ⟨x, hx⟩ : ∃ x, zs[k]? = some x := ⟨_, List.getElem?_eq_getElem (by rw [HP.out.length_eq, HL.out]; exact hlt)⟩
      have HM := Lib.hid (mid_start HP.out HA.out hx)
      clear hx
      go_wp2_with fail
      go_loopw [7] (fun jv X => ∃ (j : Nat) (ys a b r : List Nat), j ≤ k ∧ jv = .int .i64 j ∧ Mid xs ys k j x a b r ∧ Ro w B g c n ys X) (fun jv _ => (intOf jv).toNat)
      case atStart => exact ⟨k, zs, _, _, _, Nat.le_refl _, rfl, HM.out, HR.out⟩
      case round =>
        obtain ⟨j, ys, a, b, r, hj, rfl, hM, hRo⟩ := hrel
        have HM2 := Lib.hid hM
        have HR2 := Lib.hid hRo
        clear hM hRo HM HR HP HA
        rcases Nat.eq_zero_or_pos j with h0 | h0
        · subst h0
          have HF := Lib.hid (HM2.out.done (by
            have : a = [] := List.eq_nil_of_length_eq_zero HM2.out.la
            rw [this]
            intro y hy
            cases hy))
          go_wp2_with fail
          go_quiet (fail)
          go_wp2_with fail
          go_round
          case rel => exact ⟨k + 1, ys, by omega, by omega, by go_num, HM2.out.perm, HF.out, HR2.out.drewN nq⟩
          case measure => simp [intOf]; omega
        · obtain ⟨j', rfl⟩ : ∃ j', j = j' + 1 := ⟨j - 1, by omega⟩
          obtain ⟨a', y, rfl, hy, hxx, hle⟩ := HM2.out.last
          obtain ⟨c1, f1⟩ := HR2.out.cell hxx
          obtain ⟨c0, f0⟩ := HR2.out.cell hy
          have HLE := Lib.hid hle
          have HLS := Lib.hid (less_any x y)
          obtain ⟨J, hJ⟩ : ∃ J, j' + 1 = J := ⟨_, rfl⟩
          have HJ := Lib.hid hJ
          rw [hJ] at c1 f1 ⊢
          have HY := Lib.hid (show ys[j']? = some y ∧ ys[J]? = some x from ⟨hy, by rw [← hJ]; exact hxx⟩)
          have hjn : J < n := by omega
          have hjn' : j' < n := by omega
          have hw1 : IntKind.i64.wrap ((J : Int) - 1) = (j' : Int) := by rw [IntKind.wrap_i64]; omega
          have hd : decide ((0 : Int) < (J : Int)) = true := decide_eq_true (by omega)
          have hd' : 0 < J := by omega
          clear hy hxx hle hJ
          rcases hb : decide (x < y) with _ | _
          · have hyx := of_decide_eq_false hb
            rw [hb] at HLS
            have HF := Lib.hid (HM2.out.done (HLE.out (by omega)))
            clear hb hyx
            go_wp2_with fail
            go_quiet ((go_at_call 42; refine Calls.quiet_of_same (Calls.mono (HLS.out _) (fun e w' h => ⟨h.1, h.2.symm⟩))))
            go_wp2_with fail
            go_round
            case rel => exact ⟨k + 1, ys, by omega, by omega, by go_num, HM2.out.perm, HF.out, HR2.out.drewN nq⟩
            case measure => simp [intOf]; omega
          · have hyx := of_decide_eq_true hb
            rw [hb] at HLS
            have HMD := Lib.hid (HM2.out.down hyx)
            clear hb hyx
            go_wp2_with fail
            go_quiet ((go_at_call 42; refine Calls.quiet_of_same (Calls.mono (HLS.out _) (fun e w' h => ⟨h.1, h.2.symm⟩))))
            go_wp2_with fail
            refine cut_world (fun W => Ro w B g c n ys W) (HR2.out.drewN nq) ?_
            intro W hW
            have HR3 := Lib.hid hW
            clear hW c0 c1 f0 f1 HR2
            obtain ⟨c1, f1⟩ := HR3.out.cell HY.out.2
            obtain ⟨c0, f0⟩ := HR3.out.cell HY.out.1
            have hne : ¬ j' = J := by have := HJ.out; omega
            have hne2 : ¬ J = j' := fun e => hne e.symm
            go_region
            clear c0 c1 f0 f1 hne hne2
            refine cut_post (F := Exit.inBlock _ _) (fun X => Ro w B g c n ((ys.set J y).set j' x) X) ?_ ?_
            · exact ((HR3.out.put J y).put j' x).drewN 1
            rintro X h1
            have H3 := Lib.hid h1
            rw [HJ.out] at HMD
            clear h1 HR3
            go_wp2_with fail
            go_round
            case rel => exact ⟨j', _, _, _, _, by have := HJ.out; omega, rfl, HMD.out, H3.out⟩
            case measure => simp [intOf]; have := HJ.out; omega
    · have HF := Lib.hid (show Asc zs from by have := HA.out; rw [List.take_of_length_le (by rw [HP.out.length_eq, HL.out]; omega)] at this; exact this)
      go_wp2_with fail
      go_end0
      exact ⟨rfl, zs, HP.out, HF.out, HR.out⟩
end Fee
end Go.Proofs.Ytlbfjdpcnnplnaa
