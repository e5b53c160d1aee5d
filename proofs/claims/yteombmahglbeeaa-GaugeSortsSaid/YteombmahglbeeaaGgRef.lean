/- The document's own sorting: each put in its place. -/
import Derived.Test.YteombmahglbeeaaGgMid
import Derived.Test.YteombmahglbeeaaRowS
import Derived.BigQuiet
namespace Go.Proofs.Yteombmahglbeeaa
namespace Fl
/-- x put before the k-th -/
def at_ (t : List Nat) (k x : Nat) : List Nat := t.take k ++ x :: t.drop k
theorem at_len (t : List Nat) (k x : Nat) (h : k ≤ t.length) : (at_ t k x).length = t.length + 1 := by
  unfold at_
  rw [List.length_append, List.length_cons, List.length_take, List.length_drop]
  omega
theorem at_end (t : List Nat) (x : Nat) : at_ t t.length x = t ++ [x] := by
  unfold at_
  rw [List.take_length, List.drop_length]
theorem at_here (t : List Nat) (k x : Nat) (h : k ≤ t.length) : (at_ t k x)[k]? = some x := by
  unfold at_
  rw [List.getElem?_append_right (by rw [List.length_take]; omega), List.length_take, Nat.min_eq_left h, Nat.sub_self]
  rfl
theorem at_before (t : List Nat) (j x : Nat) (h : j < t.length) : (at_ t (j + 1) x)[j]? = some t[j] := by
  unfold at_
  rw [List.getElem?_append_left (by rw [List.length_take]; omega), List.getElem?_take_of_lt (by omega), List.getElem?_eq_getElem h]
theorem at_swap (t : List Nat) (j x : Nat) (h : j < t.length) : ((at_ t (j + 1) x).set j x).set (j + 1) t[j] = at_ t j x := by
  unfold at_
  have e : t.take (j + 1) = t.take j ++ [t[j]] := List.take_succ_eq_append_getElem h
  have hl : (t.take j).length = j := by rw [List.length_take]; omega
  rw [e, List.append_assoc, List.set_append_right _ _ (by omega), hl, Nat.sub_self, List.set_append_right _ _ (by omega), hl, Nat.add_sub_cancel_left]
  rw [List.drop_eq_getElem_cons h]
  rfl
theorem put_done {s s' t : List Nat} {x j : Nat} (h : Srt s t) (hs : s' = s ++ [x]) (hw : Wd s') (h1 : ∀ y ∈ t.drop j, place x < place y) (h2 : ∀ y ∈ t.take j, place y ≤ place x) : srt s' = at_ t j x := by
  refine srt_unique hw (srt_srt s') ⟨?_, asc_put h.asc (fun y hy => Nat.le_of_lt (h1 y hy)) h2⟩
  rw [hs]
  exact (perm_put t x j).trans (h.perm.append_right [x])
theorem ordI_pos (x y : Nat) : decide (0 < ordI x y) = decide (place y < place x) := by
  rcases ordI_cases x y with ⟨h, e⟩ | ⟨h, e⟩ | ⟨h, e⟩
  · rw [e]; exact (decide_eq_false (by omega)).symm
  · rw [e]; exact (decide_eq_false (by omega)).symm
  · rw [e, decide_eq_true h]; rfl
end Fl
namespace GgSort
open Go.ChangeShapes Go.WideShapes Go.ChangeAt Go.RowKit
open Num Mem Words Chacha Aead Poly Quiet Fl Gauge RowV RowA RowS

theorem fc_set (l : List Nat) (i v : Nat) : (fc l).set i (F v) = fc (l.set i v) := by
  unfold fc
  rw [List.map_set]
theorem st_flt (b : Nat) : ∀ (a : Addr) (m : Mode) (w : World), (store a (.float .f64 b) m).run Try.prog w = stored Try.prog w a (.float .f64 b) m := fun a m w => run_store Try.prog w a _ m rfl
/-- the row that is being put in order -/
structure Ro (w : World) (g c m : Nat) (L : List Nat) (wr : World) : Prop where
  own : wr.ownsRow w.heap.size 25 1 (.slice (some ⟨g, 0, none⟩) m c) m (fc L)
  bel : Below w.heap.size w wr
theorem Ro.cell {w wr : World} {g c m : Nat} {L : List Nat} (h : Ro w g c m L wr) {i v : Nat} (hv : L[i]? = some v) : wr.cell? ⟨g, i, none⟩ = some (.float .f64 v) ∧ wr.frozen? ⟨g, i, none⟩ = false := by
  have hi : i < L.length := by
    rcases Nat.lt_or_ge i L.length with h | h
    · exact h
    · rw [List.getElem?_eq_none h] at hv; cases hv
  have hm : L.length = m := by have := h.own.1; rw [fc_length, Nat.mul_one] at this; exact this
  obtain ⟨g', e, _, _, hc⟩ := own_cells h.own (by omega)
  injection e with e
  injection e with e
  subst e
  exact hc i _ (by unfold fc; rw [List.getElem?_map, hv]; rfl)
theorem Ro.ge {w wr : World} {g c m : Nat} {L : List Nat} (h : Ro w g c m L wr) (hm : 0 < m) : w.heap.size ≤ g := by
  obtain ⟨g', e, hg, _, _⟩ := own_cells h.own hm
  injection e with e
  injection e with e
  subst e
  exact hg
theorem Ro.put {w wr : World} {g c m : Nat} {L : List Nat} (h : Ro w g c m L wr) (hm : 0 < m) (i v : Nat) : Ro w g c m (L.set i v) (wr.setCell ⟨g, i, none⟩ (.float .f64 v)) :=
  ⟨by rw [← fc_set]; exact own_put h.own i _, h.bel.setCell (h.ge hm) _⟩
theorem Ro.drewN {w wr : World} {g c m : Nat} {L : List Nat} (h : Ro w g c m L wr) (q : Nat) : Ro w g c m L (wr.drewN q) := ⟨own_keep h.own (below_drewN (Below.refl _ _) q), below_drewN h.bel q⟩

set_option maxRecDepth 100000 in
set_option maxHeartbeats 8000000 in
theorem rsort_any (A : Option Addr) (n c : Nat) (l : List Nat) (hl : Wd l) (hn : l.length = n) (hsz : n ≤ 200) (w : World) (hr : RdV w A (fc l)) :
    Calls Try.prog 10 #[.slice A n c] w fun e w' => ∃ A' c', e = .returned (.slice A' n c') ∧ w'.ownsRow w.heap.size 25 1 (.slice A' n c') n (fc (srt l)) ∧ Below w.heap.size w w' := by
  have HR := Lib.hid hr
  have HN := Lib.hid hn
  have HL := Lib.hid hl
  clear hr hn hl
  go_enter Try.func10, Try.ntmps10
  go_wp2_with fail
  go_loopw [3, 4] (fun s i wr => ∃ (k : Nat) (A' : Option Addr) (c' : Nat), k ≤ n ∧ i = .int .i64 k ∧ s = .slice A' k c' ∧ wr.ownsRow w.heap.size 25 1 (.slice A' k c') k (fc (srt (l.take k))) ∧ Below w.heap.size w wr) (fun _ i _ => n - (intOf i).toNat)
  case atStart => exact ⟨0, none, 0, Nat.zero_le _, rfl, rfl, by simpa [srt, fc] using World.ownsRow_nil _ _ _ _, Below.refl _ _⟩
  case round =>
    obtain ⟨i, A', c', hk, rfl, rfl, hO, hB⟩ := hrel
    have HO := Lib.hid hO
    have KB := Lib.hid hB
    clear hO hB
    by_cases hlt : i < n
    · have hkl : i < l.length := by rw [HN.out]; exact hlt
      have hx2 := HL.out _ (List.getElem_mem hkl)
      have hwd : Wd (l.take i) := fun v hv => HL.out v (List.mem_of_mem_take hv)
      have hsr := srt_srt (l.take i)
      have hsn : l.take (i + 1) = l.take i ++ [l[i]] := List.take_succ_eq_append_getElem hkl
      have hwd1 : Wd (l.take (i + 1)) := fun v hv => HL.out v (List.mem_of_mem_take hv)
      have htl : (srt (l.take i)).length = i := by rw [hsr.length, List.length_take]; omega
      obtain ⟨b, off, rfl, hbl, hc⟩ := flt_at (HR.out.below KB.out (Nat.le_refl _)) hkl
      have hwt := hsr.wd hwd
      generalize l[i] = x at *
      generalize srt (l.take i) = t at *
      have HSR := Lib.hid hsr
      have HSN := Lib.hid hsn
      have HWT := Lib.hid hwt
      have HW1 := Lib.hid hwd1
      have HTL := Lib.hid htl
      clear hwd hsr hsn htl hwt hwd1 hkl
      go_wp2_with (at_builtin; refine wpList_push (.float .f64 x) rfl _ _ 22 25 (.float .f64 0) 8 Try.underlying22 infoF rfl rfl rfl rfl HO.out KB.out.size rfl (by omega) (by omega) ?_; intro A2 c2 w2 hown2 hb2 hsz2)
      obtain ⟨g, rfl, hg, hglt, _⟩ := own_cells hown2 (Nat.succ_pos i)
      have hRo : Ro w g c2 (i + 1) (at_ t i x) w2 := by
        refine ⟨?_, KB.out.trans hb2⟩
        have e : at_ t i x = t ++ [x] := by have := at_end t x; rw [HTL.out] at this; exact this
        rw [e]
        unfold fc
        rw [List.map_append]
        exact hown2
      have HRO := Lib.hid hRo
      clear hown2 hb2 hsz2 hRo hc hbl HO
      obtain ⟨M, hM⟩ : ∃ M, i + 1 = M := ⟨_, rfl⟩
      rw [hM] at HRO HSN HW1 ⊢
      have HMI := Lib.hid hM
      clear hM hglt
      go_loopw [5] (fun kv wr => ∃ j : Nat, j ≤ i ∧ kv = .int .i64 j ∧ Ro w g c2 M (at_ t j x) wr ∧ ∀ y ∈ t.drop j, place x < place y) (fun kv _ => (intOf kv).toNat)
      case atStart => exact ⟨i, Nat.le_refl _, rfl, HRO.out, by rw [← HTL.out, List.drop_length]; intro y hy; cases hy⟩
      case round =>
        obtain ⟨j, hj, rfl, h1, h2⟩ := hrel
        have H1 := Lib.hid h1
        have H2 := Lib.hid h2
        clear h1 h2 HRO
        rcases Nat.eq_zero_or_pos j with h0 | h0
        · subst h0
          have hfin := put_done (j := 0) HSR.out HSN.out HW1.out H2.out (by rw [List.take_zero]; intro y hy; cases hy)
          have HF := Lib.hid hfin
          clear hfin H2
          go_wp2_with fail
          go_quiet (fail)
          go_wp2_with fail
          go_round
          case rel => exact ⟨i + 1, some ⟨g, 0, none⟩, c2, by omega, by go_num, by rw [HMI.out], by rw [HMI.out, HF.out]; exact (H1.out.drewN nq).own, (H1.out.drewN nq).bel⟩
          case measure => simp [intOf]; omega
        · obtain ⟨j', hjj⟩ : ∃ j', j = j' + 1 := ⟨j - 1, by omega⟩
          have hjt : j' < t.length := by rw [HTL.out]; omega
          have hjM : j < M := by have := HMI.out; omega
          have hjM' : j' < M := by omega
          have hc1 := H1.out.cell (at_here t j x (by rw [HTL.out]; exact hj))
          have hc0 := H1.out.cell (i := j') (v := t[j']) (by rw [hjj]; exact at_before t j' x hjt)
          obtain ⟨c1, f1⟩ := hc1
          obtain ⟨c0, f0⟩ := hc0
          have hb4 : (at_ t j x)[j']? = some t[j'] := by rw [hjj]; exact at_before t j' x hjt
          have hy2 := HWT.out _ (List.getElem_mem hjt)
          have hw1 : IntKind.i64.wrap ((j : Int) - 1) = (j' : Int) := by rw [IntKind.wrap_i64]; omega
          have hd : decide ((0 : Int) < (j : Int)) = true := decide_eq_true (by omega)
          have hsw := at_swap t j' x hjt
          have hdr : t.drop j' = t[j'] :: t.drop j := by rw [hjj]; exact List.drop_eq_getElem_cons hjt
          have hbl := asc_below (x := x) HSR.out.asc hjt
          rw [← hjj] at hsw hbl
          generalize t[j'] = y at *
          have C1 := Lib.hid (rorder_any y x hy2 hx2)
          have HSW := Lib.hid hsw
          have HDR := Lib.hid hdr
          have HBL := Lib.hid hbl
          have HJ := Lib.hid hjj
          have HB4 := Lib.hid hb4
          clear hb4
          have hpos := ordI_pos y x
          generalize ordI y x = o at *
          rcases hb : decide (place x < place y) with _ | _
          · rw [hb] at hpos
            have hfin := put_done HSR.out HSN.out HW1.out H2.out (HBL.out (by have := of_decide_eq_false hb; omega))
            have HF := Lib.hid hfin
            clear hfin H2 hsw hdr hbl hjj hy2 hb
            go_wp2_with fail
            go_quiet ((go_at_call 23; refine Calls.quiet_of_same (Calls.mono (C1.out _) (fun e w' h => ⟨h.1, h.2.symm⟩))))
            go_wp2_with fail
            go_round
            case rel => exact ⟨i + 1, some ⟨g, 0, none⟩, c2, by omega, by go_num, by rw [HMI.out], by rw [HMI.out, HF.out]; exact (H1.out.drewN nq).own, (H1.out.drewN nq).bel⟩
            case measure => simp [intOf]; omega
          · rw [hb] at hpos
            have hlt2 : place x < place y := of_decide_eq_true hb
            have hnew : ∀ z ∈ t.drop j', place x < place z := by
              rw [HDR.out]
              intro z hz
              rcases List.mem_cons.1 hz with rfl | hz
              · exact hlt2
              · exact H2.out z hz
            have HNEW := Lib.hid hnew
            clear hnew hlt2 hsw hdr hbl hjj hy2 hb H2
            go_wp2_with fail
            go_quiet ((go_at_call 23; refine Calls.quiet_of_same (Calls.mono (C1.out _) (fun e w' h => ⟨h.1, h.2.symm⟩))))
            go_wp2_with fail
            refine cut_world (fun W => Ro w g c2 M (at_ t j x) W) (H1.out.drewN nq) ?_
            clear c0 c1 f0 f1 H1
            rintro W h1
            have H1 := Lib.hid h1
            clear h1
            obtain ⟨c1, f1⟩ := H1.out.cell (at_here t j x (by rw [HTL.out]; exact hj))
            obtain ⟨c0, f0⟩ := H1.out.cell HB4.out
            have hne : ¬ j' = j := by have := HJ.out; omega
            have hne2 : ¬ j = j' := fun e => hne e.symm
            have hst := st_flt x
            have hst2 := st_flt y
            go_region
            clear c0 c1 f0 f1 hst hst2 hne hne2
            refine cut_post (F := Exit.then _ _) (fun X => Ro w g c2 M (at_ t j' x) X) ?_ ?_
            · have h := (H1.out.put (by omega) j' x).put (by omega) j y
              rw [HSW.out] at h
              exact h.drewN 1
            rintro X h1
            have H3 := Lib.hid h1
            clear h1 H1
            go_wp2_with fail
            go_round
            case rel => exact ⟨j', by have := HJ.out; omega, rfl, H3.out, HNEW.out⟩
            case measure => simp [intOf]; have := HJ.out; omega
    · obtain rfl : i = n := by omega
      have hlk : l.take i = l := by rw [← HN.out, List.take_length]
      rw [hlk] at HO
      clear hlk hlt
      go_wp2_with fail
      go_ret
      exact ⟨A', c', rfl, HO.out, KB.out⟩
end GgSort
end Go.Proofs.Yteombmahglbeeaa
