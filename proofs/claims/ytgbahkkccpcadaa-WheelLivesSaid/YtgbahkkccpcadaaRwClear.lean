/- The document's own wheel: Clear, ClearAll. -/
import Derived.Test.YtgbahkkccpcadaaRwCut
namespace Go.Proofs.Ytgbahkkccpcadaa
namespace Wh
open Go.ChangeShapes Go.WideShapes Go.ChangeAt Go.RowKit Go.Maps
open Num Mem Words Chacha Aead Poly Quiet RowV RowS Ops EqLits Stamp

set_option maxRecDepth 100000 in
set_option maxHeartbeats 2000000 in
theorem rclear_any {w : World} {G : Nat → Prop} {x : Nat} {now : Int} {L : List Tm} (h : RE w G x now L) (hs : Srt L) (hu : Unq L) (hL : L.length ≤ 1000) (o k : Int) :
    Calls Try.prog 23 #[.pointer (some ⟨x, 0, none⟩), .int .i64 o, .int .i64 k] w fun e w' => e = .returned (.bool (findT o k L).isSome) ∧ RE w' (ext G w) x now (rem o k L) ∧ Fk G w w' := by
  have HF := Lib.hid (rfind_any h hL o k)
  have HE := Lib.hid h
  obtain ⟨A, c, h⟩ := h
  cases hf : findT o k L with
  | none =>
    rw [fndI_none hf] at HF
    have HRM := Lib.hid (rem_none (find_none hf))
    simp only [Option.isSome_none]
    clear h hf
    go_enter Try.func23, Try.ntmps23
    go_wp2_with fail
    refine HF.out.mono ?_
    rintro e w1 ⟨rfl, rfl⟩
    go_wp2_with fail
    go_ret
    exact ⟨rfl, by rw [HRM.out]; exact HE.out.mono (fun _ _ h => .inl h), Fk.refl _ _⟩
  | some y =>
    obtain ⟨i, hi, hy⟩ := fndI_some (j := 0) hf
    obtain ⟨_, ho, hk⟩ := find_some hf
    rw [hi, Nat.zero_add] at HF
    simp only [Option.isSome_some]
    have HRM := Lib.hid (rem_at hs hu hy ho hk)
    have hiL := (List.getElem?_eq_some_iff.1 hy).1
    rcases own_base h.row with ⟨_, e, _⟩ | ⟨g, rfl, hgl, hnc, hcm, hrd⟩
    · rw [e] at hiL; cases hiL
    obtain ⟨n, hn⟩ : ∃ n, L.length = n := ⟨_, rfl⟩
    obtain ⟨j, hj⟩ : ∃ j, i + 1 = j := ⟨_, rfl⟩
    rw [hj] at HRM
    have c1 : w.cell? ⟨x, 1, none⟩ = some (.slice (some ⟨g, 0, none⟩) n c) := by rw [← hn]; exact h.obj.cell 1
    have HC1 := Lib.hid (show ∀ V, Below w.heap.size w V → V.cell? ⟨x, 1, none⟩ = some (.slice (some ⟨g, 0, none⟩) n c) from fun V hV => by
      rw [← hn]
      exact (h.obj.below hV h.obj.lt).cell 1)
    have HOB := Lib.hid h.obj
    have HT := Lib.hid (rdo_take (c := c) (i := i) hgl hrd)
    obtain ⟨off, hA, hD⟩ : ∃ off, (if c = j then (some ⟨g, 0, none⟩ : Option Addr) else some ⟨g, j * 3, none⟩) = some ⟨g, off, none⟩ ∧ RdO w (some ⟨g, off, none⟩) (c - j) (L.drop j) := by
      have hd := rdo_drop (c := c) (cc := c - j) (j := j) hgl hnc hrd
      by_cases e : c = j
      · exact ⟨0, by rw [if_pos e], by rw [if_pos e] at hd; exact hd⟩
      · exact ⟨j * 3, by rw [if_neg e], by rw [if_neg e] at hd; exact hd⟩
    have HD := Lib.hid hD
    have hlt : (L.take i).length = i := by rw [List.length_take]; omega
    have hld : (L.drop j).length = n - j := by rw [List.length_drop, hn]
    have HLT := Lib.hid hlt
    have HLD := Lib.hid hld
    have hmax : c ≤ 9223372036854775807 := by have : maxLen = 9223372036854775807 := rfl; omega
    have hnc2 : n ≤ c := by omega
    have hic : i ≤ c := by omega
    have hjn : j ≤ n := by omega
    have hjc : j ≤ c := by omega
    have hj1 : (i : Int) + 1 = (j : Int) := by omega
    have hj2 : IntKind.i64.wrap (j : Int) = (j : Int) := by rw [IntKind.wrap_i64]; omega
    have hni : i + (n - j) ≤ 1000000 := by omega
    have hin : i + 0 ≤ 1000000 := by omega
    rw [hn] at hiL
    clear h hf hi hy hn hj ho hk hlt hld hgl hrd hnc hcm hD
    go_enter Try.func23, Try.ntmps23
    go_wp2_with fail
    refine HF.out.mono ?_
    rintro e w1 ⟨rfl, rfl⟩
    go_wp2_with (at_builtin; first | (refine wpList_catR rfl _ _ rfl rfl rfl rfl HLT.out (⟨rfl, .inl ⟨rfl, rfl⟩⟩ : w.ownsRow w.heap.size 43 3 (.slice none ([] : List Tm).length 0) ([] : List Tm).length (flatT [])) HT.out (Nat.le_refl _) (by omega) ?_; intro A1 cc1 w1 q1 q2; have c2 := HC1.out w1 q2) | (refine wpList_catR rfl _ _ rfl rfl rfl (by rw [List.nil_append]; exact HLT.out) HLD.out q1 (HD.out.below q2) q2.size hni ?_; intro A2 cc2 w2 q3 q4; have hO := HOB.out.below (q2.trans q4) HOB.out.lt; have c3 := hO.cell 1; have f3 := hO.free 1))
    go_ret
    rw [List.nil_append, HRM.out] at q3
    have hlen : (rem o k L).length = i + (n - j) := by rw [← HRM.out, List.length_append, HLT.out, HLD.out]
    rw [← hlen]
    exact ⟨rfl, re_put HE.out (q2.trans q4) q3 (hO.put 1 _) (fk_set _ _ _ _)⟩
set_option maxRecDepth 100000 in
set_option maxHeartbeats 2000000 in
theorem rclearAll_any {w : World} {G : Nat → Prop} {x : Nat} {now : Int} {L : List Tm} (h : RE w G x now L) (hL : L.length ≤ 1000) (o : Int) :
    Calls Try.prog 24 #[.pointer (some ⟨x, 0, none⟩), .int .i64 o] w fun e w' => e = .returned (.int .i64 ((L.length : Int) - (L.filter (fun y => !decide (y.o = o))).length)) ∧ RE w' (ext G w) x now (L.filter (fun y => !decide (y.o = o))) ∧ Fk G w w' := by
  have HE := Lib.hid h
  obtain ⟨A, c, h⟩ := h
  obtain ⟨n, hn⟩ : ∃ n, L.length = n := ⟨_, rfl⟩
  have HN := Lib.hid hn
  have HC1 := Lib.hid (show ∀ V, Below w.heap.size w V → V.cell? ⟨x, 1, none⟩ = some (.slice A n c) from fun V hV => by
    rw [← hn]
    exact (h.obj.below hV h.obj.lt).cell 1)
  have HOB := Lib.hid h.obj
  have HR := Lib.hid (RdT.own h.row)
  rw [hn] at hL ⊢
  clear h hn
  obtain ⟨p, hp⟩ : ∃ p, (fun y : Tm => !decide (y.o = o)) = p := ⟨_, rfl⟩
  rw [hp]
  have HP := Lib.hid hp
  clear hp
  go_enter Try.func24, Try.ntmps24
  go_wp2_with fail
  go_loopw [5, 6] (fun out i X => ∃ (k m : Nat) (A' : Option Addr) (c' : Nat), k ≤ n ∧ m ≤ k ∧ i = .int .i64 (k : Nat) ∧ out = .slice A' m c' ∧ ((L.take k).filter p).length = m ∧ X.ownsRow w.heap.size 43 3 (.slice A' ((L.take k).filter p).length c') ((L.take k).filter p).length (flatT ((L.take k).filter p)) ∧ Below w.heap.size w X) (fun _ i _ => n - (intOf i).toNat)
  case atStart => exact ⟨0, 0, none, 0, Nat.zero_le _, Nat.zero_le _, rfl, rfl, rfl, ⟨rfl, .inl ⟨rfl, rfl⟩⟩, Below.refl _ _⟩
  case round =>
    obtain ⟨k, m, A', c', hk, hmk, rfl, rfl, hm, hro, hb⟩ := hrel
    have HM := Lib.hid hm
    have HRO := Lib.hid hro
    have HB := Lib.hid hb
    have c1 := HC1.out wr hb
    clear hm hro hb
    by_cases hlt : k < n
    · have hkL : k < L.length := by rw [HN.out]; exact hlt
      have hx := List.getElem?_eq_getElem hkL
      have hts : L.take (k + 1) = L.take k ++ [L[k]] := List.take_succ_eq_append_getElem hkL
      generalize L[k] = y at hx hts
      obtain ⟨g, rfl, hgl, hrg⟩ := HR.out k y hx
      have hrr := range_below hrg HB.out hgl
      have cg : wr.cell? ⟨g, k * 3, none⟩ = some (.int .i64 y.o) := hrr 0 _ rfl
      have HRR := Lib.hid hrr
      have HTS := Lib.hid hts
      clear hx hts hgl hrg hrr hkL
      by_cases ho : y.o = o
      · have d1 : (y.o != o) = false := by simp [ho]
        have hF : (L.take (k + 1)).filter p = (L.take k).filter p := by
          rw [HTS.out, List.filter_append, List.filter_cons_of_neg (by rw [← HP.out]; simp [ho])]
          simp
        have HF := Lib.hid hF
        clear ho hF
        go_wp2_with fail
        go_round
        case rel => exact ⟨k + 1, m, A', c', by omega, by omega, by go_num, rfl, by rw [HF.out]; exact HM.out, by rw [HF.out]; exact HRO.out, HB.out⟩
        case measure => simp only [intOf]; omega
      · have d1 : (y.o != o) = true := by simp [ho]
        have hF : (L.take (k + 1)).filter p = (L.take k).filter p ++ [y] := by
          rw [HTS.out, List.filter_append, List.filter_cons_of_pos (by rw [← HP.out]; simp [ho])]
          simp
        have HF := Lib.hid hF
        have cg1 : wr.cell? ⟨g, k * 3 + 1, none⟩ = some (.int .i64 y.k) := HRR.out 1 _ rfl
        have cg2 : wr.cell? ⟨g, k * 3 + 2, none⟩ = some (.int .i64 y.t) := HRR.out 2 _ rfl
        have hrm := HRO.out
        rw [HM.out] at hrm
        have HRMM := Lib.hid hrm
        clear ho hF hrm
        go_wp2_with (at_builtin; refine wpList_pushS (tmL y) 3 rfl _ _ 29 43 (.agg zeroT.toArray) 24 Try.underlying29 infoR rfl (by omega) rfl rfl rfl HRMM.out HB.out.size rfl (tm_each y) (by omega) (by omega) ?_; intro A2 c2 w3 q1 q2)
        go_round
        case rel => exact ⟨k + 1, m + 1, A2, c2, by omega, by omega, by go_num, rfl, by rw [HF.out, List.length_append, HM.out]; rfl, by
          rw [HF.out, flatT_append, flatT_one, List.length_append, HM.out]
          exact q1, HB.out.trans q2⟩
        case measure => simp only [intOf]; omega
    · obtain rfl : k = n := by omega
      have hmn : m ≤ 1000 := by omega
      have hw1 : IntKind.i64.wrap ((k : Int) - (m : Int)) = (k : Int) - (m : Int) := by rw [IntKind.wrap_i64]; omega
      have hO := HOB.out.below HB.out HOB.out.lt
      have f1 := hO.free 1
      have c3 := hO.cell 1
      have hall : L.take k = L := List.take_of_length_le (Nat.le_of_eq HN.out)
      have HO := Lib.hid hO
      have HALL := Lib.hid hall
      clear hO hall
      go_wp2_with fail
      go_ret
      have h1 := HRO.out
      have h2 := HM.out
      rw [HALL.out] at h1 h2
      rw [h2]
      refine ⟨rfl, ?_⟩
      rw [← h2]
      exact re_put HE.out HB.out h1 (HO.out.put 1 _) (fk_set _ _ _ _)
end Wh
end Go.Proofs.Ytgbahkkccpcadaa
