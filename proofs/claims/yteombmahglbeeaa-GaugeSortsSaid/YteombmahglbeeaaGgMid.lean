/- gauge.Middle: the middle one of those that count. -/
import Derived.Test.YteombmahglbeeaaGgSort
namespace Go.Proofs.Yteombmahglbeeaa
namespace Fl
/-- the one sorted row -/
def srt (l : List Nat) : List Nat := l.mergeSort fun a b => decide (place a ≤ place b)
theorem srt_srt (l : List Nat) : Srt l (srt l) := by
  refine ⟨List.mergeSort_perm l _, ?_⟩
  have h := List.pairwise_mergeSort (le := fun a b : Nat => decide (place a ≤ place b)) (fun a b c h1 h2 => by simp at *; omega) (fun a b => by simp; omega) l
  exact h.imp fun h => by simpa using h
def cnt (l : List Nat) : List Nat := l.filter counts
theorem cnt_take {l : List Nat} {k : Nat} (h : k < l.length) : cnt (l.take (k + 1)) = if counts l[k] = true then cnt (l.take k) ++ [l[k]] else cnt (l.take k) := by
  unfold cnt
  rw [List.take_succ_eq_append_getElem h, List.filter_append]
  by_cases hc : counts l[k] = true
  · rw [if_pos hc, List.filter_cons_of_pos hc, List.filter_nil]
  · rw [if_neg hc, List.filter_cons_of_neg hc, List.filter_nil, List.append_nil]
def midV (l : List Nat) : Nat := if (cnt l).length = 0 then 0 else mid (srt (cnt l))
def midE (l : List Nat) : Nat := if (cnt l).length = 0 then 4 else 0
theorem wd_cnt {l : List Nat} (h : Wd l) : Wd (cnt l) := wd_filter h counts
theorem cnt_le (l : List Nat) : (cnt l).length ≤ l.length := List.length_filter_le ..
end Fl
namespace GgSort
open Go.ChangeShapes Go.WideShapes Go.ChangeAt Go.RowKit
open Num Mem Words Chacha Aead Poly Quiet Fl Gauge RowV RowA

theorem infoF : (Try.prog.info? 25).map (fun i => (i.zero, i.size, i.bytes)) = some (some (.float .f64 0), 1, 8) := by kernel_rfl
theorem flt_at {w : World} {A : Option Addr} {l : List Nat} (h : RdV w A (fc l)) {k : Nat} (hk : k < l.length) : ∃ b off, A = some ⟨b, off, none⟩ ∧ b < w.heap.size ∧ w.cell? ⟨b, off + k, none⟩ = some (.float .f64 l[k]) := by
  rcases h with h | ⟨b, off, e, hb, hx⟩
  · have := congrArg List.length h
    rw [fc_length, List.length_nil] at this
    omega
  · exact ⟨b, off, e, hb, hx k _ (fc_get hk)⟩
theorem rdv_whole {w : World} {g : Nat} {t : TypeId} {l : List Nat} (h : Whole w g t (fc l).toArray) : RdV w (some ⟨g, 0, none⟩) (fc l) :=
  .inr ⟨g, 0, rfl, h.lt, fun i v hv => by rw [Nat.zero_add, h.cell, List.getElem?_toArray]; exact hv⟩
theorem sort_srt (A : Option Addr) (n c : Nat) (l : List Nat) (hl : Wd l) (hn : l.length = n) (hsz : n ≤ 200) (w : World) (hr : RdV w A (fc l)) :
    Calls Try.prog 6 #[.slice A n c] w fun e w' => ∃ g, e = .returned (.slice (some ⟨g, 0, none⟩) n n) ∧ w.heap.size ≤ g ∧ Whole w' g 25 (fc (srt l)).toArray ∧ Below w.heap.size w w' := by
  refine (sort_any A n c l hl hn hsz w hr).mono ?_
  rintro e w' ⟨g, t, he, h1, h2, h3, h4⟩
  rw [srt_unique hl h1 (srt_srt l)] at h3
  exact ⟨g, he, h2, h3, h4⟩

set_option maxRecDepth 100000 in
set_option maxHeartbeats 2000000 in
theorem middle_any (A : Option Addr) (n c : Nat) (l : List Nat) (hl : Wd l) (hn : l.length = n) (hsz : n ≤ 200) (w : World) (hr : RdV w A (fc l)) :
    Calls Try.prog 7 #[.slice A n c] w fun e w' => e = .returned (.tuple #[.float .f64 (midV l), .int .i64 (midE l : Nat)]) ∧ Below w.heap.size w w' := by
  have HR := Lib.hid hr
  have HN := Lib.hid hn
  have HL := Lib.hid hl
  obtain ⟨V, hV⟩ : ∃ V, midV l = V := ⟨_, rfl⟩
  obtain ⟨E, hE⟩ : ∃ E, midE l = E := ⟨_, rfl⟩
  rw [hV, hE]
  have HV := Lib.hid hV
  have HE := Lib.hid hE
  clear hr hn hl hV hE
  go_enter Try.func7, Try.ntmps7
  go_wp2_with fail
  go_loopw [4, 9] (fun s i wr => ∃ (k m : Nat) (A' : Option Addr) (c' : Nat), k ≤ n ∧ m ≤ k ∧ i = .int .i64 k ∧ s = .slice A' m c' ∧ (cnt (l.take k)).length = m ∧ wr.ownsRow w.heap.size 25 1 (.slice A' m c') m (fc (cnt (l.take k))) ∧ Below w.heap.size w wr) (fun _ i _ => n - (intOf i).toNat)
  case atStart => exact ⟨0, 0, none, 0, Nat.zero_le _, Nat.zero_le _, rfl, rfl, rfl, World.ownsRow_nil _ _ _ _, Below.refl _ _⟩
  case round =>
    obtain ⟨k, m, A', c', hk, hmk, rfl, rfl, hm, hO, hB⟩ := hrel
    have HO := Lib.hid hO
    have KB := Lib.hid hB
    have HM := Lib.hid hm
    clear hO hB hm
    by_cases hlt : k < n
    · have hkl : k < l.length := by rw [HN.out]; exact hlt
      have hs := cnt_take hkl
      have hx2 := HL.out _ (List.getElem_mem hkl)
      obtain ⟨b, off, rfl, hbl, hc⟩ := flt_at (HR.out.below KB.out (Nat.le_refl _)) hkl
      generalize l[k] = x at *
      have C1 := Lib.hid (counts_any x hx2)
      have HS := Lib.hid hs
      clear hs hkl hx2
      rcases hcx : counts x with _ | _
      · rw [hcx] at C1 HS
        go_wp2_with fail
        refine (C1.out _).mono ?_
        rintro e w2 ⟨rfl, rfl⟩
        go_wp2_with fail
        go_round
        case rel => exact ⟨k + 1, m, A', c', by omega, by omega, by go_num, rfl, by rw [HS.out]; exact HM.out, by rw [HS.out]; exact HO.out, KB.out⟩
        case measure => simp [intOf]; omega
      · rw [hcx] at C1 HS
        replace HS := Lib.hid (HS.out.trans (if_pos rfl))
        go_wp2_with fail
        refine (C1.out _).mono ?_
        rintro e w2 ⟨rfl, rfl⟩
        go_wp2_with (at_builtin; refine wpList_push (.float .f64 x) rfl _ _ 22 25 (.float .f64 0) 8 Try.underlying22 infoF rfl rfl rfl rfl HO.out KB.out.size rfl (by omega) (by omega) ?_; intro A2 c2 w2 hown2 hb2 hsz2)
        have HO2 := Lib.hid hown2
        have HB2 := Lib.hid hb2
        clear hown2 hb2 hsz2
        go_wp2_with fail
        go_round
        case rel => exact ⟨k + 1, m + 1, A2, c2, by omega, by omega, by go_num, rfl, by rw [HS.out, List.length_append, HM.out]; rfl, by rw [HS.out]; unfold fc; rw [List.map_append]; exact HO2.out, KB.out.trans HB2.out⟩
        case measure => simp [intOf]; omega
    · obtain rfl : k = n := by omega
      have hlk : l.take k = l := by rw [← HN.out, List.take_length]
      rw [hlk] at HM HO
      clear hlk hlt
      rcases Nat.eq_zero_or_pos m with h0 | h0
      · subst h0
        have e1 : midV l = 0 := if_pos HM.out
        have e2 : midE l = 4 := if_pos HM.out
        obtain rfl : V = 0 := HV.out.symm.trans e1
        obtain rfl : E = 4 := HE.out.symm.trans e2
        clear e1 e2 HV HE
        go_wp2_with fail
        go_ret2
        exact ⟨rfl, KB.out⟩
      · have hmne : m ≠ 0 := by omega
        have e1 : midV l = mid (srt (cnt l)) := if_neg (by rw [HM.out]; exact hmne)
        have e2 : midE l = 0 := if_neg (by rw [HM.out]; exact hmne)
        obtain rfl : E = 0 := HE.out.symm.trans e2
        have hv := HV.out.symm.trans e1
        clear e1 e2 HV HE
        obtain ⟨q, hq⟩ : ∃ q, (m - 1) / 2 = q := ⟨_, rfl⟩
        have hqm : q < m := by omega
        have hz3 : ((m : Int) == 0) = false := by rw [beq_eq_false_iff_ne]; omega
        have hz4 : ((m : Int) = 0) = False := eq_false (by omega)
        have hw1 : IntKind.i64.wrap ((m : Int) - 1) = (m : Int) - 1 := by rw [IntKind.wrap_i64]; omega
        have hd1 : ((m : Int) - 1).tdiv 2 = (q : Int) := by rw [Int.tdiv_eq_ediv_of_nonneg (by omega)]; omega
        have hw2 : IntKind.i64.wrap (q : Int) = (q : Int) := by rw [IntKind.wrap_i64]; omega
        have HC := Lib.hid (fun W h => sort_srt A' m c' (cnt l) (wd_cnt HL.out) HM.out (by omega) W h)
        have hlen : (srt (cnt l)).length = m := by rw [(srt_srt (cnt l)).length, HM.out]
        have hmid : (fc (srt (cnt l)))[q]? = some (.float .f64 (mid (srt (cnt l)))) := by
          have hlq : q < (srt (cnt l)).length := by omega
          unfold mid
          rw [show ((srt (cnt l)).length - 1) / 2 = q by rw [hlen]; exact hq, List.getD_eq_getElem?_getD, List.getElem?_eq_getElem hlq]
          exact fc_get hlq
        rw [← hv] at hmid
        have HMID := Lib.hid hmid
        clear hq hmid hlen hv
        have hr2 := rdv_own HO.out
        have HR2 := Lib.hid hr2
        clear hr2
        go_wp2_with fail
        refine (HC.out _ HR2.out).mono ?_
        rintro e w2 ⟨g, rfl, hg1, hg2, hg3⟩
        have hcell := (hg2.cell q).trans ((List.getElem?_toArray ..).trans HMID.out)
        have G3 := Lib.hid hg3
        have G2 := Lib.hid hg2
        clear hg1 hg2 hg3
        go_wp2_with fail
        go_ret2
        exact ⟨rfl, below_trans KB.out G3.out⟩
end GgSort
end Go.Proofs.Yteombmahglbeeaa
