/- The document's own middle one, and its comparing of lists. -/
import Derived.Test.YteombmahglbeeaaGgRef
namespace Go.Proofs.Yteombmahglbeeaa
namespace Fl
theorem cnt_srt {l : List Nat} (hl : Wd l) : cnt (srt l) = srt (cnt l) := srt_unique (wd_cnt hl) ((srt_srt l).filter counts) (srt_srt (cnt l))
end Fl
namespace GgSort
open Go.ChangeShapes Go.WideShapes Go.ChangeAt Go.RowKit
open Num Mem Words Chacha Aead Poly Quiet Fl Gauge RowV RowA RowS

set_option maxRecDepth 100000 in
set_option maxHeartbeats 2000000 in
theorem rmiddle_any (A : Option Addr) (n c : Nat) (l : List Nat) (hl : Wd l) (hn : l.length = n) (hsz : n ≤ 200) (w : World) (hr : RdV w A (fc l)) :
    Calls Try.prog 8 #[.slice A n c] w fun e w' => e = .returned (.tuple #[.float .f64 (midV l), .int .i64 (midE l : Nat)]) ∧ Below w.heap.size w w' := by
  have HC := Lib.hid (rsort_any A n c l hl hn hsz w hr)
  obtain ⟨V, hV⟩ : ∃ V, midV l = V := ⟨_, rfl⟩
  obtain ⟨E, hE⟩ : ∃ E, midE l = E := ⟨_, rfl⟩
  rw [hV, hE]
  have HV := Lib.hid hV
  have HE := Lib.hid hE
  have hsl : (srt l).length = n := by rw [(srt_srt l).length]; exact hn
  have hsw := (srt_srt l).wd hl
  have hcs := cnt_srt hl
  have HSL := Lib.hid hsl
  have HSW := Lib.hid hsw
  have HCS := Lib.hid hcs
  clear hr hn hl hV hE hsl hsw hcs
  go_enter Try.func8, Try.ntmps8
  go_wp2_with fail
  refine HC.out.mono ?_
  rintro e w1 ⟨A1, c1, rfl, hO1, hB1⟩
  have HR := Lib.hid (rdv_own hO1)
  have HB1 := Lib.hid hB1
  clear HC hO1 hB1
  go_wp2_with fail
  go_loopw [4, 6] (fun s i wr => ∃ (k m : Nat) (A' : Option Addr) (c' : Nat), k ≤ n ∧ m ≤ k ∧ i = .int .i64 k ∧ s = .slice A' m c' ∧ (cnt ((srt l).take k)).length = m ∧ wr.ownsRow w1.heap.size 25 1 (.slice A' m c') m (fc (cnt ((srt l).take k))) ∧ Below w1.heap.size w1 wr) (fun _ i _ => n - (intOf i).toNat)
  case atStart => exact ⟨0, 0, none, 0, Nat.zero_le _, Nat.zero_le _, rfl, rfl, rfl, World.ownsRow_nil _ _ _ _, Below.refl _ _⟩
  case round =>
    obtain ⟨k, m, A', c', hk, hmk, rfl, rfl, hm, hO, hB⟩ := hrel
    have HO := Lib.hid hO
    have KB := Lib.hid hB
    have HM := Lib.hid hm
    clear hO hB hm
    by_cases hlt : k < n
    · have hkl : k < (srt l).length := by rw [HSL.out]; exact hlt
      have hs := cnt_take hkl
      have hx2 := HSW.out _ (List.getElem_mem hkl)
      obtain ⟨b, off, rfl, hbl, hc⟩ := flt_at (HR.out.below KB.out (Nat.le_refl _)) hkl
      generalize (srt l)[k] = x at *
      have C1 := Lib.hid (rcounts_any x)
      have HS := Lib.hid hs
      clear hs hkl hx2
      rcases hcx : counts x with _ | _
      · rw [hcx] at C1 HS
        go_wp2_with fail
        refine (C1.out _).mono ?_
        rintro e w2 ⟨rfl, rfl⟩
        go_wp2_with fail
        go_round
        case rel => exact ⟨k + 1, m, A', c', by omega, by omega, by go_num, rfl, by rw [HS.out]; exact HM.out, by rw [HS.out]; exact HO.out, KB.out⟩
        case measure => simp [intOf]; omega
      · rw [hcx] at C1 HS
        replace HS := Lib.hid (HS.out.trans (if_pos rfl))
        go_wp2_with fail
        refine (C1.out _).mono ?_
        rintro e w2 ⟨rfl, rfl⟩
        go_wp2_with (at_builtin; refine wpList_push (.float .f64 x) rfl _ _ 22 25 (.float .f64 0) 8 Try.underlying22 infoF rfl rfl rfl rfl HO.out KB.out.size rfl (by omega) (by omega) ?_; intro A2 c2 w2 hown2 hb2 hsz2)
        have HO2 := Lib.hid hown2
        have HB2 := Lib.hid hb2
        clear hown2 hb2 hsz2
        go_wp2_with fail
        go_round
        case rel => exact ⟨k + 1, m + 1, A2, c2, by omega, by omega, by go_num, rfl, by rw [HS.out, List.length_append, HM.out]; rfl, by rw [HS.out]; unfold fc; rw [List.map_append]; exact HO2.out, KB.out.trans HB2.out⟩
        case measure => simp [intOf]; omega
    · obtain rfl : k = n := by omega
      have hlk : (srt l).take k = srt l := by rw [← HSL.out, List.take_length]
      rw [hlk, HCS.out] at HM HO
      clear hlk hlt
      have hcl : (cnt l).length = m := by rw [← (srt_srt (cnt l)).length]; exact HM.out
      rcases Nat.eq_zero_or_pos m with h0 | h0
      · subst h0
        obtain rfl : V = 0 := HV.out.symm.trans (if_pos hcl)
        obtain rfl : E = 4 := HE.out.symm.trans (if_pos hcl)
        clear HV HE
        go_wp2_with fail
        go_ret2
        exact ⟨rfl, below_trans HB1.out KB.out⟩
      · have hmne : m ≠ 0 := by omega
        have hv := HV.out.symm.trans (if_neg (by rw [hcl]; exact hmne))
        obtain rfl : E = 0 := HE.out.symm.trans (if_neg (by rw [hcl]; exact hmne))
        clear HV HE hcl
        obtain ⟨q, hq⟩ : ∃ q, (m - 1) / 2 = q := ⟨_, rfl⟩
        have hqm : q < m := by omega
        have hz3 : ((m : Int) == 0) = false := by rw [beq_eq_false_iff_ne]; omega
        have hz4 : ((m : Int) = 0) = False := eq_false (by omega)
        have hw1 : IntKind.i64.wrap ((m : Int) - 1) = (m : Int) - 1 := by rw [IntKind.wrap_i64]; omega
        have hd1 : ((m : Int) - 1).tdiv 2 = (q : Int) := by rw [Int.tdiv_eq_ediv_of_nonneg (by omega)]; omega
        have hw2 : IntKind.i64.wrap (q : Int) = (q : Int) := by rw [IntKind.wrap_i64]; omega
        have hlq : q < (srt (cnt l)).length := by rw [HM.out]; exact hqm
        have hmid : (fc (srt (cnt l)))[q]? = some (.float .f64 (mid (srt (cnt l)))) := by
          unfold mid
          rw [show ((srt (cnt l)).length - 1) / 2 = q by rw [HM.out]; exact hq, List.getD_eq_getElem?_getD, List.getElem?_eq_getElem hlq]
          exact fc_get hlq
        rw [← hv] at hmid
        obtain ⟨g, rfl, _, _, hcell⟩ := own_cells HO.out h0
        have hcq := (hcell q _ hmid).1
        clear hcell hmid hlq hv hq
        go_wp2_with fail
        go_ret2
        exact ⟨rfl, below_trans HB1.out KB.out⟩

set_option maxRecDepth 100000 in
set_option maxHeartbeats 2000000 in
theorem rlists_any (A B : Option Addr) (n c d : Nat) (l : List Nat) (hl : Wd l) (hn : l.length = n) (hsz : n ≤ 200) (w : World) (hA : RdV w A (fc l)) (hB : RdV w B (fc l)) :
    Calls Try.prog 9 #[.slice A n c, .slice B n d] w fun e w' => e = .returned (.bool true) ∧ Below w.heap.size w w' := by
  have HA := Lib.hid hA
  have HB := Lib.hid hB
  have HN := Lib.hid hn
  have HL := Lib.hid hl
  have hz : ((n : Int) != (n : Int)) = false := bne_self_eq_false _
  clear hA hB hn hl
  go_enter Try.func9, Try.ntmps9
  go_wp2_with fail
  go_loopw [5] (fun i wr => ∃ k : Nat, k ≤ n ∧ i = .int .i64 k ∧ Below w.heap.size w wr) (fun i _ => n - (intOf i).toNat)
  case atStart => exact ⟨0, Nat.zero_le _, rfl, Below.refl _ _⟩
  case round =>
    obtain ⟨k, hk, rfl, hb⟩ := hrel
    have KB := Lib.hid hb
    clear hb
    by_cases hlt : k < n
    · have hkl : k < l.length := by rw [HN.out]; exact hlt
      have hx2 := HL.out _ (List.getElem_mem hkl)
      obtain ⟨b1, o1, rfl, _, hc1⟩ := flt_at (HA.out.below KB.out (Nat.le_refl _)) hkl
      obtain ⟨b2, o2, rfl, _, hc2⟩ := flt_at (HB.out.below KB.out (Nat.le_refl _)) hkl
      generalize l[k] = x at *
      have C1 := Lib.hid (rorder_any x x hx2 hx2)
      have ho : ordI x x = 0 := by
        rcases ordI_cases x x with ⟨h, _⟩ | ⟨_, h⟩ | ⟨h, _⟩
        · omega
        · exact h
        · omega
      rw [ho] at C1
      clear ho hkl hx2
      go_wp2_with fail
      go_quiet ((go_at_call 23; refine Calls.quiet_of_same (Calls.mono (C1.out _) (fun e w' h => ⟨h.1, h.2.symm⟩))))
      go_wp2_with fail
      go_round
      case rel => exact ⟨k + 1, by omega, by go_num, below_drewN KB.out _⟩
      case measure => simp [intOf]; omega
    · obtain rfl : k = n := by omega
      go_wp2_with fail
      go_ret
      exact ⟨rfl, KB.out⟩
end GgSort
end Go.Proofs.Yteombmahglbeeaa
