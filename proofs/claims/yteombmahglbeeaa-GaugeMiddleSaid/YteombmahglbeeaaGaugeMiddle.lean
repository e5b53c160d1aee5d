/- 'aditlaw16.GaugeMiddle' returns true at every input and writes nothing that was there: the walk. No condition. -/
import Derived.Test.YteombmahglbeeaaGgMid
namespace Go.Proofs.Yteombmahglbeeaa
namespace GaugeMiddle
open Go.ChangeShapes Go.WideShapes Go.ChangeAt Go.RowKit
open Num Mem Words Chacha Aead Poly Quiet Fl Gauge RowV RowA GgSort

def ahd (m x : Nat) : Bool := decide (place x < place m)
def bhd (m x : Nat) : Bool := decide (place m < place x)
def inn (m x : Nat) : Bool := decide (x = m)
/-- the numbers of a row of measures that count -/
def nA (m : Nat) (c : List Nat) : Nat := c.countP (ahd m)
def nB (m : Nat) (c : List Nat) : Nat := c.countP (bhd m)
def isI (m : Nat) (c : List Nat) : Bool := c.any (inn m)
theorem nA_le (m : Nat) (c : List Nat) : nA m c ≤ c.length := List.countP_le_length
theorem nB_le (m : Nat) (c : List Nat) : nB m c ≤ c.length := List.countP_le_length
theorem nA_snoc (m : Nat) (c : List Nat) (x : Nat) : nA m (c ++ [x]) = nA m c + if ahd m x = true then 1 else 0 := by
  unfold nA
  rw [List.countP_append, List.countP_singleton]
theorem nB_snoc (m : Nat) (c : List Nat) (x : Nat) : nB m (c ++ [x]) = nB m c + if bhd m x = true then 1 else 0 := by
  unfold nB
  rw [List.countP_append, List.countP_singleton]
theorem isI_snoc (m : Nat) (c : List Nat) (x : Nat) : isI m (c ++ [x]) = (isI m c || inn m x) := by
  unfold isI
  rw [List.any_append, List.any_cons, List.any_nil, Bool.or_false]
theorem few_A {c : List Nat} (h : 0 < c.length) : 2 * nA (mid (srt c)) c ≤ c.length := by
  have hs := srt_srt c
  have h1 := few_ahead hs.asc (by rw [hs.length]; exact h)
  rw [hs.perm.countP_eq, hs.length] at h1
  exact h1
theorem few_B {c : List Nat} (h : 0 < c.length) : 2 * nB (mid (srt c)) c ≤ c.length := by
  have hs := srt_srt c
  have h1 := few_behind hs.asc (by rw [hs.length]; exact h)
  rw [hs.perm.countP_eq, hs.length] at h1
  exact h1
theorem is_in {c : List Nat} (h : 0 < c.length) : isI (mid (srt c)) c = true := by
  have hs := srt_srt c
  have h1 := mid_mem (t := srt c) (by rw [hs.length]; exact h)
  exact List.any_eq_true.2 ⟨_, hs.perm.mem_iff.1 h1, decide_eq_true rfl⟩

set_option maxRecDepth 100000 in
theorem easy (A : Option Addr) (n c : Nat) (h : 200 < n) (w : World) :
    Calls Try.prog 4 #[.slice A n c] w fun e w' => e = .returned (.bool true) ∧ Below w.heap.size w w' := by
  have h2 : decide (200 < n) = true := decide_eq_true h
  go_enter Try.func4, Try.ntmps4
  go_wp2_with fail
  refine (alive_any _).mono ?_
  rintro e w1 ⟨rfl, hb⟩
  have KB := Lib.hid hb
  clear hb
  go_wp2_with fail
  go_ret
  exact ⟨rfl, KB.out⟩

set_option maxRecDepth 100000 in
set_option maxHeartbeats 8000000 in
theorem hard (A : Option Addr) (n c : Nat) (l : List Nat) (hl : Wd l) (hn : l.length = n) (hsz : n ≤ 200) (w : World) (hr : RdV w A (fc l)) :
    Calls Try.prog 4 #[.slice A n c] w fun e w' => e = .returned (.bool true) ∧ Below w.heap.size w w' := by
  have HR := Lib.hid hr
  have HN := Lib.hid hn
  have HL := Lib.hid hl
  have HMC := Lib.hid (middle_any A n c l hl hn hsz w hr)
  have hz2 : decide (200 < n) = false := decide_eq_false (by omega)
  have hmw : midV l < 18446744073709551616 := by
    unfold midV
    split
    · decide
    · exact (srt_srt (cnt l)).wd (wd_cnt hl) _ (mid_mem (by rw [(srt_srt (cnt l)).length]; omega))
  have HMW := Lib.hid hmw
  obtain ⟨V, hV⟩ : ∃ V, midV l = V := ⟨_, rfl⟩
  obtain ⟨E, hE⟩ : ∃ E, midE l = E := ⟨_, rfl⟩
  rw [hV, hE] at HMC
  rw [hV] at HMW
  have HV := Lib.hid hV
  have HE := Lib.hid hE
  clear hr hn hl hV hE hmw
  go_enter Try.func4, Try.ntmps4
  go_wp2_with fail
  refine HMC.out.mono ?_
  rintro e w1 ⟨rfl, hb1⟩
  have HR1 := Lib.hid (HR.out.below hb1 (Nat.le_refl _))
  have HB1 := Lib.hid hb1
  clear hb1 HMC HR
  go_wp2_with fail
  go_loopw [5, 6, 7, 8, 9] (fun sn sa sb si i wr => ∃ (k a b m : Nat), k ≤ n ∧ m ≤ k ∧ a ≤ m ∧ b ≤ m ∧ i = .int .i64 k ∧ (cnt (l.take k)).length = m ∧ nA V (cnt (l.take k)) = a ∧ nB V (cnt (l.take k)) = b ∧ sn = .int .i64 m ∧ sa = .int .i64 a ∧ sb = .int .i64 b ∧ si = .bool (isI V (cnt (l.take k))) ∧ wr = w1) (fun _ _ _ _ i _ => n - (intOf i).toNat)
  case atStart => exact ⟨0, 0, 0, 0, Nat.zero_le _, Nat.zero_le _, Nat.zero_le _, Nat.zero_le _, rfl, rfl, rfl, rfl, rfl, rfl, rfl, rfl, rfl⟩
  case round =>
    obtain ⟨k, a, b, m, hk, hmk, ham, hbm, rfl, hm, ha, hb, rfl, rfl, rfl, rfl, rfl⟩ := hrel
    have HM := Lib.hid hm
    have HA := Lib.hid ha
    have HB := Lib.hid hb
    clear hm ha hb
    by_cases hlt : k < n
    · have hkl : k < l.length := by rw [HN.out]; exact hlt
      have hs := cnt_take hkl
      have hx2 := HL.out _ (List.getElem_mem hkl)
      obtain ⟨bk, off, rfl, hbl, hc⟩ := flt_at HR1.out hkl
      generalize l[k] = x at *
      have C1 := Lib.hid (counts_any x hx2)
      have C2 := Lib.hid (same_any x V hx2 HMW.out)
      have C3 := Lib.hid (order_any x V hx2 HMW.out)
      have HS := Lib.hid hs
      have hi := isI_snoc V (cnt (l.take k)) x
      have HI := Lib.hid hi
      clear hs hkl hx2 hi
      rcases hcx : counts x with _ | _
      · rw [hcx] at C1 HS
        replace HS := Lib.hid (HS.out.trans (if_neg (by decide)))
        go_wp2_with fail
        refine (C1.out _).mono ?_
        rintro e w2 ⟨rfl, rfl⟩
        go_wp2_with fail
        go_round
        case rel => exact ⟨k + 1, a, b, m, by omega, by omega, ham, hbm, by go_num, by rw [HS.out]; exact HM.out, by rw [HS.out]; exact HA.out, by rw [HS.out]; exact HB.out, rfl, rfl, rfl, by rw [HS.out], trivial⟩
        case measure => simp [intOf]; omega
      · rw [hcx] at C1 HS
        replace HS := Lib.hid (HS.out.trans (if_pos rfl))
        have hm1 : (cnt (l.take (k + 1))).length = m + 1 := by rw [HS.out, List.length_append, HM.out]; rfl
        have ha1 := nA_snoc V (cnt (l.take k)) x
        have hb1 := nB_snoc V (cnt (l.take k)) x
        rw [← HS.out] at ha1 hb1
        rw [← HS.out] at HI
        rw [HA.out] at ha1
        rw [HB.out] at hb1
        have HM1 := Lib.hid hm1
        clear hm1
        have hin : inn V x = decide (x = V) := rfl
        rw [hin] at HI
        clear hin HM HA HB HS
        generalize isI V (cnt (l.take k)) = si at *
        generalize decide (x = V) = ss at *
        rcases ordI_cases x V with ⟨ho, hv⟩ | ⟨ho, hv⟩ | ⟨ho, hv⟩
        all_goals rw [hv] at C3
        · have p1 : ahd V x = true := decide_eq_true ho
          have p2 : bhd V x = false := decide_eq_false (by omega)
          rw [if_pos p1] at ha1
          rw [if_neg (by rw [p2]; decide), Nat.add_zero] at hb1
          have HA1 := Lib.hid ha1
          have HB1' := Lib.hid hb1
          clear ha1 hb1 ho hv p1 p2
          rcases si with _ | _
          · go_wp2_with fail
            refine (C1.out _).mono ?_
            rintro e w2 ⟨rfl, rfl⟩
            go_wp2_with (first | (refine (C2.out _).mono ?_; rintro e w2 ⟨rfl, rfl⟩) | (refine (C3.out _).mono ?_; rintro e w2 ⟨rfl, rfl⟩))
            go_round
            case rel => exact ⟨k + 1, _, _, m + 1, by omega, by omega, by omega, by omega, by go_num, HM1.out, HA1.out, HB1'.out, by go_num, by go_num, by go_num, by rw [HI.out]; rfl, trivial⟩
            case measure => simp [intOf]; omega
          · go_wp2_with fail
            refine (C1.out _).mono ?_
            rintro e w2 ⟨rfl, rfl⟩
            go_wp2_with (first | (refine (C2.out _).mono ?_; rintro e w2 ⟨rfl, rfl⟩) | (refine (C3.out _).mono ?_; rintro e w2 ⟨rfl, rfl⟩))
            go_round
            case rel => exact ⟨k + 1, _, _, m + 1, by omega, by omega, by omega, by omega, by go_num, HM1.out, HA1.out, HB1'.out, by go_num, by go_num, by go_num, by rw [HI.out]; rfl, trivial⟩
            case measure => simp [intOf]; omega
        · have p1 : ahd V x = false := decide_eq_false (by omega)
          have p2 : bhd V x = false := decide_eq_false (by omega)
          rw [if_neg (by rw [p1]; decide), Nat.add_zero] at ha1
          rw [if_neg (by rw [p2]; decide), Nat.add_zero] at hb1
          have HA1 := Lib.hid ha1
          have HB1' := Lib.hid hb1
          clear ha1 hb1 ho hv p1 p2
          rcases si with _ | _
          · go_wp2_with fail
            refine (C1.out _).mono ?_
            rintro e w2 ⟨rfl, rfl⟩
            go_wp2_with (first | (refine (C2.out _).mono ?_; rintro e w2 ⟨rfl, rfl⟩) | (refine (C3.out _).mono ?_; rintro e w2 ⟨rfl, rfl⟩))
            go_round
            case rel => exact ⟨k + 1, _, _, m + 1, by omega, by omega, by omega, by omega, by go_num, HM1.out, HA1.out, HB1'.out, by go_num, by go_num, by go_num, by rw [HI.out]; rfl, trivial⟩
            case measure => simp [intOf]; omega
          · go_wp2_with fail
            refine (C1.out _).mono ?_
            rintro e w2 ⟨rfl, rfl⟩
            go_wp2_with (first | (refine (C2.out _).mono ?_; rintro e w2 ⟨rfl, rfl⟩) | (refine (C3.out _).mono ?_; rintro e w2 ⟨rfl, rfl⟩))
            go_round
            case rel => exact ⟨k + 1, _, _, m + 1, by omega, by omega, by omega, by omega, by go_num, HM1.out, HA1.out, HB1'.out, by go_num, by go_num, by go_num, by rw [HI.out]; rfl, trivial⟩
            case measure => simp [intOf]; omega
        · have p1 : ahd V x = false := decide_eq_false (by omega)
          have p2 : bhd V x = true := decide_eq_true ho
          rw [if_neg (by rw [p1]; decide), Nat.add_zero] at ha1
          rw [if_pos p2] at hb1
          have HA1 := Lib.hid ha1
          have HB1' := Lib.hid hb1
          clear ha1 hb1 ho hv p1 p2
          rcases si with _ | _
          · go_wp2_with fail
            refine (C1.out _).mono ?_
            rintro e w2 ⟨rfl, rfl⟩
            go_wp2_with (first | (refine (C2.out _).mono ?_; rintro e w2 ⟨rfl, rfl⟩) | (refine (C3.out _).mono ?_; rintro e w2 ⟨rfl, rfl⟩))
            go_round
            case rel => exact ⟨k + 1, _, _, m + 1, by omega, by omega, by omega, by omega, by go_num, HM1.out, HA1.out, HB1'.out, by go_num, by go_num, by go_num, by rw [HI.out]; rfl, trivial⟩
            case measure => simp [intOf]; omega
          · go_wp2_with fail
            refine (C1.out _).mono ?_
            rintro e w2 ⟨rfl, rfl⟩
            go_wp2_with (first | (refine (C2.out _).mono ?_; rintro e w2 ⟨rfl, rfl⟩) | (refine (C3.out _).mono ?_; rintro e w2 ⟨rfl, rfl⟩))
            go_round
            case rel => exact ⟨k + 1, _, _, m + 1, by omega, by omega, by omega, by omega, by go_num, HM1.out, HA1.out, HB1'.out, by go_num, by go_num, by go_num, by rw [HI.out]; rfl, trivial⟩
            case measure => simp [intOf]; omega
    · obtain rfl : k = n := by omega
      have hlk : l.take k = l := by rw [← HN.out, List.take_length]
      rw [hlk] at HM HA HB ⊢
      clear hlk hlt
      rcases Nat.eq_zero_or_pos m with h0 | h0
      · subst h0
        obtain rfl : V = 0 := HV.out.symm.trans (if_pos HM.out)
        obtain rfl : E = 4 := HE.out.symm.trans (if_pos HM.out)
        clear HV HE
        generalize isI 0 (cnt l) = si at *
        go_wp2_with fail
        refine (alive_any _).mono ?_
        rintro e w2 ⟨rfl, hb2⟩
        have KB := Lib.hid (below_trans HB1.out hb2)
        clear hb2
        go_wp2_with fail
        go_ret
        exact ⟨rfl, KB.out⟩
      · have hmne : m ≠ 0 := by omega
        obtain rfl : E = 0 := HE.out.symm.trans (if_neg (by rw [HM.out]; exact hmne))
        have hv := HV.out.symm.trans (if_neg (by rw [HM.out]; exact hmne))
        have q0 : 0 < (cnt l).length := by rw [HM.out]; exact h0
        have q1 := few_A q0
        have q2 := few_B q0
        have q3 := is_in q0
        rw [← hv, HM.out] at q1 q2
        rw [← hv] at q3
        rw [HA.out] at q1
        rw [HB.out] at q2
        rw [q3]
        clear q0 q3 hv HV HE HA HB
        have hz3 : ((m : Int) == 0) = false := by rw [beq_eq_false_iff_ne]; omega
        have hz4 : ((m : Int) = 0) = False := eq_false (by omega)
        have hw1 : IntKind.i64.wrap (2 * (a : Int)) = 2 * (a : Int) := by rw [IntKind.wrap_i64]; omega
        have hw2 : IntKind.i64.wrap (2 * (b : Int)) = 2 * (b : Int) := by rw [IntKind.wrap_i64]; omega
        have hq1 : decide (2 * (a : Int) ≤ (m : Int)) = true := decide_eq_true (by omega)
        have hq2 : decide (2 * (b : Int) ≤ (m : Int)) = true := decide_eq_true (by omega)
        go_wp2_with fail
        refine (alive_any _).mono ?_
        rintro e w2 ⟨rfl, hb2⟩
        have KB := Lib.hid (below_trans HB1.out hb2)
        clear hb2
        go_wp2_with fail
        go_ret
        exact ⟨rfl, KB.out⟩

theorem walk (A : Option Addr) (n c : Nat) (l : List Nat) (w : World) (h0 : IsFlts w A n l) :
    Calls Try.prog 4 #[.slice A n c] w fun e w' => e = .returned (.bool true) ∧ Below w.heap.size w w' := by
  obtain ⟨hl, _, hb, hr⟩ := h0
  by_cases h : 200 < n
  · exact easy A n c h w
  · exact hard A n c l hb hl (by omega) w hr
end GaugeMiddle
end Go.Proofs.Yteombmahglbeeaa
