/- 'aditlaw15.WindowTakes' returns true at every input and writes nothing that was there: the walk. No condition. -/
import Derived.Test.YtijmbjnmfkiklaaWinPlayed
import Derived.Test.YtijmbjnmfkiklaaWinRef
import Derived.Test.YtijmbjnmfkiklaaRowA
namespace Go.Proofs.Ytijmbjnmfkiklaa
namespace WindowTakes
open Go.ChangeShapes Go.WideShapes Go.ChangeAt Go.RowKit
open Num Mem Words Chacha Aead Poly Quiet WinT RowV RowA Win

theorem snoc_mem {l : List Nat} {k v m : Nat} {c : Bool} (hs : l.take (k + 1) = l.take k ++ [v]) (hc : c = decide (m ∈ l.take k)) : (c || decide (v = m)) = decide (m ∈ l.take (k + 1)) := by
  rw [hs, hc, Bool.eq_iff_iff, Bool.or_eq_true, decide_eq_true_eq, decide_eq_true_eq, decide_eq_true_eq, List.mem_append, List.mem_singleton]
  exact or_congr Iff.rfl eq_comm

set_option maxRecDepth 100000 in
set_option maxHeartbeats 4000000 in
theorem walk (A0 : Option Addr) (n c0 : Nat) (l : List Nat) (M : Int) (w : World) (h0 : IsNums .u64 (2 ^ 64) w A0 n l) (hM : (Lit.int .u64 M).wf = true) :
    Calls Try.prog 5 #[.slice A0 n c0, .int .u64 M] w fun e w' => e = .returned (.bool true) ∧ Below w.heap.size w w' := by
  obtain ⟨m, hMm, hm⟩ := nat_u64 hM
  have HM := Lib.hid hMm
  clear hMm
  obtain ⟨hl, hn, _, hr⟩ := h0
  have HP := played_any A0 c0 l (by omega) w hr
  have his := play_is (l.take 300)
  have hlt := play_lt (l.take 300)
  have hlen : (playL (l.take 300)).2.length ≤ 300 := Nat.le_trans (play_len _) (List.length_take_le _ _)
  rw [hl] at HP
  unfold winV at HP
  generalize playL (l.take 300) = p at *
  have HC := Lib.hid HP
  clear hr HP hl
  obtain ⟨s, out⟩ := p
  simp only at HC his hlt hlen
  have hns := is_le_spent his hlt
  have HI := Lib.hid his
  clear his hlt
  obtain ⟨N, hN⟩ : ∃ N, out.length = N := ⟨_, rfl⟩
  rw [hN] at HC hlen
  have HN := Lib.hid hN
  clear hN hM
  go_enter Try.func5, Try.ntmps5
  go_wp2_with fail
  refine HC.out.mono ?_
  rintro e w1 ⟨A1, c1, rfl, hrow, hb⟩
  have HX := Lib.hid (rdv_own hrow)
  have KB := Lib.hid hb
  clear hrow hb HC
  go_wp2_with fail
  obtain ⟨w2, hw2⟩ : ∃ w2, w2 = w1.alloc (.cells #[.int .u64 s.n, .int .u64 s.a, .int .u64 s.b] 27) := ⟨_, rfl⟩
  rw [← hw2]
  have HX2 := Lib.hid (show RdV w2 A1 (out.map u64V) from HX.out.below (B := w1.heap.size) (by rw [hw2]; exact (Below.refl _ _).alloc (Nat.le_refl _) _) (Nat.le_refl _))
  have KB2 := Lib.hid (show Below w.heap.size w w2 by rw [hw2]; exact below_alloc KB.out _)
  have KL := Lib.hid (show Lies w2 w1.heap.size s.n s.a s.b by rw [hw2]; exact lies_new _ _ _ _)
  clear hw2 HX KB
  generalize w1.heap.size = G at *
  go_loop [7, 8] (fun b i => ∃ (k : Nat) (c : Bool), k ≤ N ∧ i = .int .i64 k ∧ b = .bool c ∧ c = decide (m ∈ out.take k)) (fun _ i => N - (intOf i).toNat)
  case atStart => exact ⟨0, false, Nat.zero_le _, rfl, rfl, by simp⟩
  case round =>
    obtain ⟨k, c, hk, rfl, rfl, hc⟩ := hrel
    have HCC := Lib.hid hc
    clear hc
    by_cases hlt : k < N
    · have hkl : k < out.length := by rw [HN.out]; exact hlt
      obtain ⟨b, off, rfl, _, h1⟩ := u64_cell HX2.out hkl
      have hs := List.take_succ_eq_append_getElem hkl
      generalize out[k] = v at *
      have HS := Lib.hid (snoc_mem hs HCC.out)
      clear hs hkl
      rcases c with _ | _
      · by_cases hv : v = m
        · subst hv
          have h3 : ((v : Int) == M) = true := by rw [HM.out]; simp
          have h4 : ((v : Int) = M) = True := by rw [HM.out]; simp
          go_wp2
          go_round
          case rel => exact ⟨k + 1, true, by omega, by go_num, rfl, by rw [← HS.out]; simp⟩
          case measure => simp [intOf]; omega
        · have h3 : ((v : Int) == M) = false := by rw [HM.out, beq_eq_false_iff_ne]; omega
          have h4 : ((v : Int) = M) = False := eq_false (by rw [HM.out]; omega)
          have HV := Lib.hid hv
          clear hv
          go_wp2
          go_round
          case rel => exact ⟨k + 1, false, by omega, by go_num, rfl, by rw [← HS.out, decide_eq_false HV.out]; rfl⟩
          case measure => simp [intOf]; omega
      · go_wp2
        go_round
        case rel => exact ⟨k + 1, true, by omega, by go_num, rfl, by rw [← HS.out]; simp⟩
        case measure => simp [intOf]; omega
    · have HCN := Lib.hid (show c = decide (m ∈ out) by have := HCC.out; rw [List.take_of_length_le (by rw [HN.out]; omega)] at this; exact this)
      clear HCC
      have hnn := HI.out.ok.1
      have hsp : spent = 18446744073709543423 := rfl
      have hok := HI.out.ok
      have HT := Lib.hid (show ∀ w, Calls Try.prog 20 #[.agg #[.int .u64 s.n, .int .u64 s.a, .int .u64 s.b], .int .u64 M] w fun e w' => e = .returned (.tuple #[.agg #[.int .u64 (take s m).n, .int .u64 (take s m).a, .int .u64 (take s m).b], .int .i64 (check s m : Nat)]) ∧ Below w.heap.size w w' from fun w => by rw [HM.out]; exact take_at s hok m w)
      have HN1 := Lib.hid (show ∀ w, Calls Try.prog 21 #[.agg #[.int .u64 s.n, .int .u64 s.a, .int .u64 s.b]] w fun e w' => e = .returned (.int .u64 s.n) ∧ Below w.heap.size w w' from fun w => next_any s w)
      have hMc := HM.out
      have hck := check_is HI.out m
      clear HX2
      by_cases a1 : spent ≤ m
      · rw [if_pos a1] at hck
        rw [hck] at HT
        generalize take s m = t at *
        have g1 : decide ((s.n : Int) ≤ M) = true := decide_eq_true (by omega)
        have g2 : decide ((18446744073709543423 : Int) ≤ M) = true := decide_eq_true (by omega)
        clear hck hns hsp hm a1 hMc hok hnn
        have k0 := KL.out.c0
        have k1 := KL.out.c1
        have k2 := KL.out.c2
        have k3 := KL.out.lt
        go_wp2_with fail
        clear k0 k1 k2 k3
        refine (HT.out _).mono ?_
        rintro e w3 ⟨rfl, hb⟩
        replace KL := Lib.hid (KL.out.below hb)
        replace KB2 := Lib.hid (below_trans KB2.out hb)
        clear hb HT
        have k0 := KL.out.c0
        have k1 := KL.out.c1
        have k2 := KL.out.c2
        have k3 := KL.out.lt
        go_wp2_with fail
        clear k0 k1 k2 k3
        refine (HN1.out _).mono ?_
        rintro e w4 ⟨rfl, hb⟩
        have KX := Lib.hid ((lies_new w3 t.n t.a t.b).below hb)
        replace KL := Lib.hid (Lies.below (show Lies _ G s.n s.a s.b from Whole.alloc KL.out _) hb)
        replace KB2 := Lib.hid (below_new KB2.out hb)
        clear hb
        generalize w3.heap.size = G3 at KX ⊢
        have k0 := KL.out.c0
        have k1 := KL.out.c1
        have k2 := KL.out.c2
        have k3 := KL.out.lt
        have x0 := KX.out.c0
        have x1 := KX.out.c1
        have x2 := KX.out.c2
        have x3 := KX.out.lt
        go_wp2_with fail
        clear k0 k1 k2 k3 x0 x1 x2 x3
        refine (alive_any _).mono ?_
        rintro e w5 ⟨rfl, hb⟩
        replace KX := Lib.hid (KX.out.below hb)
        replace KL := Lib.hid (KL.out.below hb)
        replace KB2 := Lib.hid (below_trans KB2.out hb)
        clear hb
        have k0 := KL.out.c0
        have k1 := KL.out.c1
        have k2 := KL.out.c2
        have k3 := KL.out.lt
        have x0 := KX.out.c0
        have x1 := KX.out.c1
        have x2 := KX.out.c2
        have x3 := KX.out.lt
        go_wp2_with fail
        go_ret
        exact ⟨rfl, KB2.out⟩
      · have g2 : decide ((18446744073709543423 : Int) ≤ M) = false := decide_eq_false (by omega)
        rw [if_neg a1] at hck
        by_cases a2 : s.n ≤ m
        · have hno : m ∉ out := fun h => absurd (HI.out.le m h) (by omega)
          have hcf : c = false := by rw [HCN.out]; exact decide_eq_false hno
          subst hcf
          rw [if_neg (by rintro (h | h); exact hno h; omega)] at hck
          have hc0 := hck
          have g1 : decide ((s.n : Int) ≤ M) = true := decide_eq_true (by omega)
          have hpa := put_after HI.out hc0
          have htp : take s m = put s m := if_pos hc0
          rw [← htp] at hpa
          have hokt : (take s m).ok := take_ok m hok
          rw [hc0] at HT
          generalize take s m = t at *
          have HH := Lib.hid (show ∀ w, Calls Try.prog 18 #[.agg #[.int .u64 t.n, .int .u64 t.a, .int .u64 t.b], .int .u64 M] w fun e w' => e = .returned (.bool true) ∧ Below w.heap.size w w' from fun w => by rw [hMc, ← hpa.1]; exact hasW_any t hokt m w)
          have HK := Lib.hid (show ∀ w, Calls Try.prog 16 #[.agg #[.int .u64 t.n, .int .u64 t.a, .int .u64 t.b], .int .u64 M] w fun e w' => e = .returned (.int .i64 80) ∧ Below w.heap.size w w' from fun w => by have h := checkW_any t hokt m w; rw [hpa.2.1] at h; rw [hMc]; exact h)
          have HN2 := Lib.hid (show ∀ w, Calls Try.prog 21 #[.agg #[.int .u64 t.n, .int .u64 t.a, .int .u64 t.b]] w fun e w' => e = .returned (.int .u64 t.n) ∧ Below w.heap.size w w' from fun w => next_any t w)
          have hgt : decide (M < (t.n : Int)) = true := decide_eq_true (by omega)
          clear hck hns hsp hm a1 a2 hno hMc hok hnn hpa htp hc0
          have k0 := KL.out.c0
          have k1 := KL.out.c1
          have k2 := KL.out.c2
          have k3 := KL.out.lt
          go_wp2_with fail
          clear k0 k1 k2 k3
          refine (HT.out _).mono ?_
          rintro e w3 ⟨rfl, hb⟩
          replace KL := Lib.hid (KL.out.below hb)
          replace KB2 := Lib.hid (below_trans KB2.out hb)
          clear hb HT
          have k0 := KL.out.c0
          have k1 := KL.out.c1
          have k2 := KL.out.c2
          have k3 := KL.out.lt
          go_wp2_with fail
          clear k0 k1 k2 k3
          refine (HN1.out _).mono ?_
          rintro e w4 ⟨rfl, hb⟩
          have KX := Lib.hid ((lies_new w3 t.n t.a t.b).below hb)
          replace KL := Lib.hid (Lies.below (show Lies _ G s.n s.a s.b from Whole.alloc KL.out _) hb)
          replace KB2 := Lib.hid (below_new KB2.out hb)
          clear hb
          generalize w3.heap.size = G3 at KX ⊢
          have k0 := KL.out.c0
          have k1 := KL.out.c1
          have k2 := KL.out.c2
          have k3 := KL.out.lt
          have x0 := KX.out.c0
          have x1 := KX.out.c1
          have x2 := KX.out.c2
          have x3 := KX.out.lt
          go_wp2_with fail
          clear k0 k1 k2 k3 x0 x1 x2 x3
          refine (alive_any _).mono ?_
          rintro e w5 ⟨rfl, hb⟩
          replace KX := Lib.hid (KX.out.below hb)
          replace KL := Lib.hid (KL.out.below hb)
          replace KB2 := Lib.hid (below_trans KB2.out hb)
          clear hb
          have k0 := KL.out.c0
          have k1 := KL.out.c1
          have k2 := KL.out.c2
          have k3 := KL.out.lt
          have x0 := KX.out.c0
          have x1 := KX.out.c1
          have x2 := KX.out.c2
          have x3 := KX.out.lt
          go_wp2_with fail
          clear k0 k1 k2 k3 x0 x1 x2 x3
          refine (HH.out _).mono ?_
          rintro e w6 ⟨rfl, hb⟩
          replace KX := Lib.hid (KX.out.below hb)
          replace KL := Lib.hid (KL.out.below hb)
          replace KB2 := Lib.hid (below_trans KB2.out hb)
          clear hb
          have k0 := KL.out.c0
          have k1 := KL.out.c1
          have k2 := KL.out.c2
          have k3 := KL.out.lt
          have x0 := KX.out.c0
          have x1 := KX.out.c1
          have x2 := KX.out.c2
          have x3 := KX.out.lt
          go_wp2_with fail
          clear k0 k1 k2 k3 x0 x1 x2 x3
          refine (HK.out _).mono ?_
          rintro e w7 ⟨rfl, hb⟩
          replace KX := Lib.hid (KX.out.below hb)
          replace KL := Lib.hid (KL.out.below hb)
          replace KB2 := Lib.hid (below_trans KB2.out hb)
          clear hb
          have k0 := KL.out.c0
          have k1 := KL.out.c1
          have k2 := KL.out.c2
          have k3 := KL.out.lt
          have x0 := KX.out.c0
          have x1 := KX.out.c1
          have x2 := KX.out.c2
          have x3 := KX.out.lt
          go_wp2_with fail
          clear k0 k1 k2 k3 x0 x1 x2 x3
          refine (HN2.out _).mono ?_
          rintro e w8 ⟨rfl, hb⟩
          replace KX := Lib.hid (KX.out.below hb)
          replace KL := Lib.hid (KL.out.below hb)
          replace KB2 := Lib.hid (below_trans KB2.out hb)
          clear hb
          have k0 := KL.out.c0
          have k1 := KL.out.c1
          have k2 := KL.out.c2
          have k3 := KL.out.lt
          have x0 := KX.out.c0
          have x1 := KX.out.c1
          have x2 := KX.out.c2
          have x3 := KX.out.lt
          go_wp2_with fail
          go_ret
          exact ⟨rfl, KB2.out⟩
        · have g1 : decide ((s.n : Int) ≤ M) = false := decide_eq_false (by omega)
          have b1 : M < (s.n : Int) := by omega
          have b0 : 0 ≤ M := by omega
          by_cases a3 : s.n - m ≤ 128
          · have g3 : decide ((s.n : Int) - M ≤ 128) = true := decide_eq_true (by omega)
            have g4 : (s.n : Int) - M ≤ 128 := by omega
            by_cases a4 : m ∈ out
            · have hcf : c = true := by rw [HCN.out]; exact decide_eq_true a4
              subst hcf
              rw [if_pos (show m ∈ out ∨ _ from .inl a4)] at hck
              rw [hck] at HT
              generalize take s m = t at *
              clear hck hns hsp hm a1 a2 a3 a4 hMc hok hnn
              have k0 := KL.out.c0
              have k1 := KL.out.c1
              have k2 := KL.out.c2
              have k3 := KL.out.lt
              go_wp2_with fail
              clear k0 k1 k2 k3
              refine (HT.out _).mono ?_
              rintro e w3 ⟨rfl, hb⟩
              replace KL := Lib.hid (KL.out.below hb)
              replace KB2 := Lib.hid (below_trans KB2.out hb)
              clear hb HT
              have k0 := KL.out.c0
              have k1 := KL.out.c1
              have k2 := KL.out.c2
              have k3 := KL.out.lt
              go_wp2_with fail
              clear k0 k1 k2 k3
              refine (HN1.out _).mono ?_
              rintro e w4 ⟨rfl, hb⟩
              have KX := Lib.hid ((lies_new w3 t.n t.a t.b).below hb)
              replace KL := Lib.hid (Lies.below (show Lies _ G s.n s.a s.b from Whole.alloc KL.out _) hb)
              replace KB2 := Lib.hid (below_new KB2.out hb)
              clear hb
              generalize w3.heap.size = G3 at KX ⊢
              have k0 := KL.out.c0
              have k1 := KL.out.c1
              have k2 := KL.out.c2
              have k3 := KL.out.lt
              have x0 := KX.out.c0
              have x1 := KX.out.c1
              have x2 := KX.out.c2
              have x3 := KX.out.lt
              go_wp2_with fail
              clear k0 k1 k2 k3 x0 x1 x2 x3
              refine (HN1.out _).mono ?_
              rintro e w5 ⟨rfl, hb⟩
              replace KX := Lib.hid (KX.out.below hb)
              replace KL := Lib.hid (KL.out.below hb)
              replace KB2 := Lib.hid (below_trans KB2.out hb)
              clear hb
              have k0 := KL.out.c0
              have k1 := KL.out.c1
              have k2 := KL.out.c2
              have k3 := KL.out.lt
              have x0 := KX.out.c0
              have x1 := KX.out.c1
              have x2 := KX.out.c2
              have x3 := KX.out.lt
              go_wp2_with fail
              clear k0 k1 k2 k3 x0 x1 x2 x3
              refine (alive_any _).mono ?_
              rintro e w6 ⟨rfl, hb⟩
              replace KX := Lib.hid (KX.out.below hb)
              replace KL := Lib.hid (KL.out.below hb)
              replace KB2 := Lib.hid (below_trans KB2.out hb)
              clear hb
              have k0 := KL.out.c0
              have k1 := KL.out.c1
              have k2 := KL.out.c2
              have k3 := KL.out.lt
              have x0 := KX.out.c0
              have x1 := KX.out.c1
              have x2 := KX.out.c2
              have x3 := KX.out.lt
              go_wp2_with fail
              go_ret
              exact ⟨rfl, KB2.out⟩
            · have hcf : c = false := by rw [HCN.out]; exact decide_eq_false a4
              subst hcf
              rw [if_neg (by rintro (h | h); exact a4 h; omega)] at hck
              have hc0 := hck
              have hpa := put_after HI.out hc0
              have htp : take s m = put s m := if_pos hc0
              rw [← htp] at hpa
              have hokt : (take s m).ok := take_ok m hok
              rw [hc0] at HT
              generalize take s m = t at *
              have HH := Lib.hid (show ∀ w, Calls Try.prog 18 #[.agg #[.int .u64 t.n, .int .u64 t.a, .int .u64 t.b], .int .u64 M] w fun e w' => e = .returned (.bool true) ∧ Below w.heap.size w w' from fun w => by rw [hMc, ← hpa.1]; exact hasW_any t hokt m w)
              have HK := Lib.hid (show ∀ w, Calls Try.prog 16 #[.agg #[.int .u64 t.n, .int .u64 t.a, .int .u64 t.b], .int .u64 M] w fun e w' => e = .returned (.int .i64 80) ∧ Below w.heap.size w w' from fun w => by have h := checkW_any t hokt m w; rw [hpa.2.1] at h; rw [hMc]; exact h)
              have HN2 := Lib.hid (show ∀ w, Calls Try.prog 21 #[.agg #[.int .u64 t.n, .int .u64 t.a, .int .u64 t.b]] w fun e w' => e = .returned (.int .u64 t.n) ∧ Below w.heap.size w w' from fun w => next_any t w)
              have hgt : decide (M < (t.n : Int)) = true := decide_eq_true (by omega)
              clear hck hns hsp hm a1 a2 a3 a4 hMc hok hnn hpa htp hc0
              have k0 := KL.out.c0
              have k1 := KL.out.c1
              have k2 := KL.out.c2
              have k3 := KL.out.lt
              go_wp2_with fail
              clear k0 k1 k2 k3
              refine (HT.out _).mono ?_
              rintro e w3 ⟨rfl, hb⟩
              replace KL := Lib.hid (KL.out.below hb)
              replace KB2 := Lib.hid (below_trans KB2.out hb)
              clear hb HT
              have k0 := KL.out.c0
              have k1 := KL.out.c1
              have k2 := KL.out.c2
              have k3 := KL.out.lt
              go_wp2_with fail
              clear k0 k1 k2 k3
              refine (HN1.out _).mono ?_
              rintro e w4 ⟨rfl, hb⟩
              have KX := Lib.hid ((lies_new w3 t.n t.a t.b).below hb)
              replace KL := Lib.hid (Lies.below (show Lies _ G s.n s.a s.b from Whole.alloc KL.out _) hb)
              replace KB2 := Lib.hid (below_new KB2.out hb)
              clear hb
              generalize w3.heap.size = G3 at KX ⊢
              have k0 := KL.out.c0
              have k1 := KL.out.c1
              have k2 := KL.out.c2
              have k3 := KL.out.lt
              have x0 := KX.out.c0
              have x1 := KX.out.c1
              have x2 := KX.out.c2
              have x3 := KX.out.lt
              go_wp2_with fail
              clear k0 k1 k2 k3 x0 x1 x2 x3
              refine (HN1.out _).mono ?_
              rintro e w5 ⟨rfl, hb⟩
              replace KX := Lib.hid (KX.out.below hb)
              replace KL := Lib.hid (KL.out.below hb)
              replace KB2 := Lib.hid (below_trans KB2.out hb)
              clear hb
              have k0 := KL.out.c0
              have k1 := KL.out.c1
              have k2 := KL.out.c2
              have k3 := KL.out.lt
              have x0 := KX.out.c0
              have x1 := KX.out.c1
              have x2 := KX.out.c2
              have x3 := KX.out.lt
              go_wp2_with fail
              clear k0 k1 k2 k3 x0 x1 x2 x3
              refine (alive_any _).mono ?_
              rintro e w6 ⟨rfl, hb⟩
              replace KX := Lib.hid (KX.out.below hb)
              replace KL := Lib.hid (KL.out.below hb)
              replace KB2 := Lib.hid (below_trans KB2.out hb)
              clear hb
              have k0 := KL.out.c0
              have k1 := KL.out.c1
              have k2 := KL.out.c2
              have k3 := KL.out.lt
              have x0 := KX.out.c0
              have x1 := KX.out.c1
              have x2 := KX.out.c2
              have x3 := KX.out.lt
              go_wp2_with fail
              clear k0 k1 k2 k3 x0 x1 x2 x3
              refine (HH.out _).mono ?_
              rintro e w7 ⟨rfl, hb⟩
              replace KX := Lib.hid (KX.out.below hb)
              replace KL := Lib.hid (KL.out.below hb)
              replace KB2 := Lib.hid (below_trans KB2.out hb)
              clear hb
              have k0 := KL.out.c0
              have k1 := KL.out.c1
              have k2 := KL.out.c2
              have k3 := KL.out.lt
              have x0 := KX.out.c0
              have x1 := KX.out.c1
              have x2 := KX.out.c2
              have x3 := KX.out.lt
              go_wp2_with fail
              clear k0 k1 k2 k3 x0 x1 x2 x3
              refine (HK.out _).mono ?_
              rintro e w8 ⟨rfl, hb⟩
              replace KX := Lib.hid (KX.out.below hb)
              replace KL := Lib.hid (KL.out.below hb)
              replace KB2 := Lib.hid (below_trans KB2.out hb)
              clear hb
              have k0 := KL.out.c0
              have k1 := KL.out.c1
              have k2 := KL.out.c2
              have k3 := KL.out.lt
              have x0 := KX.out.c0
              have x1 := KX.out.c1
              have x2 := KX.out.c2
              have x3 := KX.out.lt
              go_wp2_with fail
              clear k0 k1 k2 k3 x0 x1 x2 x3
              refine (HN2.out _).mono ?_
              rintro e w9 ⟨rfl, hb⟩
              replace KX := Lib.hid (KX.out.below hb)
              replace KL := Lib.hid (KL.out.below hb)
              replace KB2 := Lib.hid (below_trans KB2.out hb)
              clear hb
              have k0 := KL.out.c0
              have k1 := KL.out.c1
              have k2 := KL.out.c2
              have k3 := KL.out.lt
              have x0 := KX.out.c0
              have x1 := KX.out.c1
              have x2 := KX.out.c2
              have x3 := KX.out.lt
              go_wp2_with fail
              go_ret
              exact ⟨rfl, KB2.out⟩
          · have g3 : decide ((s.n : Int) - M ≤ 128) = false := decide_eq_false (by omega)
            have g4 : 128 < (s.n : Int) - M := by omega
            have g8 : (s.n : Int) - M ≤ 18446744073709551615 := by omega
            rw [if_pos (show m ∈ out ∨ (m < s.n ∧ 128 ≤ s.n - 1 - m) from .inr ⟨by omega, by omega⟩)] at hck
            rw [hck] at HT
            generalize take s m = t at *
            clear hck hns hsp hm a1 a2 a3 hMc hok hnn
            have k0 := KL.out.c0
            have k1 := KL.out.c1
            have k2 := KL.out.c2
            have k3 := KL.out.lt
            go_wp2_with fail
            clear k0 k1 k2 k3
            refine (HT.out _).mono ?_
            rintro e w3 ⟨rfl, hb⟩
            replace KL := Lib.hid (KL.out.below hb)
            replace KB2 := Lib.hid (below_trans KB2.out hb)
            clear hb HT
            have k0 := KL.out.c0
            have k1 := KL.out.c1
            have k2 := KL.out.c2
            have k3 := KL.out.lt
            go_wp2_with fail
            clear k0 k1 k2 k3
            refine (HN1.out _).mono ?_
            rintro e w4 ⟨rfl, hb⟩
            have KX := Lib.hid ((lies_new w3 t.n t.a t.b).below hb)
            replace KL := Lib.hid (Lies.below (show Lies _ G s.n s.a s.b from Whole.alloc KL.out _) hb)
            replace KB2 := Lib.hid (below_new KB2.out hb)
            clear hb
            generalize w3.heap.size = G3 at KX ⊢
            have k0 := KL.out.c0
            have k1 := KL.out.c1
            have k2 := KL.out.c2
            have k3 := KL.out.lt
            have x0 := KX.out.c0
            have x1 := KX.out.c1
            have x2 := KX.out.c2
            have x3 := KX.out.lt
            go_wp2_with fail
            clear k0 k1 k2 k3 x0 x1 x2 x3
            refine (HN1.out _).mono ?_
            rintro e w5 ⟨rfl, hb⟩
            replace KX := Lib.hid (KX.out.below hb)
            replace KL := Lib.hid (KL.out.below hb)
            replace KB2 := Lib.hid (below_trans KB2.out hb)
            clear hb
            have k0 := KL.out.c0
            have k1 := KL.out.c1
            have k2 := KL.out.c2
            have k3 := KL.out.lt
            have x0 := KX.out.c0
            have x1 := KX.out.c1
            have x2 := KX.out.c2
            have x3 := KX.out.lt
            go_wp2_with fail
            clear k0 k1 k2 k3 x0 x1 x2 x3
            refine (alive_any _).mono ?_
            rintro e w6 ⟨rfl, hb⟩
            replace KX := Lib.hid (KX.out.below hb)
            replace KL := Lib.hid (KL.out.below hb)
            replace KB2 := Lib.hid (below_trans KB2.out hb)
            clear hb
            have k0 := KL.out.c0
            have k1 := KL.out.c1
            have k2 := KL.out.c2
            have k3 := KL.out.lt
            have x0 := KX.out.c0
            have x1 := KX.out.c1
            have x2 := KX.out.c2
            have x3 := KX.out.lt
            go_wp2_with fail
            go_ret
            exact ⟨rfl, KB2.out⟩
end WindowTakes
end Go.Proofs.Ytijmbjnmfkiklaa
