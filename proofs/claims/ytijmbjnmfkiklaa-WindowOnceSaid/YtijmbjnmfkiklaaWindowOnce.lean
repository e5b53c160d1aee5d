/- 'aditlaw15.WindowOnce' returns true at every input and writes nothing that was there: the walk. No condition. -/
import Derived.Test.YtijmbjnmfkiklaaWinPlayed
import Derived.Test.YtijmbjnmfkiklaaWinRef
import Derived.Test.YtijmbjnmfkiklaaRowA
namespace Go.Proofs.Ytijmbjnmfkiklaa
namespace WindowOnce
open Go.ChangeShapes Go.WideShapes Go.ChangeAt Go.RowKit
open Num Mem Words Chacha Aead Poly Quiet WinT RowV RowA Win

theorem two_cells {w : World} {A : Option Addr} {l : List Nat} (h : RdV w A (l.map fun v => .int .u64 (v : Nat))) {j k : Nat} (hj : j < l.length) (hk : k < l.length) : ∃ b off, A = some ⟨b, off, none⟩ ∧ w.cell? ⟨b, off + j, none⟩ = some (.int .u64 (l[j] : Nat)) ∧ w.cell? ⟨b, off + k, none⟩ = some (.int .u64 (l[k] : Nat)) := by
  obtain ⟨b, off, e, _, hc⟩ := u64_cell h hj
  obtain ⟨b', off', e', _, hc'⟩ := u64_cell h hk
  rw [e] at e'
  injection e' with e'
  injection e' with e1 e2
  subst e1 e2
  exact ⟨b, off, e, hc, hc'⟩

set_option maxRecDepth 100000 in
set_option maxHeartbeats 4000000 in
theorem walk (A0 : Option Addr) (n c0 : Nat) (l : List Nat) (w : World) (h0 : IsNums .u64 (2 ^ 64) w A0 n l) :
    Calls Try.prog 4 #[.slice A0 n c0] w fun e w' => e = .returned (.bool true) ∧ Below w.heap.size w w' := by
  obtain ⟨hl, hn, _, hr⟩ := h0
  have HP := played_any A0 c0 l (by omega) w hr
  have hfirst : ∀ m, l[0]? = some m → (playL (l.take 300)).2.length = 0 → spent ≤ m := by
    intro m hm h0
    have hpos : 0 < l.length := by
      rcases Nat.eq_zero_or_pos l.length with h | h
      · rw [List.getElem?_eq_none (by omega)] at hm; cases hm
      · exact h
    have := play_first l hpos h0
    rw [List.getElem?_eq_getElem hpos] at hm
    injection hm with hm
    omega
  have hnd := play_nodup (l.take 300)
  have hlen : (playL (l.take 300)).2.length ≤ 300 := Nat.le_trans (play_len _) (List.length_take_le _ _)
  rw [hl] at HP
  unfold winV at HP
  generalize playL (l.take 300) = p at *
  have HC := Lib.hid HP
  have HF := Lib.hid hfirst
  have HD := Lib.hid hnd
  have HR := Lib.hid hr
  have HL := Lib.hid hl
  clear hr HP hfirst hnd hl
  obtain ⟨s, out⟩ := p
  simp only at HC HF HD hlen
  obtain ⟨N, hN⟩ : ∃ N, out.length = N := ⟨_, rfl⟩
  rw [hN] at HC HF hlen
  have HN := Lib.hid hN
  clear hN
  go_enter Try.func4, Try.ntmps4
  go_wp2_with fail
  refine HC.out.mono ?_
  rintro e w1 ⟨A1, c1, rfl, hrow, hb⟩
  have HX := Lib.hid (rdv_own hrow)
  have KB := Lib.hid hb
  clear hrow hb HC
  go_wp2_with fail
  obtain ⟨w2, hw2⟩ : ∃ w2, w2 = w1.alloc (.cells #[.int .u64 s.n, .int .u64 s.a, .int .u64 s.b] 27) := ⟨_, rfl⟩
  rw [← hw2]
  have HX2 := Lib.hid (show RdV w2 A1 (out.map u64V) from HX.out.below (B := w1.heap.size) (by rw [hw2]; exact (Below.refl _ _).alloc (Nat.le_refl _) _) (Nat.le_refl _))
  have KB2 := Lib.hid (show Below w.heap.size w w2 by rw [hw2]; exact below_alloc KB.out _)
  clear hw2 HX KB
  go_loopw [5] (fun i wr => ∃ k : Nat, k ≤ N ∧ i = .int .i64 k ∧ RdV wr A1 (out.map u64V) ∧ Below w.heap.size w wr) (fun i _ => N - (intOf i).toNat)
  case atStart => exact ⟨0, Nat.zero_le _, rfl, HX2.out, KB2.out⟩
  case round =>
    obtain ⟨k, hk, rfl, hx, hb⟩ := hrel
    have HX := Lib.hid hx
    have KB := Lib.hid hb
    clear hx hb HX2 KB2
    by_cases hlt : k < N
    · go_wp2_with fail
      go_loopw [6] (fun i wq => ∃ q : Nat, q ≤ k ∧ i = .int .i64 q ∧ RdV wq A1 (out.map u64V) ∧ Below w.heap.size w wq) (fun i _ => k - (intOf i).toNat)
      case atStart => exact ⟨0, Nat.zero_le _, rfl, HX.out, KB.out⟩
      case round =>
        obtain ⟨q, hq, rfl, hx, hb⟩ := hrel
        have HX := Lib.hid hx
        have KB := Lib.hid hb
        by_cases hql : q < k
        · have hkl : k < out.length := by rw [HN.out]; exact hlt
          obtain ⟨b, off, rfl, h1, h2⟩ := two_cells hx (show q < out.length by omega) hkl
          have hne : out[q] ≠ out[k] := List.pairwise_iff_getElem.1 HD.out q k _ hkl hql
          clear hx hb
          generalize out[q] = x at *
          generalize out[k] = y at *
          have h3 : ((x : Int) == y) = false := by rw [beq_eq_false_iff_ne]; omega
          have h4 : ((x : Int) = y) = False := eq_false (by omega)
          clear hne hkl
          go_upto_region 8 with fail
          go_quiet (fail)
          go_wp2_with fail
          go_roundw
          case rel => exact ⟨q + 1, by omega, by go_num, HX.out, below_drewN KB.out _⟩
          case measure => simp [intOf]; omega
        · clear hx hb
          go_wp2_with fail
          go_roundw
          case rel => exact ⟨k + 1, by omega, by go_num, HX.out, KB.out⟩
          case measure => simp [intOf]; omega
    · have hz : n = 0 ∨ 0 < n := by omega
      rcases hz with rfl | hpos
      · go_wp2_with fail
        refine (alive_any _).mono ?_
        rintro e w3 ⟨rfl, hb⟩
        have K3 := Lib.hid (below_trans KB.out hb)
        clear hb
        go_wp2_with fail
        go_ret
        exact ⟨rfl, K3.out⟩
      · have hz1 : ((n : Int) == 0) = false := by rw [beq_eq_false_iff_ne]; omega
        have hz2 : ((n : Int) = 0) = False := eq_false (by omega)
        have hz3 : N = 0 ∨ 0 < N := by omega
        rcases hz3 with rfl | hp
        · have hpl : 0 < l.length := by rw [HL.out]; exact hpos
          obtain ⟨b, off, rfl, hbl, h1⟩ := u64_cell (HR.out.below KB.out (Nat.le_refl _)) hpl
          have h2 := HF.out l[0] (List.getElem?_eq_getElem hpl) rfl
          rw [show spent = 18446744073709543423 from rfl] at h2
          generalize l[0] = x at *
          obtain ⟨M, hM⟩ : ∃ M : Int, M = (x : Int) := ⟨_, rfl⟩
          rw [← hM] at h1
          have h3 : decide ((18446744073709543423 : Int) ≤ M) = true := decide_eq_true (by omega)
          clear hM h2 HF
          go_wp2_with fail
          refine (alive_any _).mono ?_
          rintro e w3 ⟨rfl, hb⟩
          have K3 := Lib.hid (below_trans KB.out hb)
          have h4 : w3.cell? ⟨b, off, none⟩ = some (.int .u64 M) := (hb.cell (p := ⟨b, off, none⟩) hbl).trans h1
          clear hb h1
          go_wp2_with fail
          go_ret
          exact ⟨rfl, K3.out⟩
        · have hp1 : decide (0 < N) = true := decide_eq_true hp
          go_wp2_with fail
          refine (alive_any _).mono ?_
          rintro e w3 ⟨rfl, hb⟩
          have K3 := Lib.hid (below_trans KB.out hb)
          clear hb
          go_wp2_with fail
          go_ret
          exact ⟨rfl, K3.out⟩
end WindowOnce
end Go.Proofs.Ytijmbjnmfkiklaa
