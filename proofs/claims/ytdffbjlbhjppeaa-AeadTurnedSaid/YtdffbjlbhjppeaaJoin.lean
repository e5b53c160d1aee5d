/- The call join of package aead: the parts, one behind the other. -/
import Derived.Test.YtdffbjlbhjppeaaRefNum
import Derived.Test.YtdffbjlbhjppeaaPolyBoth
namespace Go.Proofs.Ytdffbjlbhjppeaa
namespace Aead
open Go.ChangeShapes Go.WideShapes Go.ChangeAt Go.RowKit
open Num Mem Words PolyN Chacha Quiet Poly Ref

/-- parts, one behind the other: how long, and what -/
def joN (p : Parts) : Nat → Nat
  | 0 => 0
  | k + 1 => joN p k + p.n k
def joF (p : Parts) : Nat → Nat → Nat
  | 0, _ => 0
  | k + 1, i => if i < joN p k then joF p k i else p.f k (i - joN p k)

set_option maxRecDepth 100000 in
set_option maxHeartbeats 1000000 in
theorem join_any (P : Option Addr) (K c : Nat) (p : Parts) (hK : K ≤ 100) (w : World) (hP : p.In w P K) (hN : ∀ i, i < K → p.A i = none → p.n i = 0 ∧ p.c i = 0) :
    Calls Try.prog 43 #[.slice P K c] w fun e w' => ∃ A c', e = .returned (.slice A (joN p K) (joN p K)) ∧ Own w' w.heap.size 5 A (joN p K) c' (joF p K) ∧ Below w.heap.size w w' := by
  have HP := Lib.hid hP
  have HN := Lib.hid hN
  clear hP hN
  go_enter Try.func43, Try.ntmps43
  go_wp2_with fail
  go_loopw [3, 8] (fun o i wr => ∃ (k : Nat) (A2 : Option Addr) (c2 : Nat), k ≤ K ∧ i = .int .i64 k ∧ o = .slice A2 (joN p k) c2 ∧ joN p k ≤ 1000000 * k ∧ Own wr w.heap.size 5 A2 (joN p k) c2 (joF p k) ∧ Below w.heap.size w wr) (fun _ i _ => K - (intOf i).toNat)
  case atStart => exact ⟨0, none, 0, Nat.zero_le _, rfl, rfl, Nat.zero_le _, Own.nil _ _ _ _, Below.refl _ _⟩
  case round =>
    obtain ⟨k, A2, c2, hkK, rfl, rfl, hcn, o2, l2⟩ := hrel
    have O2 := Lib.hid o2
    have L2 := Lib.hid l2
    have hsz := l2.size
    clear o2 l2
    by_cases hlt : k < K
    · obtain ⟨pb, po, rfl, hpb, hpc⟩ : ∃ b off, P = some ⟨b, off, none⟩ ∧ b < w.heap.size ∧ ∀ i, i < K → w.cell? ⟨b, off + i, none⟩ = some (.slice (p.A i) (p.n i) (p.c i)) := by
        rcases HP.out.2.2 with h | h
        · omega
        · exact h
      have hcell := (L2.out.cell (p := ⟨pb, po + k, none⟩) hpb).trans (hpc k hlt)
      have hpk := HP.out.1 k hlt
      have hnk' := HN.out k hlt
      have HSTEP := Lib.hid (show ∀ i, i < joN p k + p.n k → joF p (k + 1) i = if i < joN p k then joF p k i else (p.f k) (i - joN p k) from fun i _ => rfl)
      have HSN := Lib.hid (show joN p (k + 1) = joN p k + p.n k from rfl)
      obtain ⟨A0, hA0⟩ : ∃ x, p.A k = x := ⟨_, rfl⟩
      obtain ⟨n0, hn0⟩ : ∃ x, p.n k = x := ⟨_, rfl⟩
      obtain ⟨c0, hc0⟩ : ∃ x, p.c k = x := ⟨_, rfl⟩
      obtain ⟨f0, hf0⟩ : ∃ x, p.f k = x := ⟨_, rfl⟩
      obtain ⟨T1, hT1⟩ : ∃ x, joF p k = x := ⟨_, rfl⟩
      obtain ⟨T2, hT2⟩ : ∃ x, joF p (k + 1) = x := ⟨_, rfl⟩
      obtain ⟨N1, hN1⟩ : ∃ x, joN p k = x := ⟨_, rfl⟩
      have HT2 := Lib.hid hT2
      rw [hA0, hn0, hc0] at hcell
      rw [hA0, hn0, hc0, hf0] at hpk
      rw [hA0, hn0, hc0] at hnk'
      rw [hn0] at HSN
      rw [hn0, hf0, hT1, hT2, hN1] at HSTEP
      rw [hN1] at HSN hcn O2
      rw [hT1] at O2
      have HR0 := Lib.hid (hpk.1.below L2.out (Nat.le_refl _))
      have HNK := Lib.hid hnk'
      have hn1 := hpk.2.2
      clear hA0 hn0 hc0 hf0 hT1 hT2 hpk hnk' hpc
      try rw [hN1]
      go_wp2_with (at_builtin; refine wpList_catFrom (T := T2) rfl (.tmp 12) (.tmp 13) 23 5 (.int .u8 0) 1 Try.underlying23 info_u8 rfl rfl rfl O2.out L2.out hsz n0 c0 A0 rfl (src_rd HR0.out HNK.out) (by omega) (by omega) HSTEP.out ?_; intro A5 c5 w5 o5 hb5 hs5 _ _; have O5 := Lib.hid o5; have L5 := Lib.hid hb5; clear o5 hb5)
      go_roundw
      case rel => exact ⟨k + 1, A5, c5, by omega, by go_num, by rw [HSN.out], by rw [HSN.out]; omega, by rw [HSN.out, HT2.out]; exact O5.out, L5.out⟩
      case measure => simp [intOf]; omega
    · obtain rfl : k = K := by omega
      have hcap := own_cap O2.out
      obtain ⟨T1, hT1⟩ : ∃ x, joF p k = x := ⟨_, rfl⟩
      obtain ⟨N1, hN1⟩ : ∃ x, joN p k = x := ⟨_, rfl⟩
      rw [hT1, hN1] at O2
      rw [hN1] at hcn hcap ⊢
      have HN1 := Lib.hid hN1
      have HT1 := Lib.hid hT1
      clear hT1 hN1
      rcases own_at O2.out with h0 | ⟨g, rfl, _, _⟩
      · subst h0
        obtain ⟨rfl, rfl⟩ : N1 = 0 ∧ c2 = 0 := by
          rcases (show wr.ownsRow _ _ _ _ _ _ from O2.out).2 with ⟨e, h⟩ | ⟨_, _, _, e, _⟩
          · injection e with _ _ e3
            exact ⟨h, e3⟩
          · injection e with e1
            cases e1
        go_wp2_with fail
        go_ret
        rw [HN1.out, HT1.out]
        exact ⟨none, 0, rfl, O2.out, L2.out⟩
      · go_wp2_with fail
        go_ret
        rw [HN1.out, HT1.out]
        exact ⟨_, c2, rfl, O2.out, L2.out⟩

end Aead
end Go.Proofs.Ytdffbjlbhjppeaa
