/- The document's own answers of layer 3 (package aditref03): Pad, Both. -/
import Derived.Test.YtdffbjlbhjppeaaRefSum
import Derived.Test.YtdffbjlbhjppeaaPolyBoth
import Derived.Test.YtdffbjlbhjppeaaSlices
namespace Go.Proofs.Ytdffbjlbhjppeaa
namespace Ref
open Go.ChangeShapes Go.WideShapes Go.ChangeAt Go.RowKit
open Num Mem Words PolyN Poly

/-- how long a text is that is filled up -/
def up16 (n : Nat) : Nat := 16 * ((n + 15) / 16)

set_option maxRecDepth 100000 in
theorem pad_any (A : Option Addr) (n c : Nat) (f : Nat → Nat) (hn : n ≤ 100000) (hnil : A = none → n = 0 ∧ c = 0) (w : World) (hr : Rd w A n f) :
    Calls Try.prog 39 #[.slice A n c] w fun e w' => ∃ A' c', e = .returned (.slice A' (up16 n) c') ∧ Own w' w.heap.size 5 A' (up16 n) c' (zx f n) ∧ Below w.heap.size w w' := by
  have HR := Lib.hid hr
  have HN := Lib.hid hnil
  have HZ := Lib.hid (show ∀ i, n ≤ i → zx f n i = 0 from fun i hi => zx_out hi)
  have HI := Lib.hid (show ∀ i, i < 0 + n → zx f n i = if i < 0 then (zx f n) i else f (i - 0) from fun i hi => by rw [if_neg (by omega), Nat.sub_zero, zx_in (by omega)])
  obtain ⟨F, hF⟩ : ∃ F, zx f n = F := ⟨_, rfl⟩
  obtain ⟨m, hm⟩ : ∃ m, up16 n = m := ⟨_, rfl⟩
  rw [hF] at HZ HI
  have hm1 : n ≤ m := by unfold up16 at hm; omega
  have hm2 : m < n + 16 := by unfold up16 at hm; omega
  have hm3 : m % 16 = 0 := by unfold up16 at hm; omega
  rw [hF, hm]
  clear hr hnil hF hm
  go_enter Try.func39, Try.ntmps39
  go_upto_region 3 with (at_builtin; refine wpList_catFrom (T := F) rfl (.tmp 4) (.tmp 5) 23 5 (.int .u8 0) 1 Try.underlying23 info_u8 rfl rfl rfl (Own.nil w w.heap.size 5 F) (Below.refl _ _) (Nat.le_refl _) n c A rfl (src_rd HR.out HN.out) (by omega) (by omega) HI.out ?_)
  intro A8 c8 w8 o8 hb8 hs8 _ _
  have O8 := Lib.hid (show Own w8 w.heap.size 5 A8 n c8 F by simpa using o8)
  have L8 := Lib.hid hb8
  clear o8 hb8 HI
  try rw [Nat.zero_add]
  go_wp2_with fail
  go_loopw [3] (fun s wr => ∃ (A2 : Option Addr) (k c2 : Nat), s = .slice A2 k c2 ∧ n ≤ k ∧ k ≤ m ∧ Own wr w.heap.size 5 A2 k c2 F ∧ Below w.heap.size w wr) (fun s _ => m - lenOf s)
  case atStart => exact ⟨A8, n, c8, rfl, Nat.le_refl _, hm1, O8.out, L8.out⟩
  case round =>
    obtain ⟨A2, k, c2, rfl, hk1, hk2, o2, l2⟩ := hrel
    have O2 := Lib.hid o2
    have L2 := Lib.hid l2
    have hsz := l2.size
    clear o2 l2
    obtain ⟨q, hq⟩ : ∃ q, k % 16 = q := ⟨_, rfl⟩
    have hqI : ((k : Int) % 16) = (q : Int) := by omega
    by_cases hlt : k < m
    · have hb : ((q : Int) != 0) = true := by simp only [bne_iff_ne, ne_eq]; omega
      have HV := Lib.hid (show (0 : Int) = (F k : Nat) by rw [HZ.out k hk1]; rfl)
      clear hq
      go_wp2_with (at_builtin; refine wpList_push rfl _ _ rfl rfl rfl O2.out L2.out hsz HV.out (by omega) ?_; intro A3 c3 w3 hown1 hbel1 hsz1; have HO1 := Lib.hid hown1; have HL1 := Lib.hid hbel1; clear hown1 hbel1)
      go_roundw
      case rel => exact ⟨A3, k + 1, c3, rfl, by omega, by omega, HO1.out, HL1.out⟩
      case measure => simp [lenOf]; omega
    · obtain rfl : k = m := by omega
      have hq0 : q = 0 := by omega
      have hb : ((q : Int) != 0) = false := by rw [hq0]; rfl
      clear hq hq0
      go_wp2_with fail
      go_ret
      exact ⟨A2, c2, rfl, O2.out, L2.out⟩

/-! ### Both -/
/-- parts, one behind the other, filled up: how long, and what -/
def catN (p : Parts) : Nat → Nat
  | 0 => 0
  | k + 1 => catN p k + up16 (p.n k)
def catF (p : Parts) : Nat → Nat → Nat
  | 0, _ => 0
  | k + 1, i => if i < catN p k then catF p k i else zx (p.f k) (p.n k) (i - catN p k)
theorem catN_16 (p : Parts) (k : Nat) : catN p k % 16 = 0 := by
  induction k with
  | zero => rfl
  | succ k ih => unfold catN up16; omega
theorem catF_lt {p : Parts} (h : ∀ i j, p.f i j < 256) (k i : Nat) : catF p k i < 256 := by
  induction k with
  | zero => unfold catF; omega
  | succ k ih =>
    unfold catF
    split
    · exact ih
    · exact zx_lt (h k) _ _

/-- a text that is filled up has the mark of pieces that are -/
theorem mac_pad (R : Nat) : ∀ (n a : Nat) (f : Nat → Nat), mac R false a (zx f n) (up16 n) = mac R true a f n := by
  intro n
  induction n using Nat.strongRecOn with
  | ind n ih =>
    intro a f
    rcases Nat.eq_zero_or_pos n with rfl | hn
    · rfl
    · have hu : 0 < up16 n := by unfold up16; omega
      rw [mac_step R false a _ _ hu, mac_step R true a f n hn, ← ih (n - 16) (by omega)]
      have e1 : up16 n - 16 = up16 (n - 16) := by unfold up16; omega
      have e2 : min (up16 n) 16 = 16 := by unfold up16; omega
      have e3 : pn (zx f n) 16 16 = pn f (min n 16) 16 := by
        unfold pn
        refine le_congr 17 fun i _ => ?_
        rw [Nat.zero_add]
        unfold pce zx
        by_cases h1 : i < min n 16
        · rw [if_pos (by omega), if_pos (by omega), if_pos h1]
        · rw [if_neg h1]
          by_cases h2 : i < 16
          · rw [if_pos h2, if_neg (by omega), if_neg (by omega)]
          · rw [if_neg h2]
      simp only [Bool.false_eq_true, if_false, if_true]
      rw [e1, e2, e3]
      exact mac_congr R false _ _ _ _ fun i _ => by
        show zx f n (16 + i) = zx (fun i => f (16 + i)) (n - 16) i
        unfold zx
        by_cases h1 : i < n - 16
        · rw [if_pos h1, if_pos (by omega)]
        · rw [if_neg h1, if_neg (by omega)]
/-- the mark of a text out of two, the first of which has whole pieces -/
theorem mac_cat (R : Nat) : ∀ (q a m : Nat) (f g T : Nat → Nat), (∀ i, i < 16 * q + m → T i = if i < 16 * q then f i else g (i - 16 * q)) → mac R false a T (16 * q + m) = mac R false (mac R false a f (16 * q)) g m := by
  intro q
  induction q with
  | zero =>
    intro a m f g T h
    rw [Nat.mul_zero, mac_zero, Nat.zero_add]
    exact mac_congr R false m a T g fun i hi => by rw [h i (by omega), if_neg (by omega), Nat.mul_zero, Nat.sub_zero]
  | succ q ih =>
    intro a m f g T h
    rw [mac_step R false a T _ (by omega), mac_step R false a f _ (by omega)]
    rw [show 16 * (q + 1) + m - 16 = 16 * q + m by omega, show 16 * (q + 1) - 16 = 16 * q by omega, show min (16 * (q + 1) + m) 16 = 16 by omega, show min (16 * (q + 1)) 16 = 16 by omega]
    rw [pn_congr (f := T) (g := f) (n := 16) (fun i hi => by rw [h i (by omega), if_pos (by omega)])]
    exact ih _ m _ g _ fun i hi => by
      show T (16 + i) = if i < 16 * q then f (16 + i) else g (i - 16 * q)
      rw [h (16 + i) (by omega)]
      by_cases h1 : i < 16 * q
      · rw [if_pos h1, if_pos (by omega)]
      · rw [if_neg h1, if_neg (by omega)]
        congr 1
        omega
theorem mac_parts (R : Nat) (p : Parts) (k : Nat) : mac R false 0 (catF p k) (catN p k) = macs R p k := by
  induction k with
  | zero => exact mac_zero R false 0 _
  | succ k ih =>
    have h16 := catN_16 p k
    obtain ⟨q, hq⟩ : ∃ q, catN p k = 16 * q := ⟨catN p k / 16, by omega⟩
    have h := mac_cat R q 0 (up16 (p.n k)) (catF p k) (zx (p.f k) (p.n k)) (catF p (k + 1)) (fun i _ => by
      rw [← hq]
      rfl)
    rw [← hq, ih, mac_pad] at h
    exact h

/-- what is told of parts, for the document's answer -/
def Nils (p : Parts) (k : Nat) : Prop := ∀ i, i < k → (p.A i = none → p.n i = 0 ∧ p.c i = 0) ∧ p.n i ≤ 1000

set_option maxRecDepth 100000 in
set_option maxHeartbeats 1000000 in
theorem both_ref (AK : Option Addr) (nk ck : Nat) (key : Nat → Nat) (hk : ∀ i, key i < 256) (hnk : 32 ≤ nk) (hnk2 : nk ≤ 1000000) (hck : nk ≤ ck) (hck2 : ck ≤ 9223372036854775807) (P : Option Addr) (K c : Nat) (p : Parts) (hK : K ≤ 100) (w : World) (hrk : Rd w AK nk key) (hP : p.In w P K) (hN : Nils p K) :
    Calls Try.prog 20 #[.slice AK nk ck, .slice P K c] w (SumRefPost w (tag (macs (rk key) p K) key)) := by
  have HK := Lib.hid hk
  have HRK := Lib.hid hrk
  have HP := Lib.hid hP
  have HN := Lib.hid hN
  have HF := Lib.hid (show ∀ k i, catF p k i < 256 from catF_lt hP.2.1)
  clear hk hrk hP hN
  go_enter Try.func20, Try.ntmps20
  go_wp2_with fail
  go_loopw [5, 6] (fun o i wr => ∃ (k : Nat) (A2 : Option Addr) (c2 : Nat), k ≤ K ∧ i = .int .i64 k ∧ o = .slice A2 (catN p k) c2 ∧ catN p k ≤ 2000 * k ∧ Own wr w.heap.size 5 A2 (catN p k) c2 (catF p k) ∧ Below w.heap.size w wr) (fun _ i _ => K - (intOf i).toNat)
  case atStart => exact ⟨0, none, 0, Nat.zero_le _, rfl, rfl, Nat.zero_le _, Own.nil _ _ _ _, Below.refl _ _⟩
  case round =>
    obtain ⟨k, A2, c2, hkK, rfl, rfl, hcn, o2, l2⟩ := hrel
    have O2 := Lib.hid o2
    have L2 := Lib.hid l2
    have hsz := l2.size
    clear o2 l2
    by_cases hlt : k < K
    · obtain ⟨pb, po, rfl, hpb, hpc⟩ : ∃ b off, P = some ⟨b, off, none⟩ ∧ b < w.heap.size ∧ ∀ i, i < K → w.cell? ⟨b, off + i, none⟩ = some (.slice (p.A i) (p.n i) (p.c i)) := by
        rcases HP.out.2.2 with h | h
        · omega
        · exact h
      have hcell := (L2.out.cell (p := ⟨pb, po + k, none⟩) hpb).trans (hpc k hlt)
      have hpk := HP.out.1 k hlt
      have hnk' := HN.out k hlt
      have HSTEP := Lib.hid (show ∀ i, i < catN p k + up16 (p.n k) → catF p (k + 1) i = if i < catN p k then catF p k i else zx (p.f k) (p.n k) (i - catN p k) from fun i _ => rfl)
      have HSN := Lib.hid (show catN p (k + 1) = catN p k + up16 (p.n k) from rfl)
      have hu : up16 (p.n k) ≤ 1016 := by have := hnk'.2; unfold up16; omega
      obtain ⟨A0, hA0⟩ : ∃ x, p.A k = x := ⟨_, rfl⟩
      obtain ⟨n0, hn0⟩ : ∃ x, p.n k = x := ⟨_, rfl⟩
      obtain ⟨c0, hc0⟩ : ∃ x, p.c k = x := ⟨_, rfl⟩
      obtain ⟨f0, hf0⟩ : ∃ x, p.f k = x := ⟨_, rfl⟩
      obtain ⟨T1, hT1⟩ : ∃ x, catF p k = x := ⟨_, rfl⟩
      obtain ⟨T2, hT2⟩ : ∃ x, catF p (k + 1) = x := ⟨_, rfl⟩
      obtain ⟨N1, hN1⟩ : ∃ x, catN p k = x := ⟨_, rfl⟩
      have HT2 := Lib.hid hT2
      rw [hA0, hn0, hc0] at hcell
      rw [hA0, hn0, hc0, hf0] at hpk
      rw [hA0, hn0, hc0] at hnk'
      rw [hn0] at hu HSN
      rw [hn0, hf0, hT1, hT2, hN1] at HSTEP
      rw [hN1] at HSN hcn O2
      rw [hT1] at O2
      have HR0 := Lib.hid (hpk.1.below L2.out (Nat.le_refl _))
      have HNK := Lib.hid hnk'.1
      have hn1 := hnk'.2
      clear hA0 hn0 hc0 hf0 hT1 hT2 hpk hnk' hpc
      try rw [hN1]
      go_wp2_with fail
      refine (pad_any A0 n0 c0 f0 (by omega) HNK.out _ HR0.out).mono ?_
      rintro e w3 ⟨A3, c3, rfl, o3, hb3⟩
      have O3 := Lib.hid o3
      have L3 := Lib.hid (L2.out.trans (hb3.mono hsz))
      have O4 := Lib.hid (O2.out.below hb3 (Nat.le_refl _))
      have hs3 := L3.out.size
      clear o3 hb3 O2
      go_wp2_with (at_builtin; refine wpList_catFrom (T := T2) rfl (.tmp 13) (.tmp 18) 23 5 (.int .u8 0) 1 Try.underlying23 info_u8 rfl rfl rfl O4.out L3.out hs3 (up16 n0) c3 A3 rfl (src_own O3.out) (by omega) (by omega) HSTEP.out ?_; intro A5 c5 w5 o5 hb5 hs5 _ _; have O5 := Lib.hid o5; have L5 := Lib.hid hb5; clear o5 hb5)
      go_roundw
      case rel => exact ⟨k + 1, A5, c5, by omega, by go_num, by rw [HSN.out], by rw [HSN.out]; omega, by rw [HSN.out, HT2.out]; exact O5.out, L5.out⟩
      case measure => simp [intOf]; omega
    · obtain rfl : k = K := by omega
      have hcap := own_cap O2.out
      have hcm := O2.out
      have HMP := Lib.hid (show sumAt key (catF p k) (catN p k) = tag (macs (rk key) p k) key by unfold sumAt; rw [mac_parts])
      have HFK := Lib.hid (HF.out k)
      have hcap2 : c2 ≤ 9223372036854775807 := by
        rcases hcm.2 with ⟨e, _⟩ | ⟨g, cap, cur, e, _, _, _, hcl, _⟩
        · injection e with _ _ e3
          omega
        · injection e with _ _ e3
          rw [e3]
          simpa [maxLen] using hcl
      clear hcm
      obtain ⟨T1, hT1⟩ : ∃ x, catF p k = x := ⟨_, rfl⟩
      obtain ⟨N1, hN1⟩ : ∃ x, catN p k = x := ⟨_, rfl⟩
      rw [hT1, hN1] at O2 HMP
      rw [hT1] at HFK
      rw [hN1] at hcn hcap ⊢
      clear hT1 hN1
      go_wp2_with fail
      refine (sum_ref AK nk ck key HK.out hnk hnk2 hck hck2 A2 N1 c2 T1 HFK.out (by omega) hcap hcap2 _ (HRK.out.below L2.out (Nat.le_refl _)) O2.out.rd).mono ?_
      rintro e w5 ⟨A5, c5, rfl, r5, hc5, hb5⟩
      rw [HMP.out] at r5
      have R5 := Lib.hid r5
      have L5 := Lib.hid (L2.out.trans (hb5.mono hsz))
      clear r5 hb5
      go_wp2_with fail
      go_ret
      exact ⟨A5, c5, rfl, R5.out, hc5, L5.out⟩

end Ref
end Go.Proofs.Ytdffbjlbhjppeaa
