/- The document's own answers of layer 3 (package aditref03): Clamp, Sum. -/
import Derived.Test.YtdffbjlbhjppeaaRefMod
import Derived.Test.YtdffbjlbhjppeaaMac
import Derived.Test.YtdffbjlbhjppeaaPolySum
namespace Go.Proofs.Ytdffbjlbhjppeaa
namespace Ref
open Go.ChangeShapes Go.WideShapes Go.ChangeAt Go.RowKit
open Num Mem Words PolyN Poly

set_option maxRecDepth 100000 in
theorem clamp_ref (A : Option Addr) (n c : Nat) (key : Nat → Nat) (hk : ∀ i, key i < 256) (hn : 16 ≤ n) (hn2 : n ≤ 1000000) (w : World) (hr : Rd w A n key) :
    Calls Try.prog 17 #[.slice A n c] w fun e w' => ∃ A' c', e = .returned (.slice A' 16 c') ∧ Own w' w.heap.size 5 A' 16 c' (cl key) ∧ Below w.heap.size w w' := by
  obtain ⟨b, off, hAe, hbw, hcc⟩ : ∃ b off, A = some ⟨b, off, none⟩ ∧ b < w.heap.size ∧ ∀ i, i < n → w.cell? ⟨b, off + i, none⟩ = some (.int .u8 (key i : Nat)) := by
    rcases hr with h | ⟨b, off, h1, h2, h3⟩
    · omega
    · exact ⟨b, off, h1, h2, h3⟩
  subst hAe
  have HX := Lib.hid (show ∀ x, Below w.heap.size w x → ∀ i, i < n → x.cell? ⟨b, off + i, none⟩ = some (.int .u8 (key i : Nat)) from fun x hx i hi => (hx.cell (p := ⟨b, off + i, none⟩) hbw).trans (hcc i hi))
  have HK := Lib.hid hk
  clear hr hk hcc
  go_enter Try.func17, Try.ntmps17
  go_wp2_with fail
  go_loopw [3, 4] (fun o i wr => ∃ (k : Nat) (A' : Option Addr) (c' : Nat), k ≤ 16 ∧ i = .int .i64 k ∧ o = .slice A' k c' ∧ Own wr w.heap.size 5 A' k c' (cl key) ∧ Below w.heap.size w wr) (fun _ i _ => 16 - (intOf i).toNat)
  case atStart => exact ⟨0, none, 0, Nat.zero_le _, rfl, rfl, Own.nil _ _ _ _, Below.refl _ _⟩
  case round =>
    obtain ⟨k, A', c', hk, rfl, rfl, hown, hbel⟩ := hrel
    have HO := Lib.hid hown
    have HL := Lib.hid hbel
    have hsz := hbel.size
    clear hown hbel
    by_cases hlt : k < 16
    · have hcell := HX.out wr HL.out k (by omega)
      have b1 := HK.out k
      obtain ⟨q, hq⟩ : ∃ q, k % 4 = q := ⟨_, rfl⟩
      have hqI : ((k : Int) % 4) = (q : Int) := by omega
      have HCL := Lib.hid (show cl key k = if q = 3 then key k % 16 else if q = 0 ∧ 0 < k then key k - key k % 4 else key k by rw [← hq]; rfl)
      generalize key k = x at hcell b1 HCL
      by_cases h3 : q = 3
      · have HV := Lib.hid (show ((x : Int) % 16) = (cl key k : Nat) by rw [HCL.out, if_pos h3]; omega)
        have e3 : ((q : Int) == 3) = true := by rw [h3]; rfl
        have e0 : ((q : Int) == 0) = false := by rw [h3]; rfl
        clear h3 hq
        go_wp2_with (at_builtin; refine wpList_push rfl _ _ rfl rfl rfl HO.out HL.out hsz HV.out (by omega) ?_; intro A2 c2 w1 hown1 hbel1 hsz1; have HO1 := Lib.hid hown1; have HL1 := Lib.hid hbel1; clear hown1 hbel1)
        go_roundw
        case rel => exact ⟨k + 1, A2, c2, by omega, by go_num, rfl, HO1.out, HL1.out⟩
        case measure => simp [intOf]; omega
      · have e3 : ((q : Int) == 3) = false := beq_eq_false_iff_ne.2 (by omega)
        by_cases h0 : q = 0
        · have e0 : ((q : Int) == 0) = true := by rw [h0]; rfl
          by_cases hk0 : 0 < k
          · have HV := Lib.hid (show ((x : Int) - (x : Int) % 4) = (cl key k : Nat) by rw [HCL.out, if_neg h3, if_pos ⟨h0, hk0⟩]; omega)
            have i1 : (0 : Int) ≤ (x : Int) - (x : Int) % 4 := by omega
            clear h3 hq h0
            go_wp2_with (at_builtin; refine wpList_push rfl _ _ rfl rfl rfl HO.out HL.out hsz HV.out (by omega) ?_; intro A2 c2 w1 hown1 hbel1 hsz1; have HO1 := Lib.hid hown1; have HL1 := Lib.hid hbel1; clear hown1 hbel1)
            go_roundw
            case rel => exact ⟨k + 1, A2, c2, by omega, by go_num, rfl, HO1.out, HL1.out⟩
            case measure => simp [intOf]; omega
          · have HV := Lib.hid (show (x : Int) = (cl key k : Nat) by rw [HCL.out, if_neg h3, if_neg (fun h => hk0 h.2)])
            clear h3 hq h0
            go_wp2_with (at_builtin; refine wpList_push rfl _ _ rfl rfl rfl HO.out HL.out hsz HV.out (by omega) ?_; intro A2 c2 w1 hown1 hbel1 hsz1; have HO1 := Lib.hid hown1; have HL1 := Lib.hid hbel1; clear hown1 hbel1)
            go_roundw
            case rel => exact ⟨k + 1, A2, c2, by omega, by go_num, rfl, HO1.out, HL1.out⟩
            case measure => simp [intOf]; omega
        · have e0 : ((q : Int) == 0) = false := beq_eq_false_iff_ne.2 (by omega)
          have HV := Lib.hid (show (x : Int) = (cl key k : Nat) by rw [HCL.out, if_neg h3, if_neg (fun h => h0 h.1)])
          clear h3 hq h0
          go_wp2_with (at_builtin; refine wpList_push rfl _ _ rfl rfl rfl HO.out HL.out hsz HV.out (by omega) ?_; intro A2 c2 w1 hown1 hbel1 hsz1; have HO1 := Lib.hid hown1; have HL1 := Lib.hid hbel1; clear hown1 hbel1)
          go_roundw
          case rel => exact ⟨k + 1, A2, c2, by omega, by go_num, rfl, HO1.out, HL1.out⟩
          case measure => simp [intOf]; omega
    · obtain rfl : k = 16 := by omega
      go_wp2_with fail
      go_ret
      exact ⟨A', c', rfl, HO.out, HL.out⟩

/-! ### Sum -/
theorem rk_le (key : Nat → Nat) (hk : ∀ i, key i < 256) : rk key = le (cl key) 0 16 := by
  have h : ∀ i, (fun i => if i < 16 then cl key i else 0) i < 256 := fun i => by
    have := cl_lt hk i
    dsimp only
    split <;> omega
  have e : le (fun i => if i < 16 then cl key i else 0) 0 17 = le (cl key) 0 16 := le_zx (cl key) 16 17 (by omega)
  unfold rk fac
  rw [sp_val _ (by
    rw [e]
    refine Nat.lt_of_lt_of_le (le_lt (cl_lt hk) 0 16) ?_
    decide +kernel), e]
/-- a piece's number, as the document has it -/
def pie (f : Nat → Nat) (n i : Nat) : Nat := if i < n then f i else 1
theorem pie_lt {f : Nat → Nat} (h : ∀ i, f i < 256) (n i : Nat) : pie f n i < 256 := by
  have := h i
  unfold pie
  split <;> omega
theorem pie_num (f : Nat → Nat) (n : Nat) (hn : n ≤ 16) : le (pie f n) 0 (n + 1) = pn f n n := by
  unfold pn
  rw [← le_zx (pie f n) (n + 1) 17 (by omega)]
  refine le_congr 17 fun i _ => ?_
  rw [Nat.zero_add]
  unfold zx pie pce
  by_cases h1 : i < n
  · rw [if_pos (by omega), if_pos h1, if_pos h1]
  · rw [if_neg h1, if_neg h1]
    by_cases h2 : i = n
    · rw [if_pos (by omega), if_pos h2]
    · rw [if_neg (by omega), if_neg h2]

/-- a mark, as the document answers it -/
def SumRefPost (w : World) (S : Nat → Nat) (e : Ending) (w' : World) : Prop :=
  ∃ A c, e = .returned (.slice A 16 c) ∧ Rd w' A 16 S ∧ 16 ≤ c ∧ Below w.heap.size w w'

set_option maxRecDepth 100000 in
set_option maxHeartbeats 1000000 in
theorem sum_ref (AK : Option Addr) (nk ck : Nat) (key : Nat → Nat) (hk : ∀ i, key i < 256) (hnk : 32 ≤ nk) (hnk2 : nk ≤ 1000000) (hck : nk ≤ ck) (hck2 : ck ≤ 9223372036854775807) (A : Option Addr) (n c : Nat) (f : Nat → Nat) (hf : ∀ i, f i < 256) (_hn : n ≤ 1000000) (hc : n ≤ c) (hc2 : c ≤ 9223372036854775807) (w : World) (hrk : Rd w AK nk key) (hr : Rd w A n f) :
    Calls Try.prog 18 #[.slice AK nk ck, .slice A n c] w (SumRefPost w (sumAt key f n)) := by
  obtain ⟨kb, ko, hAe, hkb, hkc⟩ : ∃ b off, AK = some ⟨b, off, none⟩ ∧ b < w.heap.size ∧ ∀ i, i < nk → w.cell? ⟨b, off + i, none⟩ = some (.int .u8 (key i : Nat)) := by
    rcases hrk with h | ⟨b, off, h1, h2, h3⟩
    · omega
    · exact ⟨b, off, h1, h2, h3⟩
  have HRK := Lib.hid hrk
  have HKH := Lib.hid (show ∀ x, Below w.heap.size w x → Rd x (some ⟨kb, ko + 16, none⟩) 16 (fun i => key (16 + i)) from fun x hx => .inr ⟨kb, ko + 16, rfl, Nat.lt_of_lt_of_le hkb hx.size, fun i hi => (hx.cell (p := ⟨kb, ko + 16 + i, none⟩) hkb).trans (by rw [Nat.add_assoc]; exact hkc (16 + i) (by omega))⟩)
  subst hAe
  have HR := Lib.hid hr
  have HF := Lib.hid hf
  have HK := Lib.hid hk
  have HRKV := Lib.hid (rk_le key hk)
  clear hr hf hk hkc hrk
  go_enter Try.func18, Try.ntmps18
  go_wp2_with fail
  refine (clamp_ref (some ⟨kb, ko, none⟩) nk ck key HK.out (by omega) hnk2 _ HRK.out).mono ?_
  rintro e w1 ⟨AC, cc, rfl, oc, hb1⟩
  have OC := Lib.hid oc
  have L1 := Lib.hid hb1
  have hs1 := hb1.size
  clear oc hb1
  go_wp2_with fail
  go_loopw [1, 6] (fun s t wr => ∃ (A' : Option Addr) (m c' : Nat) (g : Nat → Nat) (a : Nat) (A6 : Option Addr) (k6 c6 : Nat), s = .slice A' m c' ∧ m ≤ c' ∧ c' ≤ 9223372036854775807 ∧ m ≤ n ∧ (∀ i, g i < 256) ∧ Rd w A' m g ∧ t = .slice A6 k6 c6 ∧ Tells wr A6 k6 a ∧ k6 ≤ c6 ∧ k6 ≤ 17 ∧ a < P ∧ mac (rk key) false a g m = mac (rk key) false 0 f n ∧ Below w1.heap.size w1 wr) (fun s _ _ => lenOf s)
  case atStart => exact ⟨A, n, c, f, 0, none, 0, 0, rfl, hc, hc2, Nat.le_refl _, HF.out, HR.out, rfl, ⟨fun _ => 0, .inl rfl, fun _ => Nat.zero_lt_succ 255, rfl⟩, Nat.le_refl _, by omega, P_pos, rfl, Below.refl _ _⟩
  case round =>
    obtain ⟨A', m, c', g, a, A6, k6, c6, rfl, hmc, hc9, hmn, hg, hr, rfl, t6, hc6, hk6, ha, hmac, hb⟩ := hrel
    have HG := Lib.hid hg
    have HR1 := Lib.hid hr
    have T6 := Lib.hid t6
    have LB := Lib.hid hb
    have hs := hb.size
    have HAP := Lib.hid ha
    clear hg hr t6 hb ha
    by_cases hlt : 0 < m
    · obtain ⟨b, off, hAe, hbl, hcc⟩ : ∃ b off, A' = some ⟨b, off, none⟩ ∧ b < w.heap.size ∧ ∀ i, i < m → w.cell? ⟨b, off + i, none⟩ = some (.int .u8 (g i : Nat)) := by
        rcases HR1.out with h | ⟨b, off, h1, h2, h3⟩
        · omega
        · exact ⟨b, off, h1, h2, h3⟩
      subst hAe
      rw [mac_step _ _ _ _ _ hlt] at hmac
      simp only [Bool.false_eq_true, if_false] at hmac
      have HMAC := Lib.hid hmac
      have HCC := Lib.hid hcc
      have HRW := Lib.hid (show ∀ x, Below w1.heap.size w1 x → Rd x (some ⟨b, off, none⟩) m g from fun x hx => (HR1.out.below L1.out (Nat.le_refl _)).below hx (Nat.le_refl _))
      clear hmac hcc
      by_cases h16 : m < 16
      · have hd : decide ((m : Int) < 16) = true := decide_eq_true (by omega)
        have e16 := Lib.hid (show min m 16 = m by omega)
        rw [e16.out, show m - 16 = 0 by omega, mac_zero] at HMAC
        by_cases hcap : c' = m
        · subst hcap
          go_upto_region 9 with (at_builtin; refine wpList_catFrom (T := g) rfl (.tmp 20) (.tmp 23) 23 5 (.int .u8 0) 1 Try.underlying23 info_u8 rfl rfl rfl (Own.nil wr wr.heap.size 5 g) (Below.refl _ _) (Nat.le_refl _) c' c' (some ⟨b, off, none⟩) rfl (src_rd (rd_front (HRW.out _ LB.out) c' (by omega)) (fun e => by cases e)) (by omega) (by omega) (fun i hi => by simp) ?_)
          intro A8 c8 w8 o8 hb8 hs8 _ _
          have O8 := Lib.hid (show Own w8 wr.heap.size 5 A8 c' c8 g by first | exact o8 | simpa using o8)
          have L8 := Lib.hid hb8
          clear o8 hb8
          try rw [Nat.zero_add]
          go_wp2_with (at_builtin; refine wpList_catFrom (T := pie g c') rfl (.tmp 26) (.tmp 27) 23 5 (.int .u8 0) 1 Try.underlying23 info_u8 rfl rfl rfl (O8.out.alloc _) (L8.out.alloc hs8 _) (Nat.le_trans hs8 (by simp)) 1 1 (some ⟨w8.heap.size, 0, none⟩) rfl (src_own (own_new (B := 0) (f := fun _ => 1) (Nat.zero_le _) rfl (by omega))) (by omega) (by omega) (fun i hi => by unfold pie; by_cases e : i < c' <;> simp [e]) ?_; intro A9 c9 w9 o9 hb9 hs9 _ _; have O9 := Lib.hid o9; have L9 := Lib.hid hb9; clear o9 hb9 O8 L8)
          obtain ⟨f6, r6, hf6, hv6⟩ := T6.out
          refine (add_any A6 k6 c6 f6 A9 (c' + 1) c9 (pie g c') hf6 (pie_lt HG.out c') (by omega) (by omega) _ (r6.below L9.out (Nat.le_refl _)) O9.out.rd).mono ?_
          rintro e w10 ⟨A10, k10, c10, rfl, o10, hS10, hk10, hb10⟩
          have HS := Lib.hid (show le f6 0 k6 + le (pie g c') 0 (c' + 1) = a + pn g c' c' by rw [hv6, pie_num g c' (by omega)])
          rw [HS.out] at o10 hS10
          have O10 := Lib.hid o10
          have HL10 := Lib.hid (le_byt _ _ hS10)
          have L10 := Lib.hid (below_trans L9.out hb10)
          clear r6 hf6 hv6 o10 hS10 hb10 O9 L9 HS T6
          go_wp2_with fail
          refine (times_any A10 k10 c10 (byt (a + pn g c' c')) AC 16 cc (cl key) (byt_lt _) (cl_lt HK.out) (by omega) (by omega) _ O10.out.rd (((OC.out.below LB.out (Nat.le_refl _)).below L10.out (Nat.le_refl _)).rd)).mono ?_
          rintro e w11 ⟨A11, k11, c11, rfl, r11, _, hv11, _, hc11, hk11, hb11⟩
          have HS := Lib.hid (show le (byt (a + pn g c' c')) 0 k10 * le (cl key) 0 16 = (a + pn g c' c') * rk key by rw [HL10.out, HRKV.out])
          rw [HS.out] at r11 hv11
          have T11 := Lib.hid (show Tells w11 A11 k11 ((a + pn g c' c') * rk key) from ⟨_, r11, byt_lt _, hv11⟩)
          have L11 := Lib.hid (below_trans L10.out hb11)
          clear r11 hv11 hb11 O10 L10 HL10 HS
          go_wp2_with fail
          refine (mod_any A11 k11 c11 ((a + pn g c' c') * rk key) (by omega) hc11 (stp (rk key) a (pn g c' c')) rfl _ T11.out).mono ?_
          rintro e w12 ⟨A12, k12, c12, rfl, t12, hc12, hk12, hb12⟩
          have T12 := Lib.hid t12
          have L12 := Lib.hid (LB.out.trans ((below_trans L11.out hb12).mono hs))
          clear t12 hb12 T11 L11
          go_wp2_with fail
          go_roundw
          case rel => exact ⟨_, 0, _, g, _, A12, k12, c12, rfl, Nat.zero_le _, by omega, Nat.zero_le _, HG.out, .inl rfl, rfl, T12.out, hc12, hk12, stp_lt _ _ _, by rw [mac_zero]; exact HMAC.out, L12.out⟩
          case measure => first | (simp [lenOf]; done) | (simp [lenOf]; omega)
        · have hd2 := hd
          go_upto_region 9 with (at_builtin; refine wpList_catFrom (T := g) rfl (.tmp 20) (.tmp 23) 23 5 (.int .u8 0) 1 Try.underlying23 info_u8 rfl rfl rfl (Own.nil wr wr.heap.size 5 g) (Below.refl _ _) (Nat.le_refl _) m c' (some ⟨b, off, none⟩) rfl (src_rd (rd_front (HRW.out _ LB.out) m (by omega)) (fun e => by cases e)) (by omega) (by omega) (fun i hi => by simp) ?_)
          intro A8 c8 w8 o8 hb8 hs8 _ _
          have O8 := Lib.hid (show Own w8 wr.heap.size 5 A8 m c8 g by first | exact o8 | simpa using o8)
          have L8 := Lib.hid hb8
          clear o8 hb8
          try rw [Nat.zero_add]
          go_wp2_with (at_builtin; refine wpList_catFrom (T := pie g m) rfl (.tmp 26) (.tmp 27) 23 5 (.int .u8 0) 1 Try.underlying23 info_u8 rfl rfl rfl (O8.out.alloc _) (L8.out.alloc hs8 _) (Nat.le_trans hs8 (by simp)) 1 1 (some ⟨w8.heap.size, 0, none⟩) rfl (src_own (own_new (B := 0) (f := fun _ => 1) (Nat.zero_le _) rfl (by omega))) (by omega) (by omega) (fun i hi => by unfold pie; by_cases e : i < m <;> simp [e]) ?_; intro A9 c9 w9 o9 hb9 hs9 _ _; have O9 := Lib.hid o9; have L9 := Lib.hid hb9; clear o9 hb9 O8 L8)
          obtain ⟨f6, r6, hf6, hv6⟩ := T6.out
          refine (add_any A6 k6 c6 f6 A9 (m + 1) c9 (pie g m) hf6 (pie_lt HG.out m) (by omega) (by omega) _ (r6.below L9.out (Nat.le_refl _)) O9.out.rd).mono ?_
          rintro e w10 ⟨A10, k10, c10, rfl, o10, hS10, hk10, hb10⟩
          have HS := Lib.hid (show le f6 0 k6 + le (pie g m) 0 (m + 1) = a + pn g m m by rw [hv6, pie_num g m (by omega)])
          rw [HS.out] at o10 hS10
          have O10 := Lib.hid o10
          have HL10 := Lib.hid (le_byt _ _ hS10)
          have L10 := Lib.hid (below_trans L9.out hb10)
          clear r6 hf6 hv6 o10 hS10 hb10 O9 L9 HS T6
          go_wp2_with fail
          refine (times_any A10 k10 c10 (byt (a + pn g m m)) AC 16 cc (cl key) (byt_lt _) (cl_lt HK.out) (by omega) (by omega) _ O10.out.rd (((OC.out.below LB.out (Nat.le_refl _)).below L10.out (Nat.le_refl _)).rd)).mono ?_
          rintro e w11 ⟨A11, k11, c11, rfl, r11, _, hv11, _, hc11, hk11, hb11⟩
          have HS := Lib.hid (show le (byt (a + pn g m m)) 0 k10 * le (cl key) 0 16 = (a + pn g m m) * rk key by rw [HL10.out, HRKV.out])
          rw [HS.out] at r11 hv11
          have T11 := Lib.hid (show Tells w11 A11 k11 ((a + pn g m m) * rk key) from ⟨_, r11, byt_lt _, hv11⟩)
          have L11 := Lib.hid (below_trans L10.out hb11)
          clear r11 hv11 hb11 O10 L10 HL10 HS
          go_wp2_with fail
          refine (mod_any A11 k11 c11 ((a + pn g m m) * rk key) (by omega) hc11 (stp (rk key) a (pn g m m)) rfl _ T11.out).mono ?_
          rintro e w12 ⟨A12, k12, c12, rfl, t12, hc12, hk12, hb12⟩
          have T12 := Lib.hid t12
          have L12 := Lib.hid (LB.out.trans ((below_trans L11.out hb12).mono hs))
          clear t12 hb12 T11 L11
          go_wp2_with fail
          go_roundw
          case rel => exact ⟨_, 0, _, g, _, A12, k12, c12, rfl, Nat.zero_le _, by omega, Nat.zero_le _, HG.out, .inl rfl, rfl, T12.out, hc12, hk12, stp_lt _ _ _, by rw [mac_zero]; exact HMAC.out, L12.out⟩
          case measure => first | (simp [lenOf]; done) | (simp [lenOf]; omega)
      · have hd : decide ((m : Int) < 16) = false := decide_eq_false (by omega)
        have e16 := Lib.hid (show min m 16 = 16 by omega)
        rw [e16.out] at HMAC
        by_cases hcap : c' = 16
        · obtain rfl : m = 16 := by omega
          subst hcap
          rw [Nat.sub_self, mac_zero] at HMAC
          go_upto_region 9 with (at_builtin; refine wpList_catFrom (T := g) rfl (.tmp 20) (.tmp 23) 23 5 (.int .u8 0) 1 Try.underlying23 info_u8 rfl rfl rfl (Own.nil wr wr.heap.size 5 g) (Below.refl _ _) (Nat.le_refl _) 16 16 (some ⟨b, off, none⟩) rfl (src_rd (rd_front (HRW.out _ LB.out) 16 (by omega)) (fun e => by cases e)) (by omega) (by omega) (fun i hi => by simp) ?_)
          intro A8 c8 w8 o8 hb8 hs8 _ _
          have O8 := Lib.hid (show Own w8 wr.heap.size 5 A8 16 c8 g by first | exact o8 | simpa using o8)
          have L8 := Lib.hid hb8
          clear o8 hb8
          try rw [Nat.zero_add]
          go_wp2_with (at_builtin; refine wpList_catFrom (T := pie g 16) rfl (.tmp 26) (.tmp 27) 23 5 (.int .u8 0) 1 Try.underlying23 info_u8 rfl rfl rfl (O8.out.alloc _) (L8.out.alloc hs8 _) (Nat.le_trans hs8 (by simp)) 1 1 (some ⟨w8.heap.size, 0, none⟩) rfl (src_own (own_new (B := 0) (f := fun _ => 1) (Nat.zero_le _) rfl (by omega))) (by omega) (by omega) (fun i hi => by unfold pie; by_cases e : i < 16 <;> simp [e]) ?_; intro A9 c9 w9 o9 hb9 hs9 _ _; have O9 := Lib.hid o9; have L9 := Lib.hid hb9; clear o9 hb9 O8 L8)
          obtain ⟨f6, r6, hf6, hv6⟩ := T6.out
          refine (add_any A6 k6 c6 f6 A9 (16 + 1) c9 (pie g 16) hf6 (pie_lt HG.out 16) (by omega) (by omega) _ (r6.below L9.out (Nat.le_refl _)) O9.out.rd).mono ?_
          rintro e w10 ⟨A10, k10, c10, rfl, o10, hS10, hk10, hb10⟩
          have HS := Lib.hid (show le f6 0 k6 + le (pie g 16) 0 (16 + 1) = a + pn g 16 16 by rw [hv6, pie_num g 16 (by omega)])
          rw [HS.out] at o10 hS10
          have O10 := Lib.hid o10
          have HL10 := Lib.hid (le_byt _ _ hS10)
          have L10 := Lib.hid (below_trans L9.out hb10)
          clear r6 hf6 hv6 o10 hS10 hb10 O9 L9 HS T6
          go_wp2_with fail
          refine (times_any A10 k10 c10 (byt (a + pn g 16 16)) AC 16 cc (cl key) (byt_lt _) (cl_lt HK.out) (by omega) (by omega) _ O10.out.rd (((OC.out.below LB.out (Nat.le_refl _)).below L10.out (Nat.le_refl _)).rd)).mono ?_
          rintro e w11 ⟨A11, k11, c11, rfl, r11, _, hv11, _, hc11, hk11, hb11⟩
          have HS := Lib.hid (show le (byt (a + pn g 16 16)) 0 k10 * le (cl key) 0 16 = (a + pn g 16 16) * rk key by rw [HL10.out, HRKV.out])
          rw [HS.out] at r11 hv11
          have T11 := Lib.hid (show Tells w11 A11 k11 ((a + pn g 16 16) * rk key) from ⟨_, r11, byt_lt _, hv11⟩)
          have L11 := Lib.hid (below_trans L10.out hb11)
          clear r11 hv11 hb11 O10 L10 HL10 HS
          go_wp2_with fail
          refine (mod_any A11 k11 c11 ((a + pn g 16 16) * rk key) (by omega) hc11 (stp (rk key) a (pn g 16 16)) rfl _ T11.out).mono ?_
          rintro e w12 ⟨A12, k12, c12, rfl, t12, hc12, hk12, hb12⟩
          have T12 := Lib.hid t12
          have L12 := Lib.hid (LB.out.trans ((below_trans L11.out hb12).mono hs))
          clear t12 hb12 T11 L11
          go_wp2_with fail
          go_roundw
          case rel => exact ⟨_, 0, _, g, _, A12, k12, c12, rfl, Nat.zero_le _, by omega, Nat.zero_le _, HG.out, .inl rfl, rfl, T12.out, hc12, hk12, stp_lt _ _ _, by rw [mac_zero]; exact HMAC.out, L12.out⟩
          case measure => first | (simp [lenOf]; done) | (simp [lenOf]; omega)
        · have hd2 := hd
          go_upto_region 9 with (at_builtin; refine wpList_catFrom (T := g) rfl (.tmp 20) (.tmp 23) 23 5 (.int .u8 0) 1 Try.underlying23 info_u8 rfl rfl rfl (Own.nil wr wr.heap.size 5 g) (Below.refl _ _) (Nat.le_refl _) 16 c' (some ⟨b, off, none⟩) rfl (src_rd (rd_front (HRW.out _ LB.out) 16 (by omega)) (fun e => by cases e)) (by omega) (by omega) (fun i hi => by simp) ?_)
          intro A8 c8 w8 o8 hb8 hs8 _ _
          have O8 := Lib.hid (show Own w8 wr.heap.size 5 A8 16 c8 g by first | exact o8 | simpa using o8)
          have L8 := Lib.hid hb8
          clear o8 hb8
          try rw [Nat.zero_add]
          go_wp2_with (at_builtin; refine wpList_catFrom (T := pie g 16) rfl (.tmp 26) (.tmp 27) 23 5 (.int .u8 0) 1 Try.underlying23 info_u8 rfl rfl rfl (O8.out.alloc _) (L8.out.alloc hs8 _) (Nat.le_trans hs8 (by simp)) 1 1 (some ⟨w8.heap.size, 0, none⟩) rfl (src_own (own_new (B := 0) (f := fun _ => 1) (Nat.zero_le _) rfl (by omega))) (by omega) (by omega) (fun i hi => by unfold pie; by_cases e : i < 16 <;> simp [e]) ?_; intro A9 c9 w9 o9 hb9 hs9 _ _; have O9 := Lib.hid o9; have L9 := Lib.hid hb9; clear o9 hb9 O8 L8)
          obtain ⟨f6, r6, hf6, hv6⟩ := T6.out
          refine (add_any A6 k6 c6 f6 A9 (16 + 1) c9 (pie g 16) hf6 (pie_lt HG.out 16) (by omega) (by omega) _ (r6.below L9.out (Nat.le_refl _)) O9.out.rd).mono ?_
          rintro e w10 ⟨A10, k10, c10, rfl, o10, hS10, hk10, hb10⟩
          have HS := Lib.hid (show le f6 0 k6 + le (pie g 16) 0 (16 + 1) = a + pn g 16 16 by rw [hv6, pie_num g 16 (by omega)])
          rw [HS.out] at o10 hS10
          have O10 := Lib.hid o10
          have HL10 := Lib.hid (le_byt _ _ hS10)
          have L10 := Lib.hid (below_trans L9.out hb10)
          clear r6 hf6 hv6 o10 hS10 hb10 O9 L9 HS T6
          go_wp2_with fail
          refine (times_any A10 k10 c10 (byt (a + pn g 16 16)) AC 16 cc (cl key) (byt_lt _) (cl_lt HK.out) (by omega) (by omega) _ O10.out.rd (((OC.out.below LB.out (Nat.le_refl _)).below L10.out (Nat.le_refl _)).rd)).mono ?_
          rintro e w11 ⟨A11, k11, c11, rfl, r11, _, hv11, _, hc11, hk11, hb11⟩
          have HS := Lib.hid (show le (byt (a + pn g 16 16)) 0 k10 * le (cl key) 0 16 = (a + pn g 16 16) * rk key by rw [HL10.out, HRKV.out])
          rw [HS.out] at r11 hv11
          have T11 := Lib.hid (show Tells w11 A11 k11 ((a + pn g 16 16) * rk key) from ⟨_, r11, byt_lt _, hv11⟩)
          have L11 := Lib.hid (below_trans L10.out hb11)
          clear r11 hv11 hb11 O10 L10 HL10 HS
          go_wp2_with fail
          refine (mod_any A11 k11 c11 ((a + pn g 16 16) * rk key) (by omega) hc11 (stp (rk key) a (pn g 16 16)) rfl _ T11.out).mono ?_
          rintro e w12 ⟨A12, k12, c12, rfl, t12, hc12, hk12, hb12⟩
          have T12 := Lib.hid t12
          have L12 := Lib.hid (LB.out.trans ((below_trans L11.out hb12).mono hs))
          clear t12 hb12 T11 L11
          go_wp2_with fail
          go_roundw
          case rel => exact ⟨_, m - 16, _, fun i => g (16 + i), _, A12, k12, c12, rfl, by omega, by omega, by omega, fun i => HG.out _, .inr ⟨b, off + 16, rfl, hbl, fun i hi => by rw [Nat.add_assoc]; exact HCC.out (16 + i) (by omega)⟩, rfl, T12.out, hc12, hk12, stp_lt _ _ _, HMAC.out, L12.out⟩
          case measure => first | (simp [lenOf]; done) | (simp [lenOf]; omega)
    · obtain rfl : m = 0 := by omega
      rw [mac_zero] at hmac
      obtain ⟨f6, r6, hf6, hv6⟩ := T6.out
      have LW := L1.out.trans (LB.out.mono hs1)
      go_wp2_with fail
      refine (add_any A6 k6 c6 f6 (some ⟨kb, ko + 16, none⟩) 16 (ck - 16) (fun i => key (16 + i)) hf6 (fun i => HK.out _) (by omega) (by omega) _ r6 (HKH.out _ LW)).mono ?_
      rintro e w9 ⟨A9, k9, c9, rfl, o9, hS9, hk9, hb9⟩
      have HS := Lib.hid (show le f6 0 k6 + le (fun i => key (16 + i)) 0 16 = a + le key 16 16 by
        rw [hv6, show le (fun i => key (16 + i)) 0 16 = le key 16 16 from le_congr 16 fun i _ => by show key (16 + (0 + i)) = key (16 + i); rw [Nat.zero_add]])
      rw [HS.out] at o9 hS9
      have HTG := Lib.hid (show ∀ i, byt (a + le key 16 16) i = sumAt key f n i from fun i => by
        unfold sumAt
        rw [← hmac]
        rfl)
      obtain ⟨S, hSe⟩ : ∃ S, a + le key 16 16 = S := ⟨_, rfl⟩
      rw [hSe] at o9 hS9 HTG
      have HZ := Lib.hid (show ∀ i, k9 ≤ i → byt S i = 0 from fun i hi => by
        unfold byt
        rw [Nat.div_eq_of_lt (Nat.lt_of_lt_of_le hS9 (Nat.pow_le_pow_right (by omega) (by omega)))])
      have O9 := Lib.hid o9
      have L9 := Lib.hid (LW.trans (hb9.mono (by omega)))
      have hs9 := hb9.size
      have hs99 := LW.size
      clear r6 hf6 hv6 hmac o9 hS9 hb9 HS hSe T6 HR1 HG
      go_wp2_with fail
      go_loopw [9] (fun s x => ∃ (A2 : Option Addr) (k2 c2 : Nat), s = .slice A2 k2 c2 ∧ k9 ≤ k2 ∧ k2 ≤ max 16 k9 ∧ Own x w.heap.size 5 A2 k2 c2 (byt S) ∧ Below w.heap.size w x) (fun s _ => 16 - lenOf s)
      case atStart => exact ⟨A9, k9, c9, rfl, Nat.le_refl _, by omega, O9.out.more (by omega), L9.out⟩
      case round =>
        obtain ⟨A2, k2, c2, rfl, hk2, hk3, o2, l2⟩ := hrel
        have O2 := Lib.hid o2
        have L2 := Lib.hid l2
        have hsz := l2.size
        clear o2 l2
        by_cases h16 : k2 < 16
        · have HB0 := Lib.hid (show (0 : Int) = (byt S k2 : Nat) by rw [HZ.out k2 hk2]; rfl)
          go_wp2_with (at_builtin; refine wpList_push rfl _ _ rfl rfl rfl O2.out L2.out hsz HB0.out (by omega) ?_; intro A3 c3 w3 hown1 hbel1 hsz1; have HO1 := Lib.hid hown1; have HL1 := Lib.hid hbel1; clear hown1 hbel1)
          go_roundw
          case rel => exact ⟨A3, k2 + 1, c3, rfl, by omega, by omega, HO1.out, HL1.out⟩
          case measure => first | (simp [lenOf]; done) | (simp [lenOf]; omega)
        · have hcap := own_cap O2.out
          have HRD := Lib.hid (rd_front O2.out.rd 16 (by omega))
          go_wp2_with fail
          go_ret
          refine ⟨A2, c2, rfl, ?_, by omega, L2.out⟩
          rcases HRD.out with h | ⟨b, off, h1, h2, h3⟩
          · omega
          · exact .inr ⟨b, off, h1, h2, fun i hi => by rw [h3 i hi, HTG.out i]⟩

end Ref
end Go.Proofs.Ytdffbjlbhjppeaa
