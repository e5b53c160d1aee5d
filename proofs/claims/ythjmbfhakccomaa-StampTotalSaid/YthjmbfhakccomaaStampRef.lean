/- The document's own answers of layer 9 (package aditref09): Right, Write, Read, Span. -/
import Derived.Test.YthjmbfhakccomaaStampTwo
import Derived.Test.YthjmbfhakccomaaRefOne
import Derived.Test.YthjmbfhakccomaaApart
namespace Go.Proofs.Ythjmbfhakccomaa
namespace Stamp
open Go.ChangeShapes Go.WideShapes Go.ChangeAt Go.RowKit
open Num Mem Words Chacha Aead Ref

set_option maxRecDepth 100000 in
theorem rright_any (t : Int) (b : Bool) (hb : b = true ↔ right t) (w : World) : Calls Try.prog 17 #[.int .i64 t] w fun e w' => e = .returned (.bool b) ∧ w = w' := by
  by_cases h1 : 0 ≤ t
  · have d1 : decide (0 ≤ t) = true := decide_eq_true h1
    by_cases h2 : t ≤ 1099511627776
    · have d2 : decide (t ≤ 1099511627776) = true := decide_eq_true h2
      obtain rfl : b = true := hb.2 ⟨h1, h2⟩
      clear hb
      go_enter Try.func17, Try.ntmps17
      go_wp2_with fail
      go_ret
      exact ⟨rfl, rfl⟩
    · have d2 : decide (t ≤ 1099511627776) = false := decide_eq_false h2
      obtain rfl : b = false := by
        rcases b with _ | _
        · rfl
        · exact absurd (hb.1 rfl).2 h2
      clear hb
      go_enter Try.func17, Try.ntmps17
      go_wp2_with fail
      go_ret
      exact ⟨rfl, rfl⟩
  · have d1 : decide (0 ≤ t) = false := decide_eq_false h1
    obtain rfl : b = false := by
      rcases b with _ | _
      · rfl
      · exact absurd (hb.1 rfl).1 h1
    clear hb
    go_enter Try.func17, Try.ntmps17
    go_wp2_with fail
    go_ret
    exact ⟨rfl, rfl⟩

set_option maxRecDepth 100000 in
theorem rspan_any (s t : Int) (w : World) : Calls Try.prog 19 #[.int .i64 s, .int .i64 t] w fun e w' => e = .returned (.tuple #[.int .i64 (spanV s t), .int .i64 (spanE s t)]) ∧ w = w' := by
  have HV := Lib.hid (show spanV s t = if right s ∧ right t ∧ s ≤ t then t - s else 0 from rfl)
  have HE := Lib.hid (show spanE s t = if right s ∧ right t ∧ s ≤ t then 0 else 1 from rfl)
  go_enter Try.func19, Try.ntmps19
  by_cases h1 : right s
  · by_cases h2 : right t
    · have b1 := h1.1
      have b2 := h1.2
      have b3 := h2.1
      have b4 := h2.2
      by_cases h3 : s ≤ t
      · have d : decide (t < s) = false := decide_eq_false (by omega)
        go_wp2_with fail
        refine (rright_any s true ⟨fun _ => h1, fun _ => rfl⟩ _).mono ?_
        rintro e w1 ⟨rfl, rfl⟩
        go_wp2_with fail
        refine (rright_any t true ⟨fun _ => h2, fun _ => rfl⟩ _).mono ?_
        rintro e w1 ⟨rfl, rfl⟩
        go_wp2_with fail
        go_ret2
        exact ⟨by rw [HV.out, HE.out, if_pos ⟨h1, h2, h3⟩, if_pos ⟨h1, h2, h3⟩]; rfl, rfl⟩
      · have d : decide (t < s) = true := decide_eq_true (by omega)
        go_wp2_with fail
        refine (rright_any s true ⟨fun _ => h1, fun _ => rfl⟩ _).mono ?_
        rintro e w1 ⟨rfl, rfl⟩
        go_wp2_with fail
        refine (rright_any t true ⟨fun _ => h2, fun _ => rfl⟩ _).mono ?_
        rintro e w1 ⟨rfl, rfl⟩
        go_wp2_with fail
        go_ret2
        exact ⟨by rw [HV.out, HE.out, if_neg (fun h => absurd h.2.2 (by omega)), if_neg (fun h => absurd h.2.2 (by omega))]; rfl, rfl⟩
    · go_wp2_with fail
      refine (rright_any s true ⟨fun _ => h1, fun _ => rfl⟩ _).mono ?_
      rintro e w1 ⟨rfl, rfl⟩
      go_wp2_with fail
      refine (rright_any t false ⟨fun e => (by cases e), fun k => absurd k h2⟩ _).mono ?_
      rintro e w1 ⟨rfl, rfl⟩
      go_wp2_with fail
      go_ret2
      exact ⟨by rw [HV.out, HE.out, if_neg (fun h => h2 h.2.1), if_neg (fun h => h2 h.2.1)]; rfl, rfl⟩
  · go_wp2_with fail
    refine (rright_any s false ⟨fun e => (by cases e), fun k => absurd k h1⟩ _).mono ?_
    rintro e w1 ⟨rfl, rfl⟩
    go_wp2_with fail
    go_ret2
    exact ⟨by rw [HV.out, HE.out, if_neg (fun h => h1 h.1), if_neg (fun h => h1 h.1)]; rfl, rfl⟩

set_option maxRecDepth 100000 in
theorem rwrite_no (t : Int) (h : ¬ right t) (w : World) : Calls Try.prog 12 #[.int .i64 t] w fun e w' => ∃ A c, e = .returned (.tuple #[.slice A 12 c, .int .i64 1]) ∧ Rd w' A 12 (fun _ => 0) ∧ Below w.heap.size w w' := by
  have hmk := made_bytes 12 (by omega) w
  rw [show ((12 : Nat) : Int) = 12 from rfl] at hmk
  go_enter Try.func12, Try.ntmps12
  go_wp2_with fail
  refine (rright_any t false ⟨fun e => (by cases e), fun k => absurd k h⟩ _).mono ?_
  rintro e w1 ⟨rfl, rfl⟩
  go_wp2_with fail
  go_ret2
  exact ⟨_, _, rfl, Rd.of_whole (Whole.new _ _ _), below_alloc (Below.refl _ _) _⟩

set_option maxRecDepth 100000 in
theorem rwrite_ok (t : Nat) (h : t ≤ 1099511627776) (w : World) : Calls Try.prog 12 #[.int .i64 t] w fun e w' => ∃ A c, e = .returned (.tuple #[.slice A 12 c, .int .i64 0]) ∧ Rd w' A 12 (label t) ∧ Below w.heap.size w w' := by
  have HS := Lib.hid (show 4611686018427387914 + (t : Int) / 1000 = ((secs t : Nat) : Int) from by unfold secs; omega)
  have HL := Lib.hid (show (t : Int) % 1000 * 1000000 = ((left t : Nat) : Int) from by unfold left; omega)
  have ls : secs t < 18446744073709551616 := by unfold secs; omega
  have ll : left t < 18446744073709551616 := by unfold left; omega
  have HI := Lib.hid (show ∀ i, i < 8 + 4 → label t i = if i < 8 then byteAt (secs t) (8 - 1 - i) else byteAt (left t) (4 - 1 - (i - 8)) from fun i _ => by
    unfold label
    by_cases h : i < 8
    · rw [if_pos h, if_pos h]
    · rw [if_neg h, if_neg h]
      congr 1
      omega)
  obtain ⟨T, hT⟩ : ∃ T, label t = T := ⟨_, rfl⟩
  rw [hT] at HI
  go_enter Try.func12, Try.ntmps12
  go_wp2_with fail
  refine (rright_any t true ⟨fun _ => ⟨by omega, by omega⟩, fun _ => rfl⟩ _).mono ?_
  rintro e w1 ⟨rfl, rfl⟩
  go_wp2_with fail
  rw [HS.out]
  refine (bytes_any (secs t) 8 (by omega) ls _).mono ?_
  rintro e w1 ⟨A1, c1, rfl, o1, hb1⟩
  have O1 := Lib.hid o1
  have L1 := Lib.hid hb1
  clear o1 hb1
  go_wp2_with fail
  refine (turned_any A1 8 c1 (byteAt (secs t)) (by omega) _ O1.out.rd).mono ?_
  rintro e w2 ⟨A2, c2, rfl, o2, hb2⟩
  have O2 := Lib.hid (o2.more L1.out.size)
  have L2 := Lib.hid (below_trans L1.out hb2)
  clear o2 hb2 O1 L1
  go_wp2_with fail
  rw [HL.out]
  refine (bytes_any (left t) 4 (by omega) ll _).mono ?_
  rintro e w3 ⟨A3, c3, rfl, o3, hb3⟩
  have O3 := Lib.hid o3
  have P2 := Lib.hid (O2.out.below hb3 (Nat.le_refl _))
  have L3 := Lib.hid (below_trans L2.out hb3)
  clear o3 hb3 O2 L2
  go_wp2_with fail
  refine (turned_any A3 4 c3 (byteAt (left t)) (by omega) _ O3.out.rd).mono ?_
  rintro e w4 ⟨A4, c4, rfl, o4, hb4⟩
  have O4 := Lib.hid o4
  have Q2 := Lib.hid (P2.out.below hb4 (Nat.le_refl _))
  have L4 := Lib.hid (below_trans L3.out hb4)
  clear o4 hb4 P2 L3 O3
  go_wp2_with (at_builtin; refine wpList_catFrom (T := T) rfl (.tmp 15) (.tmp 21) 26 5 (.int .u8 0) 1 Try.underlying26 info_u8 rfl rfl rfl Q2.out L4.out L4.out.size 4 c4 A4 rfl (src_own O4.out) (by omega) (by omega) HI.out ?_; intro A8 c8 w8 o8 hb8 hs8 _ _; have O8 := Lib.hid o8; have L8 := Lib.hid hb8; clear o8 hb8)
  go_ret2
  rw [hT]
  exact ⟨A8, c8, rfl, O8.out.rd, L8.out⟩

theorem rwrite_any (t : Int) (w : World) : Calls Try.prog 12 #[.int .i64 t] w fun e w' => ∃ A c, e = .returned (.tuple #[.slice A 12 c, .int .i64 (wE t : Nat)]) ∧ Rd w' A 12 (wF t) ∧ Below w.heap.size w w' := by
  by_cases h : right t
  · obtain ⟨n, rfl⟩ : ∃ n : Nat, t = (n : Int) := ⟨t.toNat, by have := h.1; omega⟩
    have e1 : wF (n : Int) = label n := by
      funext i
      unfold wF
      rw [if_pos h]
      rfl
    have e2 : wE (n : Int) = 0 := by unfold wE; rw [if_pos h]
    rw [e1, e2]
    exact rwrite_ok n (by have := h.2; omega) w
  · have e1 : wF t = fun _ => 0 := by
      funext i
      unfold wF
      rw [if_neg h]
    have e2 : wE t = 1 := by unfold wE; rw [if_neg h]
    rw [e1, e2]
    exact rwrite_no t h w

set_option maxRecDepth 100000 in
set_option maxHeartbeats 1000000 in
theorem rread_any (b off c : Nat) (hc : 12 ≤ c) (f : Nat → Nat) (hf : ∀ i, f i < 256) (w : World) (hb : b < w.heap.size) (hr : ∀ i, i < 12 → w.cell? ⟨b, off + i, none⟩ = some (.int .u8 (f i : Nat))) : Calls Try.prog 14 #[.slice (some ⟨b, off, none⟩) 12 c] w fun e w' => e = .returned (.tuple #[.int .i64 (readV f : Nat), .int .i64 (readE f : Nat)]) ∧ Below w.heap.size w w' := by
  have R8 := Lib.hid (show Rd w (some ⟨b, off, none⟩) 8 f from .inr ⟨b, off, rfl, hb, fun i hi => hr i (by omega)⟩)
  have R4 := Lib.hid (show Rd w (some ⟨b, off + 8, none⟩) 4 (fun i => f (8 + i)) from .inr ⟨b, off + 8, rfl, hb, fun i hi => by rw [Nat.add_assoc]; exact hr (8 + i) (by omega)⟩)
  have R12 := Lib.hid (show Rd w (some ⟨b, off, none⟩) 12 f from .inr ⟨b, off, rfl, hb, hr⟩)
  have hS := be_lt hf 0 8
  have hL := be_lt hf 8 4
  have HF := Lib.hid hf
  have HF8 := Lib.hid (show ∀ i, f (8 - 1 - i) < 256 from fun i => hf _)
  have HF4 := Lib.hid (show ∀ i, f (8 + (4 - 1 - i)) < 256 from fun i => hf _)
  have HV := Lib.hid (show readV f = if IsLabel f then timeOf f else 0 from rfl)
  have HE := Lib.hid (show readE f = if IsLabel f then 0 else 3 from rfl)
  have HT := Lib.hid (show timeOf f = (be f 0 8 - 4611686018427387914) * 1000 + be f 8 4 / 1000000 from rfl)
  have E8 := Lib.hid (show le (fun i => f (8 - 1 - i)) 0 8 = be f 0 8 from by rw [be_le]; exact le_congr 8 fun i _ => by simp only [Nat.zero_add])
  have E4 := Lib.hid (show le (fun i => f (8 + (4 - 1 - i))) 0 4 = be f 8 4 from by rw [be_le])
  have HIS := Lib.hid (show IsLabel f → be f 0 8 - 4611686018427387914 ≤ 1099511627 ∧ 4611686018427387914 ≤ be f 0 8 ∧ timeOf f ≤ 1099511627776 from fun h => ⟨h.2.1, h.1, h.2.2.2.2⟩)
  have NO := Lib.hid (show ¬ IsLabel f → readV f = 0 ∧ readE f = 3 from fun h => by unfold readV readE; rw [if_neg h, if_neg h]; exact ⟨rfl, rfl⟩)
  clear hr hf
  go_enter Try.func14, Try.ntmps14
  go_wp2_with fail
  refine (turned_any _ 8 c f (by omega) _ R8.out).mono ?_
  rintro e w1 ⟨A1, c1, rfl, o1, hb1⟩
  have O1 := Lib.hid o1
  have L1 := Lib.hid hb1
  clear o1 hb1
  go_wp2_with fail
  refine (least_any A1 8 c1 _ HF8.out (by omega) _ O1.out.rd).mono ?_
  rintro e w2 ⟨rfl, rfl⟩
  rw [E8.out]
  go_wp2_with fail
  refine (turned_any _ 4 (c - 8) (fun i => f (8 + i)) (by omega) _ (R4.out.below L1.out (Nat.le_refl _))).mono ?_
  rintro e w2 ⟨A2, c2, rfl, o2, hb2⟩
  have O2 := Lib.hid o2
  have L2 := Lib.hid (below_trans L1.out hb2)
  clear o2 hb2 O1 L1
  go_wp2_with fail
  refine (least_any A2 4 c2 _ HF4.out (by omega) _ O2.out.rd).mono ?_
  rintro e w3 ⟨rfl, rfl⟩
  rw [E4.out]
  clear E8 E4 O2 R8 R4
  generalize be f 0 8 = S at hS HT HIS ⊢
  generalize be f 8 4 = L at hL HT ⊢
  have hS2 : S < 18446744073709551616 := by simpa using hS
  have hL2 : L < 4294967296 := by simpa using hL
  clear hS hL
  by_cases h1 : S < 4611686018427387914
  · have d1 : decide ((S : Int) < 4611686018427387914) = true := decide_eq_true (by omega)
    have hn := Lib.hid (NO.out (fun h => by have := (HIS.out h).2.1; omega))
    go_wp2_with fail
    go_ret2
    exact ⟨by rw [hn.out.1, hn.out.2]; rfl, L2.out⟩
  have d1 : decide ((S : Int) < 4611686018427387914) = false := decide_eq_false (by omega)
  by_cases h2 : 4611686019527387914 < S
  · have d2 : decide ((4611686019527387914 : Int) < (S : Int)) = true := decide_eq_true (by omega)
    have hn := Lib.hid (NO.out (fun h => by have := (HIS.out h).1; omega))
    go_wp2_with fail
    go_ret2
    exact ⟨by rw [hn.out.1, hn.out.2]; rfl, L2.out⟩
  have d2 : decide ((4611686019527387914 : Int) < (S : Int)) = false := decide_eq_false (by omega)
  have HX := Lib.hid (show 1000 * ((S : Int) - 4611686018427387914) + (L : Int) / 1000000 = ((timeOf f : Nat) : Int) from by rw [HT.out]; omega)
  have b1 : (S : Int) - 4611686018427387914 ≤ 1100000000 := by omega
  have b0 : 0 ≤ (S : Int) - 4611686018427387914 := by omega
  have b2 : (L : Int) / 1000000 < 4295 := by omega
  clear HT
  go_wp2_with fail
  rw [HX.out]
  obtain ⟨t, ht⟩ : ∃ t, timeOf f = t := ⟨_, rfl⟩
  rw [ht] at HX HIS ⊢
  by_cases h3 : t ≤ 1099511627776
  case neg =>
    have hn := Lib.hid (NO.out (fun h => by have := (HIS.out h).2.2; omega))
    refine (rwrite_no _ (fun k => absurd k.2 (by omega)) _).mono ?_
    rintro e w4 ⟨A3, c3, rfl, _, hb3⟩
    have L4 := Lib.hid (below_trans L2.out hb3)
    clear hb3
    go_wp2_with fail
    go_ret2
    exact ⟨by rw [hn.out.1, hn.out.2]; rfl, L4.out⟩
  refine (rwrite_ok t h3 _).mono ?_
  rintro e w4 ⟨A3, c3, rfl, r3, hb3⟩
  have L4 := Lib.hid (below_trans L2.out hb3)
  have hcv1 := run_string_of (P := Try.prog) (c := c3) 26 9 5 Try.underlying26 Try.underlying5 Try.underlying9 r3
  have hcv2 := run_string_of (P := Try.prog) (c := c) 26 9 5 Try.underlying26 Try.underlying5 Try.underlying9 (R12.out.below L4.out (Nat.le_refl _))
  clear hb3 r3
  have HEQ := Lib.hid (strOf_eq_iff (f := label t) (g := f) (n := 12) (m := 12) (label_lt t) HF.out)
  by_cases hfit : IsLabel f
  · have hz : ((strOf (label t) 12).toList == (strOf f 12).toList) = true := by
      rw [strings_beq, decide_eq_true_eq, HEQ.out]
      exact ⟨rfl, fun i hi => by rw [← ht]; exact is_label f HF.out hfit i hi⟩
    have hy := Lib.hid (show readV f = t ∧ readE f = 0 from by
      rw [HV.out, HE.out, if_pos hfit, if_pos hfit]
      exact ⟨ht, rfl⟩)
    clear hfit ht
    go_wp2_with fail
    go_ret2
    exact ⟨by rw [hy.out.1, hy.out.2]; rfl, L4.out⟩
  · have hz : ((strOf (label t) 12).toList == (strOf f 12).toList) = false := by
      rw [strings_beq, decide_eq_false_iff_not, HEQ.out]
      exact fun h => hfit (label_of f t h3 h.2).1
    have hn := Lib.hid (NO.out hfit)
    clear hfit ht
    go_wp2_with fail
    go_ret2
    exact ⟨by rw [hn.out.1, hn.out.2]; rfl, L4.out⟩

end Stamp
end Go.Proofs.Ythjmbfhakccomaa
