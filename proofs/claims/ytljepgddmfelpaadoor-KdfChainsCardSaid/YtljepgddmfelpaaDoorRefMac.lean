/- The document's own answers of layer 8 (package aditref08): Mac. -/
import Derived.Test.YtljepgddmfelpaaDoorRefJoin
namespace Go.Proofs.YtljepgddmfelpaaDoor
namespace RefK
open Go.ChangeShapes Go.WideShapes Go.ChangeAt Go.RowKit
open Num Mem Words State Blake Ref Chacha Quiet RefB Kdf

def padX (P : Nat → Nat) (t i : Nat) : Nat := P i ^^^ t
theorem xor8 (v t : Nat) (hv : v < 256) (ht : t < 256) : bits .xor .u8 ((v : Nat) : Int) ((t : Nat) : Int) = ((v ^^^ t : Nat) : Int) := u8_xor_nat v t hv ht

/-- 'append(out, x)' of one byte, and where the new row lies -/
theorem wpList_pushAt {ops : Array Oper} {rest : List Oper} {o : Oper} {a : Act} {Q : Exit → Act → World → Prop} {W w : World} {B k c : Nat} {A : Option Addr} {f : Nat → Nat} {b : Int} (hgd : o.guard = none) (s x : Operand)
    (ho : o.op = .call { callee := .builtin .append, args := #[s, x], argTypes := #[22, 22] })
    (hs : a.eval s = .slice A k c) (hx : a.eval x = .slice (some ⟨w.heap.size, 0, none⟩) 1 1)
    (own : Own w B 5 A k c f) (bel : Below B W w) (hB : B ≤ w.heap.size) (hb : b = (f k : Nat)) (hk : k < 1000000)
    (h : ∀ A' c' w', Own w' B 5 A' (k + 1) c' f → Below B W w' → B ≤ w'.heap.size → (w.alloc (.cells #[.int .u8 b] 5)).grownBy w' (Value.slice A k c).ownBlock →
      ((Value.slice A' (k + 1) c').ownBlock = (Value.slice A k c).ownBlock ∨ (Value.slice A' (k + 1) c').ownBlock = some (w.alloc (.cells #[.int .u8 b] 5)).heap.size) → wpList Tryd.prog ops Q rest (a.put o.dst (.slice A' (k + 1) c')) w') :
    wpList Tryd.prog ops Q (o :: rest) a (w.alloc (.cells #[.int .u8 b] 5)) :=
  wpList_catAt (f := f) (g := fun _ => f k) (T := f) hgd s x 22 5 (.int .u8 0) 1 Tryd.underlying22 info_u8 rfl ho hs (own.alloc _) (bel.alloc hB _) (by simp; omega) 1 1 w.heap.size 0 hx (fun i hi => by
      obtain rfl : i = 0 := by omega
      rw [← hb]
      exact (Whole.new w 5 #[.int .u8 b]).cell 0) (by omega) (by omega) (fun i hi => by
      by_cases l : i < k
      · rw [if_pos l]
      · rw [if_neg l, show i = k by omega]) h


set_option maxRecDepth 100000 in
set_option maxHeartbeats 4000000 in
theorem mac_ref_short (A A2 : Option Addr) (k c n c2 : Nat) (key f : Nat → Nat) (hkey : ∀ i, key i < 256) (hf : ∀ i, f i < 256) (hk : k ≤ 400000) (hk0 : k ≤ 64) (hn : n ≤ 400000) (w : World) (hA : Rd w A k key) (hSA : Src w A k c key) (hA2 : Src w A2 n c2 f) :
    Calls Tryd.prog 23 #[.slice A k c, .slice A2 n c2] w fun e w' => ∃ A' c', e = .returned (.slice A' 32 c') ∧ Rd w' A' 32 (macF key k f n) ∧ Below w.heap.size w w' ∧ Fresh w A' := by
  have HK := Lib.hid hkey
  have HA := Lib.hid hA
  have HSA := Lib.hid hSA
  have HB := Lib.hid hA2
  have d0 : decide (64 < k) = false := decide_eq_false (by omega)
  have d1 : decide ((64 : Int) < (k : Int)) = false := decide_eq_false (by omega)
  have HP := Lib.hid (show ∀ i, keyPad key k i = if i < k then key i else 0 from fun i => by unfold keyPad; rw [if_pos hk0])
  have HP8 := Lib.hid (show ∀ i, keyPad key k i < 256 from keyPad_lt hkey k)
  have HI8 := Lib.hid (show ∀ i, inT key k f i < 256 from fun i => by unfold inT; split; exact Nat.xor_lt_two_pow (n := 8) (keyPad_lt hkey k i) (by omega); exact hf _)
  have HO8 := Lib.hid (show ∀ i, outT key k f n i < 256 from fun i => by unfold outT; split; exact Nat.xor_lt_two_pow (n := 8) (keyPad_lt hkey k i) (by omega); exact sum32_lt _ _ _)
  have HIF := Lib.hid (show ∀ i, i < 64 + n → inT key k f i = if i < 64 then padX (keyPad key k) 54 i else f (i - 64) from fun i _ => rfl)
  have HOF := Lib.hid (show ∀ i, i < 64 + 32 → outT key k f n i = if i < 64 then padX (keyPad key k) 92 i else sum32 (inT key k f) (64 + n) (i - 64) from fun i _ => rfl)
  clear hkey hf hA hSA hA2 hk0
  go_enter Tryd.func23, Tryd.ntmps23
  go_wp2_with fail
  have HB1 := Lib.hid (Below.refl w.heap.size w)
  have HRK := HA
  have HGK := HK
  have hszw : w.heap.size ≤ w.heap.size := Nat.le_refl _

  generalize keyPad key k = P at HP HP8 HIF HOF
  go_wp2_with fail
  go_loopw [5, 6, 7] (fun x y i wr => ∃ (j : Nat) (A5 : Option Addr) (c5 : Nat) (A6 : Option Addr) (c6 : Nat), j ≤ 64 ∧ i = .int .i64 j ∧ x = .slice A5 j c5 ∧ y = .slice A6 j c6 ∧ Own wr w.heap.size 5 A5 j c5 (padX P 54) ∧ Own wr w.heap.size 5 A6 j c6 (padX P 92) ∧ Apart A5 A6 ∧ Below w.heap.size w wr) (fun _ _ i _ => 64 - (intOf i).toNat)
  case atStart => exact ⟨0, none, 0, none, 0, Nat.zero_le _, rfl, rfl, rfl, Own.nil _ _ _ _, Own.nil _ _ _ _, Apart.nil _, Below.refl _ _⟩
  case round =>
    obtain ⟨j, A5, c5, A6, c6, hj, rfl, rfl, rfl, hin, hout, hap, hbel⟩ := hrel
    have HIN := Lib.hid hin
    have HOUT := Lib.hid hout
    have HAR := Lib.hid hap
    have HBR := Lib.hid hbel
    have hsz := hbel.size
    clear hin hout hap hbel
    by_cases hlt : j < 64
    · by_cases hjk : j < k
      · obtain ⟨kb, ko, rfl, hkb, hkc⟩ : ∃ b off, A = some ⟨b, off, none⟩ ∧ b < w.heap.size ∧ ∀ i, i < k → w.cell? ⟨b, off + i, none⟩ = some (.int .u8 (key i : Nat)) := by
          rcases HRK.out with h | h
          · omega
          · exact h
        have hc1 := (HBR.out.cell (p := ⟨kb, ko + j, none⟩) hkb).trans (hkc j hjk)
        have hv := HGK.out j
        have hpv := HP.out j
        rw [if_pos hjk] at hpv
        generalize key j = v at hc1 hv hpv
        have HX1 := Lib.hid (show bits .xor .u8 (v : Int) 54 = ((padX P 54 j : Nat) : Int) by unfold padX; rw [hpv]; exact xor8 v 54 hv (by omega))
        have HX2 := Lib.hid (show bits .xor .u8 (v : Int) 92 = ((padX P 92 j : Nat) : Int) by unfold padX; rw [hpv]; exact xor8 v 92 hv (by omega))
        have i1 : (j : Int) < (k : Int) := by omega
        clear hpv hkc
        go_wp2_with (first
          | (at_builtin; refine wpList_pushAt rfl _ _ rfl rfl rfl HIN.out HBR.out hsz HX1.out (by omega) ?_; intro A5 c5 w5 o b h5 g at5; have HO5 := Lib.hid o; have HP5 := Lib.hid ((HOUT.out.alloc _).grown g HAR.out); have HAP5 := Lib.hid (Apart.moved at5 HAR.out (HOUT.out.alloc _) o); have HB5 := Lib.hid b; clear o b g at5 HIN HOUT HAR HBR)
          | (at_builtin; refine wpList_pushAt rfl _ _ rfl rfl rfl HP5.out HB5.out h5 HX2.out (by omega) ?_; intro A6 c6 w6 o b h6 g at6; have HO6 := Lib.hid o; have HP6 := Lib.hid ((HO5.out.alloc _).grown g HAP5.out.symm); have HAP6 := Lib.hid (Apart.moved at6 HAP5.out.symm (HO5.out.alloc _) o); have HB6 := Lib.hid b; clear o b g at6 HP5 HO5 HAP5 HB5))
        go_roundw
        case rel => exact ⟨j + 1, A5, c5, A6, c6, by omega, by go_num, rfl, rfl, HP6.out, HO6.out, HAP6.out.symm, HB6.out⟩
        case measure => simp [intOf]; omega
      · have hpv := HP.out j
        rw [if_neg hjk] at hpv
        have HX1 := Lib.hid (show (54 : Int) = ((padX P 54 j : Nat) : Int) by unfold padX; rw [hpv]; rfl)
        have HX2 := Lib.hid (show (92 : Int) = ((padX P 92 j : Nat) : Int) by unfold padX; rw [hpv]; rfl)
        clear hpv
        go_wp2_with (first
          | (at_builtin; refine wpList_pushAt rfl _ _ rfl rfl rfl HIN.out HBR.out hsz HX1.out (by omega) ?_; intro A5 c5 w5 o b h5 g at5; have HO5 := Lib.hid o; have HP5 := Lib.hid ((HOUT.out.alloc _).grown g HAR.out); have HAP5 := Lib.hid (Apart.moved at5 HAR.out (HOUT.out.alloc _) o); have HB5 := Lib.hid b; clear o b g at5 HIN HOUT HAR HBR)
          | (at_builtin; refine wpList_pushAt rfl _ _ rfl rfl rfl HP5.out HB5.out h5 HX2.out (by omega) ?_; intro A6 c6 w6 o b h6 g at6; have HO6 := Lib.hid o; have HP6 := Lib.hid ((HO5.out.alloc _).grown g HAP5.out.symm); have HAP6 := Lib.hid (Apart.moved at6 HAP5.out.symm (HO5.out.alloc _) o); have HB6 := Lib.hid b; clear o b g at6 HP5 HO5 HAP5 HB5))
        go_roundw
        case rel => exact ⟨j + 1, A5, c5, A6, c6, by omega, by go_num, rfl, rfl, HP6.out, HO6.out, HAP6.out.symm, HB6.out⟩
        case measure => simp [intOf]; omega
    · obtain rfl : j = 64 := by omega
      have HSB := Lib.hid (src_below HB.out (HB1.out.trans (HBR.out.mono hszw)))
      have HT1 := HIF
      have HT2 := HOF
      go_wp2_with (first
        | (at_builtin; refine wpList_catFrom rfl _ _ 22 5 (.int .u8 0) 1 Tryd.underlying22 info_u8 rfl rfl rfl HIN.out HBR.out hsz n c2 A2 rfl HSB.out (by omega) (by omega) HT1.out ?_; intro A7 c7 w7 ho hb hsz7 g at7; have HO7 := Lib.hid ho; have HQ7 := Lib.hid (HOUT.out.grown g HAR.out); have HB7 := Lib.hid hb; clear ho hb g at7 HIN HBR HOUT))
      refine (sum8_ref A7 (64 + n) c7 _ HI8.out (by omega) _ (src_own HO7.out)).mono ?_
      rintro e w8 ⟨A8, c8, rfl, hr8, hb8, _⟩
      have HS8 := Lib.hid (src_of_rd (c := c8) hr8 (by omega))
      have HQ8 := Lib.hid (HQ7.out.below hb8 (Nat.le_refl _))
      have HB8 := Lib.hid (HB7.out.trans (hb8.mono hsz7))
      have hsz8 := HB8.out.size
      clear hr8 hb8 HO7 HQ7 HB7
      go_wp2_with (first
        | (at_builtin; refine wpList_catFrom rfl _ _ 22 5 (.int .u8 0) 1 Tryd.underlying22 info_u8 rfl rfl rfl HQ8.out HB8.out hsz8 32 c8 A8 rfl HS8.out (by omega) (by omega) HT2.out ?_; intro A9 c9 w9 ho hb hsz9 _ _; have HO9 := Lib.hid ho; have HB9 := Lib.hid hb; clear ho hb HQ8 HB8 HS8))
      refine (sum8_ref A9 (64 + 32) c9 _ HO8.out (by omega) _ (src_own HO9.out)).mono ?_
      rintro e w0 ⟨A10, c10, rfl, hr, hb, hfr⟩
      have HFR := Lib.hid (hfr.less (Nat.le_trans hszw hsz9))
      have HR := Lib.hid hr
      have HBE := Lib.hid (HB1.out.trans ((HB9.out.mono hszw).trans (hb.mono (Nat.le_trans hszw hsz9))))
      clear hr hb hfr
      go_wp2_with fail
      go_ret
      exact ⟨A10, c10, rfl, HR.out, HBE.out, HFR.out⟩

set_option maxRecDepth 100000 in
set_option maxHeartbeats 4000000 in
theorem mac_ref_long (A A2 : Option Addr) (k c n c2 : Nat) (key f : Nat → Nat) (hkey : ∀ i, key i < 256) (hf : ∀ i, f i < 256) (hk : k ≤ 400000) (hk0 : 64 < k) (hn : n ≤ 400000) (w : World) (hA : Rd w A k key) (hSA : Src w A k c key) (hA2 : Src w A2 n c2 f) :
    Calls Tryd.prog 23 #[.slice A k c, .slice A2 n c2] w fun e w' => ∃ A' c', e = .returned (.slice A' 32 c') ∧ Rd w' A' 32 (macF key k f n) ∧ Below w.heap.size w w' ∧ Fresh w A' := by
  have HK := Lib.hid hkey
  have HA := Lib.hid hA
  have HSA := Lib.hid hSA
  have HB := Lib.hid hA2
  have d0 : decide (64 < k) = true := decide_eq_true (by omega)
  have d1 : decide ((64 : Int) < (k : Int)) = true := decide_eq_true (by omega)
  have HP := Lib.hid (show ∀ i, keyPad key k i = if i < 32 then sum32 key k i else 0 from fun i => by unfold keyPad; rw [if_neg (by omega)])
  have HP8 := Lib.hid (show ∀ i, keyPad key k i < 256 from keyPad_lt hkey k)
  have HI8 := Lib.hid (show ∀ i, inT key k f i < 256 from fun i => by unfold inT; split; exact Nat.xor_lt_two_pow (n := 8) (keyPad_lt hkey k i) (by omega); exact hf _)
  have HO8 := Lib.hid (show ∀ i, outT key k f n i < 256 from fun i => by unfold outT; split; exact Nat.xor_lt_two_pow (n := 8) (keyPad_lt hkey k i) (by omega); exact sum32_lt _ _ _)
  have HIF := Lib.hid (show ∀ i, i < 64 + n → inT key k f i = if i < 64 then padX (keyPad key k) 54 i else f (i - 64) from fun i _ => rfl)
  have HOF := Lib.hid (show ∀ i, i < 64 + 32 → outT key k f n i = if i < 64 then padX (keyPad key k) 92 i else sum32 (inT key k f) (64 + n) (i - 64) from fun i _ => rfl)
  clear hkey hf hA hSA hA2 hk0
  go_enter Tryd.func23, Tryd.ntmps23
  go_wp2_with fail
  refine (sum8_ref A k c key HK.out (by omega) _ HSA.out).mono ?_
  rintro e w1 ⟨KA, kc, rfl, hr, hb, _⟩
  have HRK := Lib.hid hr
  have HB1 := Lib.hid hb
  have hszw := hb.size
  have HGK := Lib.hid (fun i => sum32_lt key k i)
  clear hr hb HA HSA
  obtain ⟨gk, hgk⟩ : ∃ g, sum32 key k = g := ⟨_, rfl⟩
  rw [hgk] at HP HRK HGK
  clear hgk

  generalize keyPad key k = P at HP HP8 HIF HOF
  go_wp2_with fail
  go_loopw [5, 6, 7] (fun x y i wr => ∃ (j : Nat) (A5 : Option Addr) (c5 : Nat) (A6 : Option Addr) (c6 : Nat), j ≤ 64 ∧ i = .int .i64 j ∧ x = .slice A5 j c5 ∧ y = .slice A6 j c6 ∧ Own wr w1.heap.size 5 A5 j c5 (padX P 54) ∧ Own wr w1.heap.size 5 A6 j c6 (padX P 92) ∧ Apart A5 A6 ∧ Below w1.heap.size w1 wr) (fun _ _ i _ => 64 - (intOf i).toNat)
  case atStart => exact ⟨0, none, 0, none, 0, Nat.zero_le _, rfl, rfl, rfl, Own.nil _ _ _ _, Own.nil _ _ _ _, Apart.nil _, Below.refl _ _⟩
  case round =>
    obtain ⟨j, A5, c5, A6, c6, hj, rfl, rfl, rfl, hin, hout, hap, hbel⟩ := hrel
    have HIN := Lib.hid hin
    have HOUT := Lib.hid hout
    have HAR := Lib.hid hap
    have HBR := Lib.hid hbel
    have hsz := hbel.size
    clear hin hout hap hbel
    by_cases hlt : j < 64
    · by_cases hjk : j < 32
      · obtain ⟨kb, ko, rfl, hkb, hkc⟩ : ∃ b off, KA = some ⟨b, off, none⟩ ∧ b < w1.heap.size ∧ ∀ i, i < 32 → w1.cell? ⟨b, off + i, none⟩ = some (.int .u8 (gk i : Nat)) := by
          rcases HRK.out with h | h
          · omega
          · exact h
        have hc1 := (HBR.out.cell (p := ⟨kb, ko + j, none⟩) hkb).trans (hkc j hjk)
        have hv := HGK.out j
        have hpv := HP.out j
        rw [if_pos hjk] at hpv
        generalize gk j = v at hc1 hv hpv
        have HX1 := Lib.hid (show bits .xor .u8 (v : Int) 54 = ((padX P 54 j : Nat) : Int) by unfold padX; rw [hpv]; exact xor8 v 54 hv (by omega))
        have HX2 := Lib.hid (show bits .xor .u8 (v : Int) 92 = ((padX P 92 j : Nat) : Int) by unfold padX; rw [hpv]; exact xor8 v 92 hv (by omega))
        have i1 : (j : Int) < (32 : Int) := by omega
        clear hpv hkc
        go_wp2_with (first
          | (at_builtin; refine wpList_pushAt rfl _ _ rfl rfl rfl HIN.out HBR.out hsz HX1.out (by omega) ?_; intro A5 c5 w5 o b h5 g at5; have HO5 := Lib.hid o; have HP5 := Lib.hid ((HOUT.out.alloc _).grown g HAR.out); have HAP5 := Lib.hid (Apart.moved at5 HAR.out (HOUT.out.alloc _) o); have HB5 := Lib.hid b; clear o b g at5 HIN HOUT HAR HBR)
          | (at_builtin; refine wpList_pushAt rfl _ _ rfl rfl rfl HP5.out HB5.out h5 HX2.out (by omega) ?_; intro A6 c6 w6 o b h6 g at6; have HO6 := Lib.hid o; have HP6 := Lib.hid ((HO5.out.alloc _).grown g HAP5.out.symm); have HAP6 := Lib.hid (Apart.moved at6 HAP5.out.symm (HO5.out.alloc _) o); have HB6 := Lib.hid b; clear o b g at6 HP5 HO5 HAP5 HB5))
        go_roundw
        case rel => exact ⟨j + 1, A5, c5, A6, c6, by omega, by go_num, rfl, rfl, HP6.out, HO6.out, HAP6.out.symm, HB6.out⟩
        case measure => simp [intOf]; omega
      · have hpv := HP.out j
        rw [if_neg hjk] at hpv
        have HX1 := Lib.hid (show (54 : Int) = ((padX P 54 j : Nat) : Int) by unfold padX; rw [hpv]; rfl)
        have HX2 := Lib.hid (show (92 : Int) = ((padX P 92 j : Nat) : Int) by unfold padX; rw [hpv]; rfl)
        clear hpv
        go_wp2_with (first
          | (at_builtin; refine wpList_pushAt rfl _ _ rfl rfl rfl HIN.out HBR.out hsz HX1.out (by omega) ?_; intro A5 c5 w5 o b h5 g at5; have HO5 := Lib.hid o; have HP5 := Lib.hid ((HOUT.out.alloc _).grown g HAR.out); have HAP5 := Lib.hid (Apart.moved at5 HAR.out (HOUT.out.alloc _) o); have HB5 := Lib.hid b; clear o b g at5 HIN HOUT HAR HBR)
          | (at_builtin; refine wpList_pushAt rfl _ _ rfl rfl rfl HP5.out HB5.out h5 HX2.out (by omega) ?_; intro A6 c6 w6 o b h6 g at6; have HO6 := Lib.hid o; have HP6 := Lib.hid ((HO5.out.alloc _).grown g HAP5.out.symm); have HAP6 := Lib.hid (Apart.moved at6 HAP5.out.symm (HO5.out.alloc _) o); have HB6 := Lib.hid b; clear o b g at6 HP5 HO5 HAP5 HB5))
        go_roundw
        case rel => exact ⟨j + 1, A5, c5, A6, c6, by omega, by go_num, rfl, rfl, HP6.out, HO6.out, HAP6.out.symm, HB6.out⟩
        case measure => simp [intOf]; omega
    · obtain rfl : j = 64 := by omega
      have HSB := Lib.hid (src_below HB.out (HB1.out.trans (HBR.out.mono hszw)))
      have HT1 := HIF
      have HT2 := HOF
      go_wp2_with (first
        | (at_builtin; refine wpList_catFrom rfl _ _ 22 5 (.int .u8 0) 1 Tryd.underlying22 info_u8 rfl rfl rfl HIN.out HBR.out hsz n c2 A2 rfl HSB.out (by omega) (by omega) HT1.out ?_; intro A7 c7 w7 ho hb hsz7 g at7; have HO7 := Lib.hid ho; have HQ7 := Lib.hid (HOUT.out.grown g HAR.out); have HB7 := Lib.hid hb; clear ho hb g at7 HIN HBR HOUT))
      refine (sum8_ref A7 (64 + n) c7 _ HI8.out (by omega) _ (src_own HO7.out)).mono ?_
      rintro e w8 ⟨A8, c8, rfl, hr8, hb8, _⟩
      have HS8 := Lib.hid (src_of_rd (c := c8) hr8 (by omega))
      have HQ8 := Lib.hid (HQ7.out.below hb8 (Nat.le_refl _))
      have HB8 := Lib.hid (HB7.out.trans (hb8.mono hsz7))
      have hsz8 := HB8.out.size
      clear hr8 hb8 HO7 HQ7 HB7
      go_wp2_with (first
        | (at_builtin; refine wpList_catFrom rfl _ _ 22 5 (.int .u8 0) 1 Tryd.underlying22 info_u8 rfl rfl rfl HQ8.out HB8.out hsz8 32 c8 A8 rfl HS8.out (by omega) (by omega) HT2.out ?_; intro A9 c9 w9 ho hb hsz9 _ _; have HO9 := Lib.hid ho; have HB9 := Lib.hid hb; clear ho hb HQ8 HB8 HS8))
      refine (sum8_ref A9 (64 + 32) c9 _ HO8.out (by omega) _ (src_own HO9.out)).mono ?_
      rintro e w10 ⟨A10, c10, rfl, hr, hb, hfr⟩
      have HFR := Lib.hid (hfr.less (Nat.le_trans hszw hsz9))
      have HR := Lib.hid hr
      have HBE := Lib.hid (HB1.out.trans ((HB9.out.mono hszw).trans (hb.mono (Nat.le_trans hszw hsz9))))
      clear hr hb hfr
      go_wp2_with fail
      go_ret
      exact ⟨A10, c10, rfl, HR.out, HBE.out, HFR.out⟩

theorem mac_ref (A A2 : Option Addr) (k c n c2 : Nat) (key f : Nat → Nat) (hkey : ∀ i, key i < 256) (hf : ∀ i, f i < 256) (hk : k ≤ 400000) (hn : n ≤ 400000) (w : World) (hA : Rd w A k key) (hSA : Src w A k c key) (hA2 : Src w A2 n c2 f) :
    Calls Tryd.prog 23 #[.slice A k c, .slice A2 n c2] w fun e w' => ∃ A' c', e = .returned (.slice A' 32 c') ∧ Rd w' A' 32 (macF key k f n) ∧ Below w.heap.size w w' ∧ Fresh w A' := by
  by_cases h : k ≤ 64
  · exact mac_ref_short A A2 k c n c2 key f hkey hf hk h hn w hA hSA hA2
  · exact mac_ref_long A A2 k c n c2 key f hkey hf hk (by omega) hn w hA hSA hA2

end RefK
end Go.Proofs.YtljepgddmfelpaaDoor
