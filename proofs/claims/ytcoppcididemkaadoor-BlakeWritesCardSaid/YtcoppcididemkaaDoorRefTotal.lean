/- The document's own answers of layer 7 (package aditref07): Sum. -/
import Derived.Test.YtcoppcididemkaaDoorRefFill
import Derived.Test.YtcoppcididemkaaDoorBlakeTell
namespace Go.Proofs.YtcoppcididemkaaDoor
namespace RefB
open Go.ChangeShapes Go.WideShapes Go.ChangeAt Go.RowKit
open Num Mem Words State Blake Ref Chacha Quiet

set_option maxRecDepth 100000 in
theorem sum_ref_no (size : Int) (A A2 : Option Addr) (k c n c2 : Nat) (h : ¬ (1 ≤ size ∧ size ≤ 32 ∧ k ≤ 32)) (w : World) : Calls Tryd.prog 6 #[.int .i64 size, .slice A k c, .slice A2 n c2] w (Refused w) := by
  by_cases h1 : 1 ≤ size
  · have d1 : decide (size < 1) = false := decide_eq_false (by omega)
    by_cases h2 : size ≤ 32
    · have d2 : decide ((32 : Int) < size) = false := decide_eq_false (by omega)
      have d3 : decide ((32 : Int) < (k : Int)) = true := decide_eq_true (by omega)
      go_enter Tryd.func6, Tryd.ntmps6
      go_wp2_with fail
      go_ret2
      exact ⟨rfl, rfl⟩
    · have d2 : decide ((32 : Int) < size) = true := decide_eq_true (by omega)
      go_enter Tryd.func6, Tryd.ntmps6
      go_wp2_with fail
      go_ret2
      exact ⟨rfl, rfl⟩
  · have d1 : decide (size < 1) = true := decide_eq_true (by omega)
    go_enter Tryd.func6, Tryd.ntmps6
    go_wp2_with fail
    go_ret2
    exact ⟨rfl, rfl⟩

theorem first_is (size k : Nat) : eight.set 0 (1779033703 ^^^ (16842752 + 256 * k + size)) = firstL size k := rfl
theorem xor_first (size k : Nat) (hs : size ≤ 32) (hk : k ≤ 32) : bits .xor .u32 ((1779033703 : Nat) : Int) (16842752 + 256 * (k : Int) + (size : Int)) = ((1779033703 ^^^ (16842752 + 256 * k + size) : Nat) : Int) :=
  by
  rw [show 16842752 + 256 * (k : Int) + (size : Int) = ((16842752 + 256 * k + size : Nat) : Int) by omega]
  exact u32_xor_nat _ _ (by omega) (by omega)

/-- a row that lies in a block of the call's own, if anywhere -/
def Fresh (w : World) (A : Option Addr) : Prop := ∀ a, A = some a → w.heap.size ≤ a.block
theorem Fresh.less {w w0 : World} {A : Option Addr} (h : Fresh w A) (k : w0.heap.size ≤ w.heap.size) : Fresh w0 A := fun a e => Nat.le_trans k (h a e)
theorem cut_call {P : Program} {f : FuncId} {args : Array Value} {Q : Ending → World → Prop} {w : World} (R : World → Prop) (hR : R w) (h : ∀ w', R w' → Calls P f args w' Q) : Calls P f args w Q := h w hR
theorem src_below {w X : World} {A : Option Addr} {m c : Nat} {g : Nat → Nat} (h : Src w A m c g) (hb : Below w.heap.size w X) : Src X A m c g := by
  rcases h with h | ⟨ad, e, hy⟩
  · exact .inl h
  · refine .inr ⟨ad, e, fun j v hj => ?_⟩
    have hc := hy j v hj
    have hlt : (ad.add j).block < w.heap.size := by
      rcases Nat.lt_or_ge (ad.add j).block w.heap.size with k | k
      · exact k
      · exfalso
        simp [World.cell?, Array.getElem?_eq_none k] at hc
    exact (hb.cell hlt).trans hc
theorem own_le_cap {w : World} {B t k c : Nat} {A : Option Addr} {f : Nat → Nat} (h : Own w B t A k c f) : k ≤ c := by
  rcases h.2 with ⟨e, h0⟩ | ⟨g, cap, cur, e, _, _, h1, _⟩
  · omega
  · injection e with _ _ e3
    omega
theorem sum_snoc (S : List Nat) (k : Nat) : byteCells (sumAt S) (4 * k) ++ byteCells (byteAt (S.getD k 0)) 4 = byteCells (sumAt S) (4 * (k + 1)) := by
  rw [byteCells_append, show 4 * k + 4 = 4 * (k + 1) by omega]
  refine byteCells_congr fun i hi => ?_
  by_cases h : i < 4 * k
  · rw [if_pos h]
  · rw [if_neg h]
    unfold sumAt
    rw [show i / 4 = k by omega, show i % 4 = i - 4 * k by omega]
/-- the sums of the blocks, as far as each, and the last of all -/
structure Chain (S0 : List Nat) (T : Nat → Nat) (N : Nat) (BL : Nat → List Nat) : Prop where
  zero : BL 0 = S0
  succ : ∀ j, BL (j + 1) = takeL (BL j) (numsOf (fun i => T (64 * j + i)) 0) (64 * (j + 1)) false
  len : ∀ j, (BL j).length = 8
  fits : ∀ j, 64 * j < 18446744073709551616 → Fits (BL j)
  last : takeL (BL (Blake.ahead N)) (numsOf (upTo (fun i => T (64 * Blake.ahead N + i)) (N - 64 * Blake.ahead N)) 0) N true = finalL S0 T N
theorem chain_is {S0 : List Nat} (h : S0.length = 8) (hf : Fits S0) (T : Nat → Nat) (N : Nat) : Chain S0 T N (blocks S0 T) :=
  ⟨rfl, fun j => by
    show takeL (blocks S0 T j) (numsOf T (64 * j)) (64 * (j + 1)) false = _
    rw [numsOf_congr (f := T) (g := fun i => T (64 * j + i)) (p := 64 * j) (q := 0) (fun i _ => by show T _ = T _; rw [Nat.zero_add])],
   blocks_length h T, blocks_fits hf T, final_of S0 T N⟩


set_option maxRecDepth 100000 in
set_option maxHeartbeats 8000000 in
theorem sum_ref_zero (size : Nat) (A A2 : Option Addr) (k c n c2 : Nat) (key f : Nat → Nat) (hs1 : 1 ≤ size) (hs2 : size ≤ 32) (hk : k ≤ 32) (hk0 : k = 0) (hkey : ∀ i, key i < 256) (hf : ∀ i, f i < 256) (hn : n ≤ 900000) (w : World) (hA : Src w A k c key) (hA2 : Src w A2 n c2 f) :
    Calls Tryd.prog 6 #[.int .i64 size, .slice A k c, .slice A2 n c2] w fun e w' => ∃ A' c', e = .returned (.tuple #[.slice A' size c', .int .i64 0]) ∧ Rd w' A' size (digest size key k f n) ∧ Below w.heap.size w w' ∧ Fresh w A' := by
  have HA := Lib.hid hA
  have HA2 := Lib.hid hA2
  have HK := Lib.hid hkey
  have HF := Lib.hid hf
  clear hA hA2 hkey hf
  have d1 : decide ((size : Int) < 1) = false := decide_eq_false (by omega)
  have d2 : decide ((32 : Int) < (size : Int)) = false := decide_eq_false (by omega)
  have d3 : decide ((32 : Int) < (k : Int)) = false := decide_eq_false (by omega)
  have d4 : decide (0 < k) = false := decide_eq_false (by omega)
  have HX := Lib.hid (xor_first size k hs2 hk)
  have HS0 := Lib.hid (show (firstL size k).length = 8 ∧ Fits (firstL size k) from ⟨firstL_length size k, firstL_fits size k hs2 hk⟩)
  have HFI := Lib.hid (first_is size k)
  have HD := Lib.hid (show digest size key k f n = sumAt (finalL (firstL size k) (withKey key k f) (keyLen k + n)) from rfl)
  have HT := Lib.hid (withKey_lt HK.out HF.out k)
  have HKL := Lib.hid (show keyLen k = 0 by unfold keyLen; rw [if_pos hk0])
  have HWK := Lib.hid (show ∀ i, i < n → f i = withKey key k f i from fun i _ => by unfold withKey; rw [if_pos hk0])
  clear hk0
  go_enter Tryd.func6, Tryd.ntmps6
  go_wp2_with fail
  refine (eight_ref _).mono ?_
  rintro e w1 ⟨g, rfl, ho, hb⟩
  have c0 := ho.cellW 0 (by decide)
  have f0 := ho.freeW 0
  have HO1 := Lib.hid ho
  have HB1 := Lib.hid hb
  clear ho hb
  rw [show eight.getD 0 0 = 1779033703 from rfl] at c0
  generalize ((1779033703 : Nat) : Int) = x0 at c0 HX
  go_wp2_with fail
  rw [HX.out]
  have ho := HO1.out.put0 0 (by decide) (1779033703 ^^^ (16842752 + 256 * k + size))
  rw [HFI.out] at ho
  refine cut_call (fun X => OwnW X w.heap.size g 8 (firstL size k) ∧ Below w.heap.size w X) ⟨ho, HB1.out.setCell HO1.out.ge _⟩ ?_
  clear ho HO1 HB1 HX HFI c0 f0
  rintro w2 ⟨ho, hb⟩
  have HO2 := Lib.hid ho
  have HB2 := Lib.hid hb
  have hlt2 := ho.lt
  clear ho hb
  generalize firstL size k = S0 at HO2 HS0 HD
  refine (copy_ref A2 n c2 f (by omega) _ (src_below HA2.out HB2.out)).mono ?_
  rintro e w3 ⟨AA, cc, rfl, ho, hb⟩
  have hsz2 := HB2.out.size
  have HALL := Lib.hid (Own.congr ho HWK.out)
  have HO3 := Lib.hid (HO2.out.below hb hlt2)
  have HB3 := Lib.hid (HB2.out.trans (hb.mono hsz2))
  clear ho hb HO2 HB2 HA2 HA HK HF
  go_wp2_with fail
  obtain ⟨N, hN⟩ : ∃ N, n = N := ⟨_, rfl⟩
  rw [show keyLen k + n = N by rw [HKL.out]; omega] at HD
  rw [hN] at HALL ⊢
  have hNl : N ≤ 1000000 := by omega
  clear hN
  generalize withKey key k f = T at HALL HD HT HWK
  clear HWK HKL

  obtain ⟨BL, hBL⟩ : ∃ BL, Chain S0 T N BL := ⟨_, chain_is HS0.out.1 HS0.out.2 T N⟩
  have HBL := Lib.hid hBL
  clear hBL
  have hszw := HB3.out.size

  go_loopw [8, 10] (fun h i wr => ∃ (j p g' c' : Nat), p = 64 * j ∧ i = .int .i64 p ∧ h = .slice (some ⟨g', 0, none⟩) 8 c' ∧ (j = 0 ∨ p < N) ∧ OwnW wr w.heap.size g' c' (BL j) ∧ Below w3.heap.size w3 wr) (fun _ i _ => N - (intOf i).toNat)
  case atStart => exact ⟨0, 0, g, 8, rfl, rfl, rfl, .inl rfl, by rw [HBL.out.zero]; exact HO3.out, Below.refl _ _⟩
  case round =>
    obtain ⟨j, p, g', c', hpj, rfl, rfl, hj, hown, hbel⟩ := hrel
    have HH := Lib.hid hown
    have HBW := Lib.hid hbel
    have HB := Lib.hid (HB3.out.trans (hbel.mono hszw))
    have HAL := Lib.hid (HALL.out.below hbel (Nat.le_refl _))
    have hszr := hbel.size
    clear hown hbel
    by_cases hlt : p + 64 < N
    · obtain ⟨ga, rfl, hga, hga'⟩ := owns_some HAL.out (by omega)
      have hcap := own_le_cap HAL.out
      have hN9 : (64 : Int) < (N : Int) - (p : Int) := by omega
      have i1 : (p : Int) + 64 ≤ (cc : Int) := by omega
      have i2 : ¬ cc = p := by omega
      have i3 : (p : Int) + 64 ≤ (N : Int) := by omega
      have i5 : ((p : Int) + 64).toNat - p = 64 := by omega
      have HCA := Lib.hid (fun i (hi : i < 64) => show wr.cell? ⟨ga, p + i, none⟩ = some (.int .u8 (T (64 * j + i) : Nat)) by
        rcases HAL.out.rd with h | ⟨b, o, e, _, hc⟩
        · omega
        · injection e with e
          injection e with e1 e2
          have := hc (p + i) (by omega)
          rw [← e1, ← e2, Nat.zero_add] at this
          rw [← hpj]
          exact this)
      have HPJ := Lib.hid hpj
      have HSU := Lib.hid (HBL.out.succ j)
      have HFJ := Lib.hid (HBL.out.fits j (by omega))
      have HLJ := Lib.hid (HBL.out.len j)
      clear hpj
      go_wp2_with fail
      rw [show (p : Int) + 64 = ((p + 64 : Nat) : Int) by omega]
      refine (take_ref g' c' ga p (cc - p) (p + 64) (BL j) (fun i => T (64 * j + i)) false HLJ.out HFJ.out (fun i => HT.out _) (by omega) (by omega) _ HH.out.lt hga' (fun i hi => HH.out.cellW i (by rw [HLJ.out]; exact hi)) HCA.out).mono ?_
      rintro e w6 ⟨g6, c6, rfl, o6, b6⟩
      rw [show p + 64 = 64 * (j + 1) by rw [HPJ.out]; omega, ← HSU.out] at o6
      have HH6 := Lib.hid (OwnW.lower o6 HB.out.size)
      have HB6 := Lib.hid (HBW.out.trans (b6.mono hszr))
      clear o6 b6 HH HB HBW HAL HCA
      go_wp2_with fail
      go_roundw
      case rel => exact ⟨j + 1, p + 64, g6, c6, by rw [HPJ.out]; omega, by go_num, rfl, .inr hlt, HH6.out, HB6.out⟩
      case measure => simp [intOf]; omega
    · have hja : j = Blake.ahead N := by
        unfold Blake.ahead
        omega
      have hN9 : ¬ (64 : Int) < (N : Int) - (p : Int) := by omega
      have HCH := Lib.hid (show (BL (Blake.ahead N)).length = 8 ∧ Fits (BL (Blake.ahead N)) from ⟨HBL.out.len _, HBL.out.fits _ (by unfold Blake.ahead; omega)⟩)
      have HLAST := Lib.hid HBL.out.last
      have hpN : p ≤ N := by omega
      have HPJ := Lib.hid (show ∀ i, upTo (fun i => T (64 * Blake.ahead N + i)) (N - 64 * Blake.ahead N) i = upTo (fun i => T (p + i)) (N - p) i from fun i => by rw [hpj, hja])
      rw [hja] at HH
      have hz : N ≤ p → p = 0 := by omega
      clear hpj hja hj HBL
      rcases HAL.out.2 with ⟨e0, z0⟩ | ⟨b0, cap0, cur0, e0, hb0, hh0, hr0, _⟩
      · injection e0 with e1 e2 e3
        subst e1
        subst e2
        subst e3
        obtain rfl : p = 0 := by omega
        clear z0 hz hN9 hlt
        go_wp2_with fail
        refine (filled_ref none 0 0 (fun i => T (0 + i)) (by omega) _ (.inl ⟨rfl, rfl, rfl⟩)).mono ?_
        rintro e w5 ⟨AF, cF, rfl, oF, bF⟩
        obtain ⟨gF, rfl, hgF, hgF'⟩ := owns_some oF (by omega)
        have hcF := own_le_cap oF
        have hcellF : ∀ i, i < 64 → w5.cell? ⟨gF, 0 + i, none⟩ = some (.int .u8 (upTo (fun i => T (0 + i)) 0 i : Nat)) := fun i hi => by
          rcases oF.rd with h | ⟨b, o, e, _, hc⟩
          · omega
          · injection e with e
            injection e with e1 e2
            have := hc i hi
            rw [← e1, ← e2] at this
            exact this
        have HHF := Lib.hid (HH.out.below bF HH.out.lt)
        have HBF := Lib.hid (HB.out.trans (bF.mono HB.out.size))
        have HCF := Lib.hid hcellF
        have hszF := bF.size
        clear oF bF hcellF HH HB
        go_wp2_with fail
        refine (take_ref g' c' gF 0 cF 0 (BL (Blake.ahead 0)) (upTo (fun i => T (64 * Blake.ahead 0 + i)) (0 - 64 * Blake.ahead 0)) true HCH.out.1 HCH.out.2 (fun i => by unfold upTo; split; exact HT.out _; omega) (by omega) hcF _ HHF.out.lt hgF' (fun i hi => HHF.out.cellW i (by rw [HCH.out.1]; exact hi)) (fun i hi => by rw [HPJ.out]; exact HCF.out i hi)).mono ?_
        rintro e w6 ⟨g6, c6, rfl, o6, b6⟩
        rw [HLAST.out] at o6
        have h8 := finalL_length S0 T 0
        have hfF := finalL_fits HS0.out.2 T 0 (by omega)
        have HB6 := Lib.hid (HBF.out.trans (b6.mono HBF.out.size))
        have hg6 := o6.lt
        have hc6 := fun i (hi : i < 8) => o6.cellW i (by rw [h8]; exact hi)
        have HDG := Lib.hid (show digest size key k f n = sumAt (finalL S0 T 0) from HD.out)
        generalize finalL S0 T 0 = V at hc6 hfF HDG
        have HC6 := Lib.hid hc6
        have HFV := Lib.hid hfF
        have hsz6 := HB6.out.size
        clear o6 b6 hc6 hfF HHF HBF HCF h8 HCH HPJ HLAST
        go_wp2_with fail
        go_loopw [11, 12] (fun o i wr => ∃ (q : Nat) (R : Option Addr) (c8 : Nat), q ≤ 8 ∧ i = .int .i64 q ∧ o = .slice R (4 * q) c8 ∧ Own wr w6.heap.size 5 R (4 * q) c8 (sumAt V) ∧ Below w6.heap.size w6 wr) (fun _ i _ => 8 - (intOf i).toNat)
        case atStart => exact ⟨0, none, 0, Nat.zero_le _, rfl, rfl, Own.nil _ _ _ _, Below.refl _ _⟩
        case round =>
          obtain ⟨q, R, c8, hq, rfl, rfl, hown, hbel⟩ := hrel
          have HR := Lib.hid hown
          have HBR := Lib.hid hbel
          have hszr := hbel.size
          clear hown hbel
          by_cases hlt : q < 8
          · have hc1 := (HBR.out.cell (p := ⟨g6, q, none⟩) hg6).trans (HC6.out q hlt)
            have hv := HFV.out q
            have HE := Lib.hid (sum_snoc V q)
            have i1 : (q : Int) < 8 := by omega
            generalize V.getD q 0 = v at hc1 hv HE
            go_wp2_with fail
            refine (Ref.bytes_any v 4 (by omega) (by omega) _).mono ?_
            rintro e w7 ⟨A7, c7, rfl, ho7, hb7⟩
            obtain ⟨g7, rfl, _, _⟩ := owns_some ho7 (by omega)
            have hsz7 : w6.heap.size ≤ w7.heap.size := Nat.le_trans hszr hb7.size
            have HO7 := Lib.hid (owns_below HR.out hb7 (Nat.le_refl _))
            have HL7 := Lib.hid (HBR.out.trans (hb7.mono hszr))
            have HS7 := Lib.hid (World.ownsRow.cells ho7 (g := g7) rfl)
            clear ho7 hb7
            go_wp2_with (first
              | (at_builtin; refine wpList_cat rfl _ _ 22 5 (.int .u8 0) 1 Tryd.underlying22 info_u8 rfl rfl rfl HO7.out HL7.out hsz7 _ 4 c7 rfl (byteCells (byteAt v) 4) (byteCells_length _ _) HS7.out (bytes_each _ _) (by omega) (by omega) ?_; intro A' c'' w8 hown2 hbel2 hsz2 _; rw [HE.out, show 4 * q + 4 = 4 * (q + 1) by omega] at hown2; rw [show 4 * q + 4 = 4 * (q + 1) by omega]; have HO8 := Lib.hid hown2; have HL8 := Lib.hid hbel2; clear hown2 hbel2))
            go_roundw
            case rel => exact ⟨q + 1, A', c'', by omega, by go_num, rfl, HO8.out, HL8.out⟩
            case measure => simp [intOf]; omega
          · obtain rfl : q = 8 := by omega
            obtain ⟨gR, rfl, hgR, _⟩ := owns_some HR.out (by omega)
            have HFR := Lib.hid (show Fresh w (some ⟨gR, 0, none⟩) from fun a e => by cases e; exact Nat.le_trans hsz6 hgR)
            have hcR := own_le_cap HR.out
            have HRD := Lib.hid (rd_front HR.out.rd size (by omega))
            have i8 : (size : Int) ≤ (c8 : Int) := by omega
            go_wp2_with fail
            go_ret2
            rw [HDG.out]
            exact ⟨_, _, rfl, HRD.out, HB6.out.trans (HBR.out.mono hsz6), HFR.out⟩
      · injection e0 with e1 e2 e3
        subst e1
        subst e3
        have hlt0 : b0 < wr.heap.size := by
          rcases Nat.lt_or_ge b0 wr.heap.size with h | h
          · exact h
          · simp [Array.getElem?_eq_none h] at hh0
        have HSR := Lib.hid (fun i (hi : i < N - p) => show wr.cell? ⟨b0, p + i, none⟩ = some (.int .u8 (T (p + i) : Nat)) by
          rcases HAL.out.rd with h | ⟨b, o, e, _, hc⟩
          · omega
          · injection e with e
            injection e with e1 e2
            have := hc (p + i) (by omega)
            rw [← e1, ← e2, Nat.zero_add] at this
            exact this)
        clear hh0 hb0 HAL
        by_cases hcap : cc = p
        · obtain rfl : p = 0 := hz (by omega)
          obtain rfl : cc = 0 := hcap
          obtain rfl : N = 0 := by omega
          clear hz hN9 hlt HSR
          go_wp2_with fail
          refine (filled_ref (some ⟨b0, 0, none⟩) 0 0 (fun i => T (0 + i)) (by omega) _ (.inr ⟨_, rfl, fun j v hj => by simp [byteCells] at hj⟩)).mono ?_
          rintro e w5 ⟨AF, cF, rfl, oF, bF⟩
          obtain ⟨gF, rfl, hgF, hgF'⟩ := owns_some oF (by omega)
          have hcF := own_le_cap oF
          have hcellF : ∀ i, i < 64 → w5.cell? ⟨gF, 0 + i, none⟩ = some (.int .u8 (upTo (fun i => T (0 + i)) 0 i : Nat)) := fun i hi => by
            rcases oF.rd with h | ⟨b, o, e, _, hc⟩
            · omega
            · injection e with e
              injection e with e1 e2
              have := hc i hi
              rw [← e1, ← e2] at this
              exact this
          have HHF := Lib.hid (HH.out.below bF HH.out.lt)
          have HBF := Lib.hid (HB.out.trans (bF.mono HB.out.size))
          have HCF := Lib.hid hcellF
          have hszF := bF.size
          clear oF bF hcellF HH HB
          go_wp2_with fail
          refine (take_ref g' c' gF 0 cF 0 (BL (Blake.ahead 0)) (upTo (fun i => T (64 * Blake.ahead 0 + i)) (0 - 64 * Blake.ahead 0)) true HCH.out.1 HCH.out.2 (fun i => by unfold upTo; split; exact HT.out _; omega) (by omega) hcF _ HHF.out.lt hgF' (fun i hi => HHF.out.cellW i (by rw [HCH.out.1]; exact hi)) (fun i hi => by rw [HPJ.out]; exact HCF.out i hi)).mono ?_
          rintro e w6 ⟨g6, c6, rfl, o6, b6⟩
          rw [HLAST.out] at o6
          have h8 := finalL_length S0 T 0
          have hfF := finalL_fits HS0.out.2 T 0 (by omega)
          have HB6 := Lib.hid (HBF.out.trans (b6.mono HBF.out.size))
          have hg6 := o6.lt
          have hc6 := fun i (hi : i < 8) => o6.cellW i (by rw [h8]; exact hi)
          have HDG := Lib.hid (show digest size key k f n = sumAt (finalL S0 T 0) from HD.out)
          generalize finalL S0 T 0 = V at hc6 hfF HDG
          have HC6 := Lib.hid hc6
          have HFV := Lib.hid hfF
          have hsz6 := HB6.out.size
          clear o6 b6 hc6 hfF HHF HBF HCF h8 HCH HPJ HLAST
          go_wp2_with fail
          go_loopw [11, 12] (fun o i wr => ∃ (q : Nat) (R : Option Addr) (c8 : Nat), q ≤ 8 ∧ i = .int .i64 q ∧ o = .slice R (4 * q) c8 ∧ Own wr w6.heap.size 5 R (4 * q) c8 (sumAt V) ∧ Below w6.heap.size w6 wr) (fun _ i _ => 8 - (intOf i).toNat)
          case atStart => exact ⟨0, none, 0, Nat.zero_le _, rfl, rfl, Own.nil _ _ _ _, Below.refl _ _⟩
          case round =>
            obtain ⟨q, R, c8, hq, rfl, rfl, hown, hbel⟩ := hrel
            have HR := Lib.hid hown
            have HBR := Lib.hid hbel
            have hszr := hbel.size
            clear hown hbel
            by_cases hlt : q < 8
            · have hc1 := (HBR.out.cell (p := ⟨g6, q, none⟩) hg6).trans (HC6.out q hlt)
              have hv := HFV.out q
              have HE := Lib.hid (sum_snoc V q)
              have i1 : (q : Int) < 8 := by omega
              generalize V.getD q 0 = v at hc1 hv HE
              go_wp2_with fail
              refine (Ref.bytes_any v 4 (by omega) (by omega) _).mono ?_
              rintro e w7 ⟨A7, c7, rfl, ho7, hb7⟩
              obtain ⟨g7, rfl, _, _⟩ := owns_some ho7 (by omega)
              have hsz7 : w6.heap.size ≤ w7.heap.size := Nat.le_trans hszr hb7.size
              have HO7 := Lib.hid (owns_below HR.out hb7 (Nat.le_refl _))
              have HL7 := Lib.hid (HBR.out.trans (hb7.mono hszr))
              have HS7 := Lib.hid (World.ownsRow.cells ho7 (g := g7) rfl)
              clear ho7 hb7
              go_wp2_with (first
                | (at_builtin; refine wpList_cat rfl _ _ 22 5 (.int .u8 0) 1 Tryd.underlying22 info_u8 rfl rfl rfl HO7.out HL7.out hsz7 _ 4 c7 rfl (byteCells (byteAt v) 4) (byteCells_length _ _) HS7.out (bytes_each _ _) (by omega) (by omega) ?_; intro A' c'' w8 hown2 hbel2 hsz2 _; rw [HE.out, show 4 * q + 4 = 4 * (q + 1) by omega] at hown2; rw [show 4 * q + 4 = 4 * (q + 1) by omega]; have HO8 := Lib.hid hown2; have HL8 := Lib.hid hbel2; clear hown2 hbel2))
              go_roundw
              case rel => exact ⟨q + 1, A', c'', by omega, by go_num, rfl, HO8.out, HL8.out⟩
              case measure => simp [intOf]; omega
            · obtain rfl : q = 8 := by omega
              obtain ⟨gR, rfl, hgR, _⟩ := owns_some HR.out (by omega)
              have HFR := Lib.hid (show Fresh w (some ⟨gR, 0, none⟩) from fun a e => by cases e; exact Nat.le_trans hsz6 hgR)
              have hcR := own_le_cap HR.out
              have HRD := Lib.hid (rd_front HR.out.rd size (by omega))
              have i8 : (size : Int) ≤ (c8 : Int) := by omega
              go_wp2_with fail
              go_ret2
              rw [HDG.out]
              exact ⟨_, _, rfl, HRD.out, HB6.out.trans (HBR.out.mono hsz6), HFR.out⟩
        · have i1 : (p : Int) ≤ (N : Int) := by omega
          have i2 : (p : Int) ≤ (cc : Int) := by omega
          have i3 : p ≤ cc := by omega
          clear hz
          go_wp2_with fail
          refine (filled_ref (some ⟨b0, p, none⟩) (N - p) (cc - p) (fun i => T (p + i)) (by omega) _ (.inr ⟨_, rfl, rd_src HSR.out⟩)).mono ?_
          rintro e w5 ⟨AF, cF, rfl, oF, bF⟩
          obtain ⟨gF, rfl, hgF, hgF'⟩ := owns_some oF (by omega)
          have hcF := own_le_cap oF
          have hcellF : ∀ i, i < 64 → w5.cell? ⟨gF, 0 + i, none⟩ = some (.int .u8 (upTo (fun i => T (p + i)) (N - p) i : Nat)) := fun i hi => by
            rcases oF.rd with h | ⟨b, o, e, _, hc⟩
            · omega
            · injection e with e
              injection e with e1 e2
              have := hc i hi
              rw [← e1, ← e2] at this
              exact this
          have HHF := Lib.hid (HH.out.below bF HH.out.lt)
          have HBF := Lib.hid (HB.out.trans (bF.mono HB.out.size))
          have HCF := Lib.hid hcellF
          have hszF := bF.size
          clear oF bF hcellF HH HB
          go_wp2_with fail
          refine (take_ref g' c' gF 0 cF N (BL (Blake.ahead N)) (upTo (fun i => T (64 * Blake.ahead N + i)) (N - 64 * Blake.ahead N)) true HCH.out.1 HCH.out.2 (fun i => by unfold upTo; split; exact HT.out _; omega) (by omega) hcF _ HHF.out.lt hgF' (fun i hi => HHF.out.cellW i (by rw [HCH.out.1]; exact hi)) (fun i hi => by rw [HPJ.out]; exact HCF.out i hi)).mono ?_
          rintro e w6 ⟨g6, c6, rfl, o6, b6⟩
          rw [HLAST.out] at o6
          have h8 := finalL_length S0 T N
          have hfF := finalL_fits HS0.out.2 T N (by omega)
          have HB6 := Lib.hid (HBF.out.trans (b6.mono HBF.out.size))
          have hg6 := o6.lt
          have hc6 := fun i (hi : i < 8) => o6.cellW i (by rw [h8]; exact hi)
          have HDG := Lib.hid (show digest size key k f n = sumAt (finalL S0 T N) from HD.out)
          generalize finalL S0 T N = V at hc6 hfF HDG
          have HC6 := Lib.hid hc6
          have HFV := Lib.hid hfF
          have hsz6 := HB6.out.size
          clear o6 b6 hc6 hfF HHF HBF HCF h8 HCH HPJ HLAST
          go_wp2_with fail
          go_loopw [11, 12] (fun o i wr => ∃ (q : Nat) (R : Option Addr) (c8 : Nat), q ≤ 8 ∧ i = .int .i64 q ∧ o = .slice R (4 * q) c8 ∧ Own wr w6.heap.size 5 R (4 * q) c8 (sumAt V) ∧ Below w6.heap.size w6 wr) (fun _ i _ => 8 - (intOf i).toNat)
          case atStart => exact ⟨0, none, 0, Nat.zero_le _, rfl, rfl, Own.nil _ _ _ _, Below.refl _ _⟩
          case round =>
            obtain ⟨q, R, c8, hq, rfl, rfl, hown, hbel⟩ := hrel
            have HR := Lib.hid hown
            have HBR := Lib.hid hbel
            have hszr := hbel.size
            clear hown hbel
            by_cases hlt : q < 8
            · have hc1 := (HBR.out.cell (p := ⟨g6, q, none⟩) hg6).trans (HC6.out q hlt)
              have hv := HFV.out q
              have HE := Lib.hid (sum_snoc V q)
              have i1 : (q : Int) < 8 := by omega
              generalize V.getD q 0 = v at hc1 hv HE
              go_wp2_with fail
              refine (Ref.bytes_any v 4 (by omega) (by omega) _).mono ?_
              rintro e w7 ⟨A7, c7, rfl, ho7, hb7⟩
              obtain ⟨g7, rfl, _, _⟩ := owns_some ho7 (by omega)
              have hsz7 : w6.heap.size ≤ w7.heap.size := Nat.le_trans hszr hb7.size
              have HO7 := Lib.hid (owns_below HR.out hb7 (Nat.le_refl _))
              have HL7 := Lib.hid (HBR.out.trans (hb7.mono hszr))
              have HS7 := Lib.hid (World.ownsRow.cells ho7 (g := g7) rfl)
              clear ho7 hb7
              go_wp2_with (first
                | (at_builtin; refine wpList_cat rfl _ _ 22 5 (.int .u8 0) 1 Tryd.underlying22 info_u8 rfl rfl rfl HO7.out HL7.out hsz7 _ 4 c7 rfl (byteCells (byteAt v) 4) (byteCells_length _ _) HS7.out (bytes_each _ _) (by omega) (by omega) ?_; intro A' c'' w8 hown2 hbel2 hsz2 _; rw [HE.out, show 4 * q + 4 = 4 * (q + 1) by omega] at hown2; rw [show 4 * q + 4 = 4 * (q + 1) by omega]; have HO8 := Lib.hid hown2; have HL8 := Lib.hid hbel2; clear hown2 hbel2))
              go_roundw
              case rel => exact ⟨q + 1, A', c'', by omega, by go_num, rfl, HO8.out, HL8.out⟩
              case measure => simp [intOf]; omega
            · obtain rfl : q = 8 := by omega
              obtain ⟨gR, rfl, hgR, _⟩ := owns_some HR.out (by omega)
              have HFR := Lib.hid (show Fresh w (some ⟨gR, 0, none⟩) from fun a e => by cases e; exact Nat.le_trans hsz6 hgR)
              have hcR := own_le_cap HR.out
              have HRD := Lib.hid (rd_front HR.out.rd size (by omega))
              have i8 : (size : Int) ≤ (c8 : Int) := by omega
              go_wp2_with fail
              go_ret2
              rw [HDG.out]
              exact ⟨_, _, rfl, HRD.out, HB6.out.trans (HBR.out.mono hsz6), HFR.out⟩

set_option maxRecDepth 100000 in
set_option maxHeartbeats 8000000 in
theorem sum_ref_key (size : Nat) (A A2 : Option Addr) (k c n c2 : Nat) (key f : Nat → Nat) (hs1 : 1 ≤ size) (hs2 : size ≤ 32) (hk : k ≤ 32) (hk0 : 0 < k) (hkey : ∀ i, key i < 256) (hf : ∀ i, f i < 256) (hn : n ≤ 900000) (w : World) (hA : Src w A k c key) (hA2 : Src w A2 n c2 f) :
    Calls Tryd.prog 6 #[.int .i64 size, .slice A k c, .slice A2 n c2] w fun e w' => ∃ A' c', e = .returned (.tuple #[.slice A' size c', .int .i64 0]) ∧ Rd w' A' size (digest size key k f n) ∧ Below w.heap.size w w' ∧ Fresh w A' := by
  have HA := Lib.hid hA
  have HA2 := Lib.hid hA2
  have HK := Lib.hid hkey
  have HF := Lib.hid hf
  clear hA hA2 hkey hf
  have d1 : decide ((size : Int) < 1) = false := decide_eq_false (by omega)
  have d2 : decide ((32 : Int) < (size : Int)) = false := decide_eq_false (by omega)
  have d3 : decide ((32 : Int) < (k : Int)) = false := decide_eq_false (by omega)
  have d4 : decide (0 < k) = true := decide_eq_true (by omega)
  have HX := Lib.hid (xor_first size k hs2 hk)
  have HS0 := Lib.hid (show (firstL size k).length = 8 ∧ Fits (firstL size k) from ⟨firstL_length size k, firstL_fits size k hs2 hk⟩)
  have HFI := Lib.hid (first_is size k)
  have HD := Lib.hid (show digest size key k f n = sumAt (finalL (firstL size k) (withKey key k f) (keyLen k + n)) from rfl)
  have HT := Lib.hid (withKey_lt HK.out HF.out k)
  have HKL := Lib.hid (show keyLen k = 64 by unfold keyLen; rw [if_neg (by omega)])
  have HWK := Lib.hid (show ∀ i, i < 64 + n → withKey key k f i = if i < 64 then upTo key k i else f (i - 64) from fun i _ => by unfold withKey; rw [if_neg (by omega)])
  clear hk0
  go_enter Tryd.func6, Tryd.ntmps6
  go_wp2_with fail
  refine (eight_ref _).mono ?_
  rintro e w1 ⟨g, rfl, ho, hb⟩
  have c0 := ho.cellW 0 (by decide)
  have f0 := ho.freeW 0
  have HO1 := Lib.hid ho
  have HB1 := Lib.hid hb
  clear ho hb
  rw [show eight.getD 0 0 = 1779033703 from rfl] at c0
  generalize ((1779033703 : Nat) : Int) = x0 at c0 HX
  go_wp2_with fail
  rw [HX.out]
  have ho := HO1.out.put0 0 (by decide) (1779033703 ^^^ (16842752 + 256 * k + size))
  rw [HFI.out] at ho
  refine cut_call (fun X => OwnW X w.heap.size g 8 (firstL size k) ∧ Below w.heap.size w X) ⟨ho, HB1.out.setCell HO1.out.ge _⟩ ?_
  clear ho HO1 HB1 HX HFI c0 f0
  rintro w2 ⟨ho, hb⟩
  have HO2 := Lib.hid ho
  have HB2 := Lib.hid hb
  have hlt2 := ho.lt
  clear ho hb
  generalize firstL size k = S0 at HO2 HS0 HD
  refine (copy_ref A2 n c2 f (by omega) _ (src_below HA2.out HB2.out)).mono ?_
  rintro e w0 ⟨AC, cd, rfl, ho, hb⟩
  have hsz2 := HB2.out.size
  have HO0 := Lib.hid (HO2.out.below hb hlt2)
  have HB0 := Lib.hid (HB2.out.trans (hb.mono hsz2))
  have HA0 := Lib.hid ho
  clear ho hb HO2 HB2 HA2
  go_wp2_with fail
  refine (filled_ref A k c key (by omega) _ (src_below HA.out HB0.out)).mono ?_
  rintro e w4 ⟨A4, c4, rfl, ho, hb⟩
  have hlt0 := HO0.out.lt
  have hsz0 := HB0.out.size
  have hszb := hb.size
  have HSA := Lib.hid (src_own (HA0.out.below hb (Nat.le_refl _)))
  have HA4 := Lib.hid ho
  have HB4 := Lib.hid hb
  clear ho hb HA HA0
  go_wp2_with (first
    | (at_builtin; refine wpList_catFrom rfl _ _ 22 5 (.int .u8 0) 1 Tryd.underlying22 info_u8 rfl rfl rfl HA4.out HB4.out hszb n cd AC rfl HSA.out (by omega) (by omega) HWK.out ?_; intro AA cc w3 ho hb hsz3 _ _; have HALL := Lib.hid ho; have HO3 := Lib.hid (HO0.out.below hb hlt0); have HB3 := Lib.hid (HB0.out.trans (hb.mono hsz0)); clear ho hb))
  clear HA4 HB4 HSA HO0 HB0 HK HF
  obtain ⟨N, hN⟩ : ∃ N, 64 + n = N := ⟨_, rfl⟩
  rw [show keyLen k + n = N by rw [HKL.out]; omega] at HD
  rw [hN] at HALL ⊢
  have hNl : N ≤ 1000000 := by omega
  clear hN
  generalize withKey key k f = T at HALL HD HT HWK
  clear HWK HKL

  obtain ⟨BL, hBL⟩ : ∃ BL, Chain S0 T N BL := ⟨_, chain_is HS0.out.1 HS0.out.2 T N⟩
  have HBL := Lib.hid hBL
  clear hBL
  have hszw := HB3.out.size

  go_loopw [8, 10] (fun h i wr => ∃ (j p g' c' : Nat), p = 64 * j ∧ i = .int .i64 p ∧ h = .slice (some ⟨g', 0, none⟩) 8 c' ∧ (j = 0 ∨ p < N) ∧ OwnW wr w.heap.size g' c' (BL j) ∧ Below w3.heap.size w3 wr) (fun _ i _ => N - (intOf i).toNat)
  case atStart => exact ⟨0, 0, g, 8, rfl, rfl, rfl, .inl rfl, by rw [HBL.out.zero]; exact HO3.out, Below.refl _ _⟩
  case round =>
    obtain ⟨j, p, g', c', hpj, rfl, rfl, hj, hown, hbel⟩ := hrel
    have HH := Lib.hid hown
    have HBW := Lib.hid hbel
    have HB := Lib.hid (HB3.out.trans (hbel.mono hszw))
    have HAL := Lib.hid (HALL.out.below hbel (Nat.le_refl _))
    have hszr := hbel.size
    clear hown hbel
    by_cases hlt : p + 64 < N
    · obtain ⟨ga, rfl, hga, hga'⟩ := owns_some HAL.out (by omega)
      have hcap := own_le_cap HAL.out
      have hN9 : (64 : Int) < (N : Int) - (p : Int) := by omega
      have i1 : (p : Int) + 64 ≤ (cc : Int) := by omega
      have i2 : ¬ cc = p := by omega
      have i3 : (p : Int) + 64 ≤ (N : Int) := by omega
      have i5 : ((p : Int) + 64).toNat - p = 64 := by omega
      have HCA := Lib.hid (fun i (hi : i < 64) => show wr.cell? ⟨ga, p + i, none⟩ = some (.int .u8 (T (64 * j + i) : Nat)) by
        rcases HAL.out.rd with h | ⟨b, o, e, _, hc⟩
        · omega
        · injection e with e
          injection e with e1 e2
          have := hc (p + i) (by omega)
          rw [← e1, ← e2, Nat.zero_add] at this
          rw [← hpj]
          exact this)
      have HPJ := Lib.hid hpj
      have HSU := Lib.hid (HBL.out.succ j)
      have HFJ := Lib.hid (HBL.out.fits j (by omega))
      have HLJ := Lib.hid (HBL.out.len j)
      clear hpj
      go_wp2_with fail
      rw [show (p : Int) + 64 = ((p + 64 : Nat) : Int) by omega]
      refine (take_ref g' c' ga p (cc - p) (p + 64) (BL j) (fun i => T (64 * j + i)) false HLJ.out HFJ.out (fun i => HT.out _) (by omega) (by omega) _ HH.out.lt hga' (fun i hi => HH.out.cellW i (by rw [HLJ.out]; exact hi)) HCA.out).mono ?_
      rintro e w6 ⟨g6, c6, rfl, o6, b6⟩
      rw [show p + 64 = 64 * (j + 1) by rw [HPJ.out]; omega, ← HSU.out] at o6
      have HH6 := Lib.hid (OwnW.lower o6 HB.out.size)
      have HB6 := Lib.hid (HBW.out.trans (b6.mono hszr))
      clear o6 b6 HH HB HBW HAL HCA
      go_wp2_with fail
      go_roundw
      case rel => exact ⟨j + 1, p + 64, g6, c6, by rw [HPJ.out]; omega, by go_num, rfl, .inr hlt, HH6.out, HB6.out⟩
      case measure => simp [intOf]; omega
    · have hja : j = Blake.ahead N := by
        unfold Blake.ahead
        omega
      have hN9 : ¬ (64 : Int) < (N : Int) - (p : Int) := by omega
      have HCH := Lib.hid (show (BL (Blake.ahead N)).length = 8 ∧ Fits (BL (Blake.ahead N)) from ⟨HBL.out.len _, HBL.out.fits _ (by unfold Blake.ahead; omega)⟩)
      have HLAST := Lib.hid HBL.out.last
      have hpN : p ≤ N := by omega
      have HPJ := Lib.hid (show ∀ i, upTo (fun i => T (64 * Blake.ahead N + i)) (N - 64 * Blake.ahead N) i = upTo (fun i => T (p + i)) (N - p) i from fun i => by rw [hpj, hja])
      rw [hja] at HH
      have hz : N ≤ p → p = 0 := by omega
      clear hpj hja hj HBL
      rcases HAL.out.2 with ⟨e0, z0⟩ | ⟨b0, cap0, cur0, e0, hb0, hh0, hr0, _⟩
      · injection e0 with e1 e2 e3
        subst e1
        subst e2
        subst e3
        obtain rfl : p = 0 := by omega
        clear z0 hz hN9 hlt
        go_wp2_with fail
        refine (filled_ref none 0 0 (fun i => T (0 + i)) (by omega) _ (.inl ⟨rfl, rfl, rfl⟩)).mono ?_
        rintro e w5 ⟨AF, cF, rfl, oF, bF⟩
        obtain ⟨gF, rfl, hgF, hgF'⟩ := owns_some oF (by omega)
        have hcF := own_le_cap oF
        have hcellF : ∀ i, i < 64 → w5.cell? ⟨gF, 0 + i, none⟩ = some (.int .u8 (upTo (fun i => T (0 + i)) 0 i : Nat)) := fun i hi => by
          rcases oF.rd with h | ⟨b, o, e, _, hc⟩
          · omega
          · injection e with e
            injection e with e1 e2
            have := hc i hi
            rw [← e1, ← e2] at this
            exact this
        have HHF := Lib.hid (HH.out.below bF HH.out.lt)
        have HBF := Lib.hid (HB.out.trans (bF.mono HB.out.size))
        have HCF := Lib.hid hcellF
        have hszF := bF.size
        clear oF bF hcellF HH HB
        go_wp2_with fail
        refine (take_ref g' c' gF 0 cF 0 (BL (Blake.ahead 0)) (upTo (fun i => T (64 * Blake.ahead 0 + i)) (0 - 64 * Blake.ahead 0)) true HCH.out.1 HCH.out.2 (fun i => by unfold upTo; split; exact HT.out _; omega) (by omega) hcF _ HHF.out.lt hgF' (fun i hi => HHF.out.cellW i (by rw [HCH.out.1]; exact hi)) (fun i hi => by rw [HPJ.out]; exact HCF.out i hi)).mono ?_
        rintro e w6 ⟨g6, c6, rfl, o6, b6⟩
        rw [HLAST.out] at o6
        have h8 := finalL_length S0 T 0
        have hfF := finalL_fits HS0.out.2 T 0 (by omega)
        have HB6 := Lib.hid (HBF.out.trans (b6.mono HBF.out.size))
        have hg6 := o6.lt
        have hc6 := fun i (hi : i < 8) => o6.cellW i (by rw [h8]; exact hi)
        have HDG := Lib.hid (show digest size key k f n = sumAt (finalL S0 T 0) from HD.out)
        generalize finalL S0 T 0 = V at hc6 hfF HDG
        have HC6 := Lib.hid hc6
        have HFV := Lib.hid hfF
        have hsz6 := HB6.out.size
        clear o6 b6 hc6 hfF HHF HBF HCF h8 HCH HPJ HLAST
        go_wp2_with fail
        go_loopw [11, 12] (fun o i wr => ∃ (q : Nat) (R : Option Addr) (c8 : Nat), q ≤ 8 ∧ i = .int .i64 q ∧ o = .slice R (4 * q) c8 ∧ Own wr w6.heap.size 5 R (4 * q) c8 (sumAt V) ∧ Below w6.heap.size w6 wr) (fun _ i _ => 8 - (intOf i).toNat)
        case atStart => exact ⟨0, none, 0, Nat.zero_le _, rfl, rfl, Own.nil _ _ _ _, Below.refl _ _⟩
        case round =>
          obtain ⟨q, R, c8, hq, rfl, rfl, hown, hbel⟩ := hrel
          have HR := Lib.hid hown
          have HBR := Lib.hid hbel
          have hszr := hbel.size
          clear hown hbel
          by_cases hlt : q < 8
          · have hc1 := (HBR.out.cell (p := ⟨g6, q, none⟩) hg6).trans (HC6.out q hlt)
            have hv := HFV.out q
            have HE := Lib.hid (sum_snoc V q)
            have i1 : (q : Int) < 8 := by omega
            generalize V.getD q 0 = v at hc1 hv HE
            go_wp2_with fail
            refine (Ref.bytes_any v 4 (by omega) (by omega) _).mono ?_
            rintro e w7 ⟨A7, c7, rfl, ho7, hb7⟩
            obtain ⟨g7, rfl, _, _⟩ := owns_some ho7 (by omega)
            have hsz7 : w6.heap.size ≤ w7.heap.size := Nat.le_trans hszr hb7.size
            have HO7 := Lib.hid (owns_below HR.out hb7 (Nat.le_refl _))
            have HL7 := Lib.hid (HBR.out.trans (hb7.mono hszr))
            have HS7 := Lib.hid (World.ownsRow.cells ho7 (g := g7) rfl)
            clear ho7 hb7
            go_wp2_with (first
              | (at_builtin; refine wpList_cat rfl _ _ 22 5 (.int .u8 0) 1 Tryd.underlying22 info_u8 rfl rfl rfl HO7.out HL7.out hsz7 _ 4 c7 rfl (byteCells (byteAt v) 4) (byteCells_length _ _) HS7.out (bytes_each _ _) (by omega) (by omega) ?_; intro A' c'' w8 hown2 hbel2 hsz2 _; rw [HE.out, show 4 * q + 4 = 4 * (q + 1) by omega] at hown2; rw [show 4 * q + 4 = 4 * (q + 1) by omega]; have HO8 := Lib.hid hown2; have HL8 := Lib.hid hbel2; clear hown2 hbel2))
            go_roundw
            case rel => exact ⟨q + 1, A', c'', by omega, by go_num, rfl, HO8.out, HL8.out⟩
            case measure => simp [intOf]; omega
          · obtain rfl : q = 8 := by omega
            obtain ⟨gR, rfl, hgR, _⟩ := owns_some HR.out (by omega)
            have HFR := Lib.hid (show Fresh w (some ⟨gR, 0, none⟩) from fun a e => by cases e; exact Nat.le_trans hsz6 hgR)
            have hcR := own_le_cap HR.out
            have HRD := Lib.hid (rd_front HR.out.rd size (by omega))
            have i8 : (size : Int) ≤ (c8 : Int) := by omega
            go_wp2_with fail
            go_ret2
            rw [HDG.out]
            exact ⟨_, _, rfl, HRD.out, HB6.out.trans (HBR.out.mono hsz6), HFR.out⟩
      · injection e0 with e1 e2 e3
        subst e1
        subst e3
        have hlt0 : b0 < wr.heap.size := by
          rcases Nat.lt_or_ge b0 wr.heap.size with h | h
          · exact h
          · simp [Array.getElem?_eq_none h] at hh0
        have HSR := Lib.hid (fun i (hi : i < N - p) => show wr.cell? ⟨b0, p + i, none⟩ = some (.int .u8 (T (p + i) : Nat)) by
          rcases HAL.out.rd with h | ⟨b, o, e, _, hc⟩
          · omega
          · injection e with e
            injection e with e1 e2
            have := hc (p + i) (by omega)
            rw [← e1, ← e2, Nat.zero_add] at this
            exact this)
        clear hh0 hb0 HAL
        by_cases hcap : cc = p
        · obtain rfl : p = 0 := hz (by omega)
          obtain rfl : cc = 0 := hcap
          obtain rfl : N = 0 := by omega
          clear hz hN9 hlt HSR
          go_wp2_with fail
          refine (filled_ref (some ⟨b0, 0, none⟩) 0 0 (fun i => T (0 + i)) (by omega) _ (.inr ⟨_, rfl, fun j v hj => by simp [byteCells] at hj⟩)).mono ?_
          rintro e w5 ⟨AF, cF, rfl, oF, bF⟩
          obtain ⟨gF, rfl, hgF, hgF'⟩ := owns_some oF (by omega)
          have hcF := own_le_cap oF
          have hcellF : ∀ i, i < 64 → w5.cell? ⟨gF, 0 + i, none⟩ = some (.int .u8 (upTo (fun i => T (0 + i)) 0 i : Nat)) := fun i hi => by
            rcases oF.rd with h | ⟨b, o, e, _, hc⟩
            · omega
            · injection e with e
              injection e with e1 e2
              have := hc i hi
              rw [← e1, ← e2] at this
              exact this
          have HHF := Lib.hid (HH.out.below bF HH.out.lt)
          have HBF := Lib.hid (HB.out.trans (bF.mono HB.out.size))
          have HCF := Lib.hid hcellF
          have hszF := bF.size
          clear oF bF hcellF HH HB
          go_wp2_with fail
          refine (take_ref g' c' gF 0 cF 0 (BL (Blake.ahead 0)) (upTo (fun i => T (64 * Blake.ahead 0 + i)) (0 - 64 * Blake.ahead 0)) true HCH.out.1 HCH.out.2 (fun i => by unfold upTo; split; exact HT.out _; omega) (by omega) hcF _ HHF.out.lt hgF' (fun i hi => HHF.out.cellW i (by rw [HCH.out.1]; exact hi)) (fun i hi => by rw [HPJ.out]; exact HCF.out i hi)).mono ?_
          rintro e w6 ⟨g6, c6, rfl, o6, b6⟩
          rw [HLAST.out] at o6
          have h8 := finalL_length S0 T 0
          have hfF := finalL_fits HS0.out.2 T 0 (by omega)
          have HB6 := Lib.hid (HBF.out.trans (b6.mono HBF.out.size))
          have hg6 := o6.lt
          have hc6 := fun i (hi : i < 8) => o6.cellW i (by rw [h8]; exact hi)
          have HDG := Lib.hid (show digest size key k f n = sumAt (finalL S0 T 0) from HD.out)
          generalize finalL S0 T 0 = V at hc6 hfF HDG
          have HC6 := Lib.hid hc6
          have HFV := Lib.hid hfF
          have hsz6 := HB6.out.size
          clear o6 b6 hc6 hfF HHF HBF HCF h8 HCH HPJ HLAST
          go_wp2_with fail
          go_loopw [11, 12] (fun o i wr => ∃ (q : Nat) (R : Option Addr) (c8 : Nat), q ≤ 8 ∧ i = .int .i64 q ∧ o = .slice R (4 * q) c8 ∧ Own wr w6.heap.size 5 R (4 * q) c8 (sumAt V) ∧ Below w6.heap.size w6 wr) (fun _ i _ => 8 - (intOf i).toNat)
          case atStart => exact ⟨0, none, 0, Nat.zero_le _, rfl, rfl, Own.nil _ _ _ _, Below.refl _ _⟩
          case round =>
            obtain ⟨q, R, c8, hq, rfl, rfl, hown, hbel⟩ := hrel
            have HR := Lib.hid hown
            have HBR := Lib.hid hbel
            have hszr := hbel.size
            clear hown hbel
            by_cases hlt : q < 8
            · have hc1 := (HBR.out.cell (p := ⟨g6, q, none⟩) hg6).trans (HC6.out q hlt)
              have hv := HFV.out q
              have HE := Lib.hid (sum_snoc V q)
              have i1 : (q : Int) < 8 := by omega
              generalize V.getD q 0 = v at hc1 hv HE
              go_wp2_with fail
              refine (Ref.bytes_any v 4 (by omega) (by omega) _).mono ?_
              rintro e w7 ⟨A7, c7, rfl, ho7, hb7⟩
              obtain ⟨g7, rfl, _, _⟩ := owns_some ho7 (by omega)
              have hsz7 : w6.heap.size ≤ w7.heap.size := Nat.le_trans hszr hb7.size
              have HO7 := Lib.hid (owns_below HR.out hb7 (Nat.le_refl _))
              have HL7 := Lib.hid (HBR.out.trans (hb7.mono hszr))
              have HS7 := Lib.hid (World.ownsRow.cells ho7 (g := g7) rfl)
              clear ho7 hb7
              go_wp2_with (first
                | (at_builtin; refine wpList_cat rfl _ _ 22 5 (.int .u8 0) 1 Tryd.underlying22 info_u8 rfl rfl rfl HO7.out HL7.out hsz7 _ 4 c7 rfl (byteCells (byteAt v) 4) (byteCells_length _ _) HS7.out (bytes_each _ _) (by omega) (by omega) ?_; intro A' c'' w8 hown2 hbel2 hsz2 _; rw [HE.out, show 4 * q + 4 = 4 * (q + 1) by omega] at hown2; rw [show 4 * q + 4 = 4 * (q + 1) by omega]; have HO8 := Lib.hid hown2; have HL8 := Lib.hid hbel2; clear hown2 hbel2))
              go_roundw
              case rel => exact ⟨q + 1, A', c'', by omega, by go_num, rfl, HO8.out, HL8.out⟩
              case measure => simp [intOf]; omega
            · obtain rfl : q = 8 := by omega
              obtain ⟨gR, rfl, hgR, _⟩ := owns_some HR.out (by omega)
              have HFR := Lib.hid (show Fresh w (some ⟨gR, 0, none⟩) from fun a e => by cases e; exact Nat.le_trans hsz6 hgR)
              have hcR := own_le_cap HR.out
              have HRD := Lib.hid (rd_front HR.out.rd size (by omega))
              have i8 : (size : Int) ≤ (c8 : Int) := by omega
              go_wp2_with fail
              go_ret2
              rw [HDG.out]
              exact ⟨_, _, rfl, HRD.out, HB6.out.trans (HBR.out.mono hsz6), HFR.out⟩
        · have i1 : (p : Int) ≤ (N : Int) := by omega
          have i2 : (p : Int) ≤ (cc : Int) := by omega
          have i3 : p ≤ cc := by omega
          clear hz
          go_wp2_with fail
          refine (filled_ref (some ⟨b0, p, none⟩) (N - p) (cc - p) (fun i => T (p + i)) (by omega) _ (.inr ⟨_, rfl, rd_src HSR.out⟩)).mono ?_
          rintro e w5 ⟨AF, cF, rfl, oF, bF⟩
          obtain ⟨gF, rfl, hgF, hgF'⟩ := owns_some oF (by omega)
          have hcF := own_le_cap oF
          have hcellF : ∀ i, i < 64 → w5.cell? ⟨gF, 0 + i, none⟩ = some (.int .u8 (upTo (fun i => T (p + i)) (N - p) i : Nat)) := fun i hi => by
            rcases oF.rd with h | ⟨b, o, e, _, hc⟩
            · omega
            · injection e with e
              injection e with e1 e2
              have := hc i hi
              rw [← e1, ← e2] at this
              exact this
          have HHF := Lib.hid (HH.out.below bF HH.out.lt)
          have HBF := Lib.hid (HB.out.trans (bF.mono HB.out.size))
          have HCF := Lib.hid hcellF
          have hszF := bF.size
          clear oF bF hcellF HH HB
          go_wp2_with fail
          refine (take_ref g' c' gF 0 cF N (BL (Blake.ahead N)) (upTo (fun i => T (64 * Blake.ahead N + i)) (N - 64 * Blake.ahead N)) true HCH.out.1 HCH.out.2 (fun i => by unfold upTo; split; exact HT.out _; omega) (by omega) hcF _ HHF.out.lt hgF' (fun i hi => HHF.out.cellW i (by rw [HCH.out.1]; exact hi)) (fun i hi => by rw [HPJ.out]; exact HCF.out i hi)).mono ?_
          rintro e w6 ⟨g6, c6, rfl, o6, b6⟩
          rw [HLAST.out] at o6
          have h8 := finalL_length S0 T N
          have hfF := finalL_fits HS0.out.2 T N (by omega)
          have HB6 := Lib.hid (HBF.out.trans (b6.mono HBF.out.size))
          have hg6 := o6.lt
          have hc6 := fun i (hi : i < 8) => o6.cellW i (by rw [h8]; exact hi)
          have HDG := Lib.hid (show digest size key k f n = sumAt (finalL S0 T N) from HD.out)
          generalize finalL S0 T N = V at hc6 hfF HDG
          have HC6 := Lib.hid hc6
          have HFV := Lib.hid hfF
          have hsz6 := HB6.out.size
          clear o6 b6 hc6 hfF HHF HBF HCF h8 HCH HPJ HLAST
          go_wp2_with fail
          go_loopw [11, 12] (fun o i wr => ∃ (q : Nat) (R : Option Addr) (c8 : Nat), q ≤ 8 ∧ i = .int .i64 q ∧ o = .slice R (4 * q) c8 ∧ Own wr w6.heap.size 5 R (4 * q) c8 (sumAt V) ∧ Below w6.heap.size w6 wr) (fun _ i _ => 8 - (intOf i).toNat)
          case atStart => exact ⟨0, none, 0, Nat.zero_le _, rfl, rfl, Own.nil _ _ _ _, Below.refl _ _⟩
          case round =>
            obtain ⟨q, R, c8, hq, rfl, rfl, hown, hbel⟩ := hrel
            have HR := Lib.hid hown
            have HBR := Lib.hid hbel
            have hszr := hbel.size
            clear hown hbel
            by_cases hlt : q < 8
            · have hc1 := (HBR.out.cell (p := ⟨g6, q, none⟩) hg6).trans (HC6.out q hlt)
              have hv := HFV.out q
              have HE := Lib.hid (sum_snoc V q)
              have i1 : (q : Int) < 8 := by omega
              generalize V.getD q 0 = v at hc1 hv HE
              go_wp2_with fail
              refine (Ref.bytes_any v 4 (by omega) (by omega) _).mono ?_
              rintro e w7 ⟨A7, c7, rfl, ho7, hb7⟩
              obtain ⟨g7, rfl, _, _⟩ := owns_some ho7 (by omega)
              have hsz7 : w6.heap.size ≤ w7.heap.size := Nat.le_trans hszr hb7.size
              have HO7 := Lib.hid (owns_below HR.out hb7 (Nat.le_refl _))
              have HL7 := Lib.hid (HBR.out.trans (hb7.mono hszr))
              have HS7 := Lib.hid (World.ownsRow.cells ho7 (g := g7) rfl)
              clear ho7 hb7
              go_wp2_with (first
                | (at_builtin; refine wpList_cat rfl _ _ 22 5 (.int .u8 0) 1 Tryd.underlying22 info_u8 rfl rfl rfl HO7.out HL7.out hsz7 _ 4 c7 rfl (byteCells (byteAt v) 4) (byteCells_length _ _) HS7.out (bytes_each _ _) (by omega) (by omega) ?_; intro A' c'' w8 hown2 hbel2 hsz2 _; rw [HE.out, show 4 * q + 4 = 4 * (q + 1) by omega] at hown2; rw [show 4 * q + 4 = 4 * (q + 1) by omega]; have HO8 := Lib.hid hown2; have HL8 := Lib.hid hbel2; clear hown2 hbel2))
              go_roundw
              case rel => exact ⟨q + 1, A', c'', by omega, by go_num, rfl, HO8.out, HL8.out⟩
              case measure => simp [intOf]; omega
            · obtain rfl : q = 8 := by omega
              obtain ⟨gR, rfl, hgR, _⟩ := owns_some HR.out (by omega)
              have HFR := Lib.hid (show Fresh w (some ⟨gR, 0, none⟩) from fun a e => by cases e; exact Nat.le_trans hsz6 hgR)
              have hcR := own_le_cap HR.out
              have HRD := Lib.hid (rd_front HR.out.rd size (by omega))
              have i8 : (size : Int) ≤ (c8 : Int) := by omega
              go_wp2_with fail
              go_ret2
              rw [HDG.out]
              exact ⟨_, _, rfl, HRD.out, HB6.out.trans (HBR.out.mono hsz6), HFR.out⟩

theorem sum_ref (size : Nat) (A A2 : Option Addr) (k c n c2 : Nat) (key f : Nat → Nat) (hs1 : 1 ≤ size) (hs2 : size ≤ 32) (hk : k ≤ 32) (hkey : ∀ i, key i < 256) (hf : ∀ i, f i < 256) (hn : n ≤ 900000) (w : World) (hA : Src w A k c key) (hA2 : Src w A2 n c2 f) :
    Calls Tryd.prog 6 #[.int .i64 size, .slice A k c, .slice A2 n c2] w fun e w' => ∃ A' c', e = .returned (.tuple #[.slice A' size c', .int .i64 0]) ∧ Rd w' A' size (digest size key k f n) ∧ Below w.heap.size w w' ∧ Fresh w A' := by
  rcases Nat.eq_zero_or_pos k with h | h
  · exact sum_ref_zero size A A2 k c n c2 key f hs1 hs2 hk h hkey hf hn w hA hA2
  · exact sum_ref_key size A A2 k c n c2 key f hs1 hs2 hk h hkey hf hn w hA hA2

end RefB
end Go.Proofs.YtcoppcididemkaaDoor
