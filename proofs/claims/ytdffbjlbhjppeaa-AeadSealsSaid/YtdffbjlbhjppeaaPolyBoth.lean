/- The call Both of package poly: the mark of parts that are filled up. -/
import Derived.Test.YtdffbjlbhjppeaaPolySum
namespace Go.Proofs.Ytdffbjlbhjppeaa
namespace Poly
open Go.ChangeShapes Go.WideShapes Go.ChangeAt Go.RowKit
open Num Mem Words PolyN Chacha Quiet

/-- parts: a row of slices of bytes, each reading as a function -/
structure Parts where
  A : Nat → Option Addr
  n : Nat → Nat
  c : Nat → Nat
  f : Nat → Nat → Nat
/-- what is told of k parts at P -/
def Parts.In (p : Parts) (w : World) (P : Option Addr) (k : Nat) : Prop :=
  (∀ i, i < k → Rd w (p.A i) (p.n i) (p.f i) ∧ p.n i ≤ p.c i ∧ p.n i ≤ 1000000) ∧ (∀ i j, p.f i j < 256) ∧ (k = 0 ∨ ∃ b off, P = some ⟨b, off, none⟩ ∧ b < w.heap.size ∧ ∀ i, i < k → w.cell? ⟨b, off + i, none⟩ = some (.slice (p.A i) (p.n i) (p.c i)))
/-- the parts' number -/
def macs (R : Nat) (p : Parts) : Nat → Nat
  | 0 => 0
  | k + 1 => mac R true (macs R p k) (p.f k) (p.n k)

set_option maxRecDepth 100000 in
theorem both_any (key : Nat → Nat) (hk : ∀ i, key i < 256) (P : Option Addr) (K c : Nat) (p : Parts) (hK : K ≤ 1000000) (w : World) (hP : p.In w P K) :
    Calls Try.prog 19 #[.agg (byteCells key 32).toArray, .slice P K c] w fun e w' => e = .returned (.agg (byteCells (tag (macs (rk key) p K) key) 16).toArray) ∧ Below w.heap.size w w' := by
  have HK := Lib.hid hk
  have HP := Lib.hid hP
  clear hk hP
  rw [byteCells_lit32]
  go_enter Try.func19, Try.ntmps19
  go_upto_region 1 with fail
  refine cut_world (fun W => Whole W w.heap.size 22 (byteCells key 32).toArray ∧ Whole W (w.heap.size + 1) 25 (byteCells (fun _ => 0) 16).toArray ∧ Below w.heap.size w W) ⟨?_, ?_, ?_⟩ ?_
  · rw [byteCells_lit32]
    exact (whole_new _ _ rfl).alloc _
  · exact whole_new _ _ (by simp)
  · exact below_alloc (below_alloc (Below.refl _ _) _) _
  rintro W ⟨k1, k2, kb⟩
  have K1 := Lib.hid k1
  have K2 := Lib.hid k2
  have KB := Lib.hid kb
  have hl2 := k2.lt
  clear k1 k2 kb
  generalize hB : w.heap.size = B at K1 K2 KB hl2 ⊢
  go_wp2_with (refine wpList_load_row rfl 22 (.tmp 2) rfl B rfl 22 (byteCells key 32).toArray (0, 0) _ K1.out rfl rfl (by kernel_rfl) ?_)
  refine (begin_any key HK.out _).mono ?_
  rintro e w1 ⟨rfl, hb⟩
  have L1 := Lib.hid (K1.out.below hb K1.out.lt)
  have L2 := Lib.hid (K2.out.below hb K2.out.lt)
  have LB := Lib.hid (KB.out.trans (hb.mono (by omega)))
  have hl3 := hb.size
  clear hb K1 K2 KB
  go_upto_region 2 with (refine wpList_store_row rfl 63 (.tmp 5) (.tmp 10) rfl w1.heap.size (qcells (mk2 (fac key) (fun _ => 0)) 10).toArray rfl rfl 63 _ (Whole.new _ _ _) (by rw [qcells_size]; kernel_rfl) (by rw [qcells_size]; rfl) (qcells_one _ _) ?_)
  try simp only [Act.put]
  refine cut_world (SumW w B w1.heap.size key 0) ⟨?_, ?_, ?_, ?_, ?_⟩ ?_
  · exact (setRow_other _ _ B _ (by omega)).trans (L1.out.alloc _)
  · exact (setRow_other _ _ (B + 1) _ (by omega)).trans (L2.out.alloc _)
  · exact at_begin (setRow_heap _ _ _ _ _ _ (Whole.new _ _ _))
  · omega
  · exact below_setRow (LB.out.alloc (by omega) _) (by omega) _
  rintro W2 hW
  have HW := Lib.hid hW
  have hG : B + 1 < w1.heap.size := by omega
  clear hW L1 L2 LB hl2 hl3
  generalize w1.heap.size = G at HW hG ⊢
  go_wp2_with fail
  go_loopw [7, 13] (fun _ i wr => ∃ k : Nat, k ≤ K ∧ i = .int .i64 k ∧ SumW w B G key (macs (rk key) p k) wr) (fun _ i _ => K - (intOf i).toNat)
  case atStart => exact ⟨0, by omega, rfl, HW.out⟩
  case round =>
    obtain ⟨k, hkK, rfl, hw⟩ := hrel
    have HW := Lib.hid hw
    by_cases hlk : k < K
    · obtain ⟨pb, po, rfl, hpb, hpc⟩ : ∃ b off, P = some ⟨b, off, none⟩ ∧ b < w.heap.size ∧ ∀ i, i < K → w.cell? ⟨b, off + i, none⟩ = some (.slice (p.A i) (p.n i) (p.c i)) := by
        rcases HP.out.2.2 with h | h
        · omega
        · exact h
      have hcell := (hw.2.2.2.2.cell (p := ⟨pb, po + k, none⟩) (by show pb < B; omega)).trans (hpc k hlk)
      have hpk := HP.out.1 k hlk
      have HPF := Lib.hid (HP.out.2.1 k)
      have HSTEP := Lib.hid (show macs (rk key) p (k + 1) = mac (rk key) true (macs (rk key) p k) (p.f k) (p.n k) from rfl)
      clear hw hpc
      obtain ⟨A0, hA0⟩ : ∃ x, p.A k = x := ⟨_, rfl⟩
      obtain ⟨n0, hn0⟩ : ∃ x, p.n k = x := ⟨_, rfl⟩
      obtain ⟨c0, hc0⟩ : ∃ x, p.c k = x := ⟨_, rfl⟩
      obtain ⟨f0, hf0⟩ : ∃ x, p.f k = x := ⟨_, rfl⟩
      obtain ⟨a0, ha0⟩ : ∃ x, macs (rk key) p k = x := ⟨_, rfl⟩
      rw [hA0, hn0, hc0] at hcell
      rw [hA0, hn0, hc0, hf0] at hpk
      rw [hf0] at HPF
      rw [hf0, hn0, ha0] at HSTEP
      rw [ha0] at HW
      obtain ⟨hr0, hnc0, hn0'⟩ := hpk
      have HR0 := Lib.hid hr0
      obtain ⟨T, hT⟩ : ∃ x, mac (rk key) true a0 f0 n0 = x := ⟨_, rfl⟩
      rw [hT] at HSTEP
      have HT := Lib.hid hT
      clear hA0 hn0 hc0 hf0 ha0 hr0 hT
      go_wp2_with fail
      go_loopw [7] (fun s wr => ∃ (A' : Option Addr) (m c' : Nat) (g : Nat → Nat) (a : Nat), s = .slice A' m c' ∧ m ≤ c' ∧ m ≤ n0 ∧ (∀ i, g i < 256) ∧ Rd w A' m g ∧ SumW w B G key a wr ∧ mac (rk key) true a g m = T) (fun s _ => lenOf s)
      case atStart => exact ⟨A0, n0, c0, f0, a0, rfl, hnc0, Nat.le_refl _, HPF.out, HR0.out, HW.out, HT.out⟩
      case round =>
        obtain ⟨A', m, c', g, a, rfl, hmc, hmn, hg, hr, hw, hmac⟩ := hrel
        have HG := Lib.hid hg
        have HR := Lib.hid hr
        have HW := Lib.hid hw
        clear hg hr hw
        by_cases hlt : 0 < m
        · obtain ⟨b, off, hAe, hbl, hcc⟩ : ∃ b off, A' = some ⟨b, off, none⟩ ∧ b < w.heap.size ∧ ∀ i, i < m → w.cell? ⟨b, off + i, none⟩ = some (.int .u8 (g i : Nat)) := by
            rcases HR.out with h | ⟨b, off, h1, h2, h3⟩
            · omega
            · exact ⟨b, off, h1, h2, h3⟩
          subst hAe
          rw [mac_step _ _ _ _ _ hlt] at hmac
          simp only [if_true] at hmac
          have HMAC := Lib.hid hmac
          have HCC := Lib.hid hcc
          have hrw : Rd wr (some ⟨b, off, none⟩) m g := HR.out.below HW.out.2.2.2.2 (by omega)
          have HRW := Lib.hid hrw
          clear hmac hcc hrw
          by_cases h16 : m ≤ 16
          · have e16 := Lib.hid (show min m 16 = m by omega)
            rw [e16.out, show m - 16 = 0 by omega, mac_zero] at HMAC
            go_wp2_with fail
            refine (at_add G key a (some ⟨b, off, none⟩) m c' 16 g HG.out h16 (Nat.le_refl _) _ HW.out.2.2.1 HRW.out).mono ?_
            rintro e w3 ⟨rfl, ha3, hg3⟩
            have HW3 := Lib.hid (sumw_add HW.out ha3 hg3)
            clear ha3 hg3
            by_cases hcap : c' = m
            · subst hcap
              go_wp2_with fail
              go_roundw
              case rel => exact ⟨_, 0, 0, g, _, rfl, by omega, by omega, HG.out, .inl rfl, HW3.out, by rw [mac_zero]; exact HMAC.out⟩
              case measure => simp [lenOf]; omega
            · go_wp2_with fail
              go_roundw
              case rel => exact ⟨_, 0, _, g, _, rfl, by omega, by omega, HG.out, .inl rfl, HW3.out, by rw [mac_zero]; exact HMAC.out⟩
              case measure => simp [lenOf]; omega
          · have e16 := Lib.hid (show min m 16 = 16 by omega)
            rw [e16.out] at HMAC
            have hcap : ¬ c' = 16 := by omega
            go_wp2_with fail
            refine (at_add G key a (some ⟨b, off, none⟩) 16 c' 16 g HG.out (Nat.le_refl _) (Nat.le_refl _) _ HW.out.2.2.1 (rd_front HRW.out 16 (by omega))).mono ?_
            rintro e w3 ⟨rfl, ha3, hg3⟩
            have HW3 := Lib.hid (sumw_add HW.out ha3 hg3)
            clear ha3 hg3
            go_wp2_with fail
            go_roundw
            case rel => exact ⟨_, m - 16, _, fun i => g (16 + i), _, rfl, by omega, by omega, fun i => HG.out _, .inr ⟨b, off + 16, rfl, hbl, fun i hi => by rw [Nat.add_assoc]; exact HCC.out (16 + i) (by omega)⟩, HW3.out, HMAC.out⟩
            case measure => simp [lenOf]; omega
        · obtain rfl : m = 0 := by omega
          rw [mac_zero] at hmac
          subst hmac
          go_wp2_with fail
          go_roundw
          case rel => exact ⟨k + 1, by omega, by go_num, by rw [HSTEP.out]; exact HW.out⟩
          case measure => simp [intOf]; omega
    · obtain rfl : k = K := by omega
      obtain ⟨q1, q2, q3, q4, q5⟩ := hw
      have Q1 := Lib.hid q1
      have Q2 := Lib.hid q2
      have Q3 := Lib.hid q3
      have Q5 := Lib.hid q5
      have hl1 := q1.lt
      have HZ16 := Lib.hid (show ∀ f, (byteCells f 16).toArray.size = 16 from fun f => by rw [List.size_toArray, byteCells_length])
      clear q1 q2 q3 q5 HW
      go_wp2_with (refine wpList_load_row rfl 22 (.tmp 2) rfl B rfl 22 (byteCells key 32).toArray (0, 0) _ Q1.out rfl rfl (by kernel_rfl) ?_)
      refine (at_end G key HK.out _ _ Q3.out).mono ?_
      rintro e w4 ⟨rfl, hb4⟩
      have L2 := Lib.hid (Q2.out.below hb4 Q2.out.lt)
      have LB := Lib.hid (Q5.out.trans (hb4.mono (by omega)))
      clear hb4 Q1 Q2 Q3 Q5
      generalize hS : tag (macs (rk key) p k) key = S at ⊢
      go_wp2_with (refine wpList_store_row rfl 25 (.tmp 4) (.tmp 32) rfl (B + 1) (byteCells S 16).toArray rfl rfl 25 _ L2.out (by rw [HZ16.out]; kernel_rfl) (by rw [HZ16.out, HZ16.out]) (bytes_one _ _) ?_)
      have hret : Whole (w4.setRow (B + 1) (byteCells S 16).toArray) (B + 1) 25 (byteCells S 16).toArray := setRow_heap w4 _ _ _ _ _ L2.out
      refine bodyPost_ret (results_cell_row rfl _ _ (B + 1) 25 _ (0, 0) _ rfl hret rfl rfl (by rw [HZ16.out]; kernel_rfl)) rfl ?_
      exact ⟨by rw [hS], by rw [hB]; exact below_setRow LB.out (by omega) _⟩

end Poly
end Go.Proofs.Ytdffbjlbhjppeaa
