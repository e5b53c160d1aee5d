/- The call Sum of package poly, at any key and any text. -/
import Derived.Test.YtdffbjlbhjppeaaMac
namespace Go.Proofs.Ytdffbjlbhjppeaa
namespace Poly
open Go.ChangeShapes Go.WideShapes Go.ChangeAt Go.RowKit
open Num Mem Words PolyN Chacha Quiet

/-- a mark on its way, in memory at block M: of the number a -/
def At (w : World) (M : Nat) (key : Nat → Nat) (a : Nat) : Prop :=
  ∃ h : Nat → Nat, Whole w M 63 (qcells (mk2 (fac key) h) 10).toArray ∧ (∀ i, i < 5 → h i < 67108869) ∧ (∀ i, 1 ≤ i → i < 5 → h i < 67108864) ∧ lv h 5 % P = a

theorem At.below {w w' : World} {M : Nat} {key : Nat → Nat} {a B : Nat} (h : At w M key a) (hb : Below B w w') (hB : M < B) : At w' M key a := by
  obtain ⟨x, h1, h2⟩ := h
  exact ⟨x, h1.below hb hB, h2⟩
theorem At.lt {w : World} {M : Nat} {key : Nat → Nat} {a : Nat} (h : At w M key a) : M < w.heap.size := by
  obtain ⟨x, h1, _⟩ := h
  exact h1.lt

theorem fac_lt (key : Nat → Nat) (i : Nat) : fac key i < 67108864 := sp_lt _ _

/-- a piece is taken in -/
theorem at_add (M : Nat) (key : Nat → Nat) (a : Nat) (A : Option Addr) (n c size : Nat) (f : Nat → Nat) (hf : ∀ i, f i < 256) (hn : n ≤ size) (hs : size ≤ 16) (w : World) (hw : At w M key a) (hA : Rd w A n f) :
    Calls Try.prog 34 #[.pointer (some ⟨M, 0, none⟩), .slice A n c, .int .i64 size] w fun e w' => e = .returned (.tuple #[]) ∧ At w' M key (stp (rk key) a (pn f n size)) ∧ w.grownBy w' (some M) := by
  obtain ⟨h, h1, h2, h3, h4⟩ := hw
  refine (add_any M (fac key) h (fun i _ => fac_lt key i) h2 A n c size f hf hn hs w h1 hA).mono ?_
  rintro e w' ⟨rfl, k1, k2⟩
  have hb : ∀ i, i < 5 → h i + sp (pce f n size) i < 268435456 := fun i hi => by
    have := h2 i hi
    have := sp_lt (pce f n size) i
    omega
  have ht := ti_spec (fun i => h i + sp (pce f n size) i) (fac key) hb (fun i _ => fac_lt key i)
  exact ⟨rfl, ⟨_, k1, ht.2.1, ht.2.2, stp_limbs h _ (fac key) a _ _ hb (fun i _ => fac_lt key i) h4 (sp_val _ (pn_lt f hf n size hn hs)) rfl⟩, k2⟩

/-- the mark is told -/
theorem at_end (M : Nat) (key : Nat → Nat) (hk : ∀ i, key i < 256) (a : Nat) (w : World) (hw : At w M key a) :
    Calls Try.prog 35 #[.pointer (some ⟨M, 0, none⟩), .agg (byteCells key 32).toArray] w fun e w' => e = .returned (.agg (byteCells (tag a key) 16).toArray) ∧ Below w.heap.size w w' := by
  obtain ⟨h, h1, h2, h3, h4⟩ := hw
  rw [← h4]
  exact end_any M (fac key) h h2 h3 key hk w h1

theorem at_begin {w : World} {M : Nat} {key : Nat → Nat} (h : Whole w M 63 (qcells (mk2 (fac key) (fun _ => 0)) 10).toArray) : At w M key 0 :=
  ⟨_, h, fun _ _ => by omega, fun _ _ _ => by omega, by decide +kernel⟩

def lenOf : Value → Nat
  | .slice _ n _ => n
  | _ => 0

/-- what lies in memory while a text is marked -/
def SumW (w : World) (B G : Nat) (key : Nat → Nat) (a : Nat) (wr : World) : Prop :=
  Whole wr B 22 (byteCells key 32).toArray ∧ Whole wr (B + 1) 25 (byteCells (fun _ => 0) 16).toArray ∧ At wr G key a ∧ B + 1 < G ∧ Below B w wr

theorem sumw_add {w wr w' : World} {B G : Nat} {key : Nat → Nat} {a a' : Nat} (h : SumW w B G key a wr) (ha : At w' G key a') (hg : wr.grownBy w' (some G)) : SumW w B G key a' w' := by
  obtain ⟨h1, h2, h3, h4, h5⟩ := h
  exact ⟨whole_grown h1 hg (by omega), whole_grown h2 hg (by omega), ha, h4, below_grown h5 hg (by omega) (by have := h2.lt; omega)⟩
theorem sumw_below {w wr w' : World} {B G : Nat} {key : Nat → Nat} {a : Nat} (h : SumW w B G key a wr) (hb : Below wr.heap.size wr w') : SumW w B G key a w' := by
  obtain ⟨h1, h2, h3, h4, h5⟩ := h
  exact ⟨h1.below hb h1.lt, h2.below hb h2.lt, h3.below hb h3.lt, h4, h5.trans (hb.mono (by have := h1.lt; omega))⟩

set_option maxRecDepth 100000 in
theorem sum_any (key : Nat → Nat) (hk : ∀ i, key i < 256) (A : Option Addr) (n c : Nat) (f : Nat → Nat) (hf : ∀ i, f i < 256) (hn : n ≤ 1000000) (hc : n ≤ c) (w : World) (hA : Rd w A n f) :
    Calls Try.prog 16 #[.agg (byteCells key 32).toArray, .slice A n c] w fun e w' => e = .returned (.agg (byteCells (sumAt key f n) 16).toArray) ∧ Below w.heap.size w w' := by
  have HK := Lib.hid hk
  have HF := Lib.hid hf
  have HA := Lib.hid hA
  clear hk hf hA
  rw [byteCells_lit32]
  go_enter Try.func16, Try.ntmps16
  go_upto_region 1 with fail
  refine cut_world (fun W => Whole W w.heap.size 22 (byteCells key 32).toArray ∧ Whole W (w.heap.size + 1) 25 (byteCells (fun _ => 0) 16).toArray ∧ Below w.heap.size w W) ⟨?_, ?_, ?_⟩ ?_
  · rw [byteCells_lit32]
    exact (whole_new _ _ rfl).alloc _
  · exact whole_new _ _ (by simp)
  · exact below_alloc (below_alloc (Below.refl _ _) _) _
  rintro W ⟨k1, k2, kb⟩
  have K1 := Lib.hid k1
  have K2 := Lib.hid k2
  have KB := Lib.hid kb
  have hl2 := k2.lt
  clear k1 k2 kb
  generalize hB : w.heap.size = B at K1 K2 KB hl2 ⊢
  go_wp2_with (refine wpList_load_row rfl 22 (.tmp 2) rfl B rfl 22 (byteCells key 32).toArray (0, 0) _ K1.out rfl rfl (by kernel_rfl) ?_)
  refine (begin_any key HK.out _).mono ?_
  rintro e w1 ⟨rfl, hb⟩
  have L1 := Lib.hid (K1.out.below hb K1.out.lt)
  have L2 := Lib.hid (K2.out.below hb K2.out.lt)
  have LB := Lib.hid (KB.out.trans (hb.mono (by omega)))
  have hl3 := hb.size
  clear hb K1 K2 KB
  go_upto_region 2 with (refine wpList_store_row rfl 63 (.tmp 5) (.tmp 8) rfl w1.heap.size (qcells (mk2 (fac key) (fun _ => 0)) 10).toArray rfl rfl 63 _ (Whole.new _ _ _) (by rw [qcells_size]; kernel_rfl) (by rw [qcells_size]; rfl) (qcells_one _ _) ?_)
  try simp only [Act.put]
  refine cut_world (SumW w B w1.heap.size key 0) ⟨?_, ?_, ?_, ?_, ?_⟩ ?_
  · exact (setRow_other _ _ B _ (by omega)).trans (L1.out.alloc _)
  · exact (setRow_other _ _ (B + 1) _ (by omega)).trans (L2.out.alloc _)
  · exact at_begin (setRow_heap _ _ _ _ _ _ (Whole.new _ _ _))
  · omega
  · exact below_setRow (LB.out.alloc (by omega) _) (by omega) _
  rintro W2 hW
  have HW := Lib.hid hW
  have hG : B + 1 < w1.heap.size := by omega
  clear hW L1 L2 LB hl2 hl3
  generalize w1.heap.size = G at HW hG ⊢
  go_loopw [1] (fun s wr => ∃ (A' : Option Addr) (m c' : Nat) (g : Nat → Nat) (a : Nat), s = .slice A' m c' ∧ m ≤ c' ∧ m ≤ n ∧ (∀ i, g i < 256) ∧ Rd w A' m g ∧ SumW w B G key a wr ∧ mac (rk key) false a g m = mac (rk key) false 0 f n) (fun s _ => lenOf s)
  case atStart => exact ⟨A, n, c, f, 0, rfl, hc, Nat.le_refl _, HF.out, HA.out, HW.out, rfl⟩
  case round =>
    obtain ⟨A', m, c', g, a, rfl, hmc, hmn, hg, hr, hw, hmac⟩ := hrel
    have HG := Lib.hid hg
    have HR := Lib.hid hr
    have HW := Lib.hid hw
    clear hg hr hw
    by_cases hlt : 0 < m
    · obtain ⟨b, off, hAe, hbl, hcc⟩ : ∃ b off, A' = some ⟨b, off, none⟩ ∧ b < w.heap.size ∧ ∀ i, i < m → w.cell? ⟨b, off + i, none⟩ = some (.int .u8 (g i : Nat)) := by
        rcases HR.out with h | ⟨b, off, h1, h2, h3⟩
        · omega
        · exact ⟨b, off, h1, h2, h3⟩
      subst hAe
      rw [mac_step _ _ _ _ _ hlt] at hmac
      simp only [Bool.false_eq_true, if_false] at hmac
      have HMAC := Lib.hid hmac
      have HCC := Lib.hid hcc
      have hrw : Rd wr (some ⟨b, off, none⟩) m g := HR.out.below HW.out.2.2.2.2 (by omega)
      have HRW := Lib.hid hrw
      clear hmac hcc hrw
      by_cases h16 : m ≤ 16
      · have e16 := Lib.hid (show min m 16 = m by omega)
        rw [e16.out, show m - 16 = 0 by omega, mac_zero] at HMAC
        go_wp2_with fail
        refine (at_add G key a (some ⟨b, off, none⟩) m c' m g HG.out (Nat.le_refl _) h16 _ HW.out.2.2.1 HRW.out).mono ?_
        rintro e w3 ⟨rfl, ha3, hg3⟩
        have HW3 := Lib.hid (sumw_add HW.out ha3 hg3)
        clear ha3 hg3
        by_cases hcap : c' = m
        · subst hcap
          go_wp2_with fail
          go_roundw
          case rel => exact ⟨_, 0, 0, g, _, rfl, by omega, by omega, HG.out, .inl rfl, HW3.out, by rw [mac_zero]; exact HMAC.out⟩
          case measure => simp [lenOf]; omega
        · go_wp2_with fail
          go_roundw
          case rel => exact ⟨_, 0, _, g, _, rfl, by omega, by omega, HG.out, .inl rfl, HW3.out, by rw [mac_zero]; exact HMAC.out⟩
          case measure => simp [lenOf]; omega
      · have e16 := Lib.hid (show min m 16 = 16 by omega)
        rw [e16.out] at HMAC
        have hcap : ¬ c' = 16 := by omega
        go_wp2_with fail
        refine (at_add G key a (some ⟨b, off, none⟩) 16 c' 16 g HG.out (Nat.le_refl _) (Nat.le_refl _) _ HW.out.2.2.1 (rd_front HRW.out 16 (by omega))).mono ?_
        rintro e w3 ⟨rfl, ha3, hg3⟩
        have HW3 := Lib.hid (sumw_add HW.out ha3 hg3)
        clear ha3 hg3
        go_wp2_with fail
        go_roundw
        case rel => exact ⟨_, m - 16, _, fun i => g (16 + i), _, rfl, by omega, by omega, fun i => HG.out _, .inr ⟨b, off + 16, rfl, hbl, fun i hi => by rw [Nat.add_assoc]; exact HCC.out (16 + i) (by omega)⟩, HW3.out, HMAC.out⟩
        case measure => simp [lenOf]; omega
    · obtain rfl : m = 0 := by omega
      rw [mac_zero] at hmac
      have HTAG := Lib.hid (show tag a key = sumAt key f n by unfold sumAt; rw [← hmac])
      obtain ⟨q1, q2, q3, q4, q5⟩ := HW.out
      have Q1 := Lib.hid q1
      have Q2 := Lib.hid q2
      have Q3 := Lib.hid q3
      have Q5 := Lib.hid q5
      have hl1 := q1.lt
      have HZ16 := Lib.hid (show ∀ f, (byteCells f 16).toArray.size = 16 from fun f => by rw [List.size_toArray, byteCells_length])
      clear q1 q2 q3 q5 HW hmac
      go_wp2_with (refine wpList_load_row rfl 22 (.tmp 2) rfl B rfl 22 (byteCells key 32).toArray (0, 0) _ Q1.out rfl rfl (by kernel_rfl) ?_)
      refine (at_end G key HK.out a _ Q3.out).mono ?_
      rintro e w4 ⟨rfl, hb4⟩
      rw [HTAG.out]
      have L2 := Lib.hid (Q2.out.below hb4 Q2.out.lt)
      have LB := Lib.hid (Q5.out.trans (hb4.mono (by omega)))
      clear hb4 Q1 Q2 Q3 Q5 HTAG
      generalize hS : sumAt key f n = S at ⊢
      go_wp2_with (refine wpList_store_row rfl 25 (.tmp 4) (.tmp 24) rfl (B + 1) (byteCells S 16).toArray rfl rfl 25 _ L2.out (by rw [HZ16.out]; kernel_rfl) (by rw [HZ16.out, HZ16.out]) (bytes_one _ _) ?_)
      have hret : Whole (w4.setRow (B + 1) (byteCells S 16).toArray) (B + 1) 25 (byteCells S 16).toArray := setRow_heap w4 _ _ _ _ _ L2.out
      refine bodyPost_ret (results_cell_row rfl _ _ (B + 1) 25 _ (0, 0) _ rfl hret rfl rfl (by rw [HZ16.out]; kernel_rfl)) rfl ?_
      exact ⟨by rw [hS], by rw [hB]; exact below_setRow LB.out (by omega) _⟩

end Poly
end Go.Proofs.Ytdffbjlbhjppeaa
