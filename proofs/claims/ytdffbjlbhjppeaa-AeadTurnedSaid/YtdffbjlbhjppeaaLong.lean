/- The calls Seal and Open of package aead at any input, and XSeal and XOpen. -/
import Derived.Test.YtdffbjlbhjppeaaOpen
import Derived.Test.YtdffbjlbhjppeaaShort
namespace Go.Proofs.Ytdffbjlbhjppeaa
namespace Aead
open Go.ChangeShapes Go.WideShapes Go.ChangeAt Go.RowKit
open Num Mem Words State PolyN Chacha Quiet Poly Ref

def sealE (n no : Nat) : Int := if n ≤ 65536 ∧ no ≤ 65536 then 0 else 2
def sealN (n no : Nat) : Nat := if n ≤ 65536 ∧ no ≤ 65536 then n + 16 else 0
def SealPost (w : World) (key nonce f : Nat → Nat) (n : Nat) (fo : Nat → Nat) (no : Nat) (e : Ending) (w' : World) : Prop :=
  ∃ A' c', e = .returned (.tuple #[.slice A' (sealN n no) (sealN n no), .int .i64 (sealE n no)]) ∧ Own w' w.heap.size 5 A' (sealN n no) c' (boxF key nonce f n fo no) ∧ Below w.heap.size w w'
theorem seal_all (key nonce : Nat → Nat) (hk : ∀ i, key i < 256) (hn : ∀ i, nonce i < 256) (A : Option Addr) (n c : Nat) (f : Nat → Nat) (hf : ∀ i, f i < 256) (Ao : Option Addr) (no co : Nat) (fo : Nat → Nat) (hfo : ∀ i, fo i < 256)
    (hco : no ≤ co) (w : World) (hr : Rd w A n f) (hro : Rd w Ao no fo) :
    Calls Try.prog 24 #[.agg (byteCells key 32).toArray, .agg (byteCells nonce 12).toArray, .slice A n c, .slice Ao no co] w (SealPost w key nonce f n fo no) := by
  by_cases h : n ≤ 65536 ∧ no ≤ 65536
  · refine (seal_ok key nonce hk hn A n c f hf Ao no co fo hfo hco h.1 h.2 w hr hro).mono ?_
    rintro e w' ⟨A', c', rfl, o, hb⟩
    refine ⟨A', c', ?_, ?_, hb⟩
    · rw [sealN, sealE, if_pos h, if_pos h]
    · rw [sealN, if_pos h]
      exact o
  · refine (seal_long key nonce A Ao n c no co (by omega) w).mono ?_
    rintro e w' ⟨rfl, hb⟩
    refine ⟨none, 0, ?_, ?_, hb⟩
    · rw [sealN, sealE, if_neg h, if_neg h]
    · rw [sealN, if_neg h]
      exact Own.nil _ _ _ _

def Fits16 (key nonce f : Nat → Nat) (n : Nat) (fo : Nat → Nat) (no : Nat) : Prop := ∀ i, i < 16 → markF key nonce f (n - 16) fo no i = f (n - 16 + i)
instance (key nonce f : Nat → Nat) (n : Nat) (fo : Nat → Nat) (no : Nat) : Decidable (Fits16 key nonce f n fo no) := by unfold Fits16; infer_instance
def openE (key nonce f : Nat → Nat) (n : Nat) (fo : Nat → Nat) (no : Nat) : Int := if n < 16 then 10 else if 65552 < n ∨ 65536 < no then 2 else if Fits16 key nonce f n fo no then 0 else 20
def openN (key nonce f : Nat → Nat) (n : Nat) (fo : Nat → Nat) (no : Nat) : Nat := if n < 16 then 0 else if 65552 < n ∨ 65536 < no then 0 else if Fits16 key nonce f n fo no then n - 16 else 0
def OpenedPost (w : World) (key nonce f : Nat → Nat) (n : Nat) (fo : Nat → Nat) (no : Nat) (e : Ending) (w' : World) : Prop :=
  ∃ A', e = .returned (.tuple #[.slice A' (openN key nonce f n fo no) (openN key nonce f n fo no), .int .i64 (openE key nonce f n fo no)]) ∧ Rd w' A' (openN key nonce f n fo no) (xo key nonce 1 f) ∧ (A' = none → openN key nonce f n fo no = 0) ∧ Below w.heap.size w w'
theorem open_all (key nonce : Nat → Nat) (hk : ∀ i, key i < 256) (hn : ∀ i, nonce i < 256) (A : Option Addr) (n c : Nat) (f : Nat → Nat) (hf : ∀ i, f i < 256) (Ao : Option Addr) (no co : Nat) (fo : Nat → Nat) (hfo : ∀ i, fo i < 256)
    (hc : n ≤ c) (hc2 : c ≤ 9223372036854775807) (hco : no ≤ co) (w : World) (hr : Rd w A n f) (hro : Rd w Ao no fo) :
    Calls Try.prog 30 #[.agg (byteCells key 32).toArray, .agg (byteCells nonce 12).toArray, .slice A n c, .slice Ao no co] w (OpenedPost w key nonce f n fo no) := by
  by_cases h1 : n < 16
  · refine (open_short key nonce A Ao n c no co h1 w).mono ?_
    rintro e w' ⟨rfl, hb⟩
    have e1 : openN key nonce f n fo no = 0 := by rw [openN, if_pos h1]
    refine ⟨none, ?_, ?_, fun _ => e1, hb⟩
    · rw [e1, openE, if_pos h1]
    · rw [e1]
      exact .inl rfl
  · by_cases h2 : 65552 < n ∨ 65536 < no
    · obtain ⟨b, off, rfl, _⟩ : ∃ b off, A = some ⟨b, off, none⟩ ∧ True := by
        rcases hr with h | ⟨b, off, h, _⟩
        · omega
        · exact ⟨b, off, h, trivial⟩
      refine (open_long key nonce b off n c no co Ao (by omega) hc hc2 h2 w).mono ?_
      rintro e w' ⟨rfl, hb⟩
      have e1 : openN key nonce f n fo no = 0 := by rw [openN, if_neg h1, if_pos h2]
      refine ⟨none, ?_, ?_, fun _ => e1, hb⟩
      · rw [e1, openE, if_neg h1, if_pos h2]
      · rw [e1]
        exact .inl rfl
    · refine (open_any key nonce hk hn A n (n - 16) c f hf Ao no co fo hfo (by omega) hc hc2 hco (by omega) (by omega) (decide (Fits16 key nonce f n fo no)) (by rw [decide_eq_true_eq]; rfl) w hr hro).mono ?_
      rintro e w' ⟨h, hb⟩
      by_cases h3 : Fits16 key nonce f n fo no
      · rw [if_pos (decide_eq_true h3)] at h
        obtain ⟨g, rfl, hg⟩ := h
        have e1 : openN key nonce f n fo no = n - 16 := by rw [openN, if_neg h1, if_neg h2, if_pos h3]
        refine ⟨some ⟨g, 0, none⟩, ?_, ?_, fun e => (by cases e), hb⟩
        · rw [e1, openE, if_neg h1, if_neg h2, if_pos h3]
        · rw [e1]
          exact .inr ⟨g, 0, rfl, hg.lt, fun j hj => hg.bytes j hj⟩
      · rw [if_neg (by rw [decide_eq_true_eq]; exact h3)] at h
        subst h
        have e1 : openN key nonce f n fo no = 0 := by rw [openN, if_neg h1, if_neg h2, if_neg h3]
        refine ⟨none, ?_, ?_, fun _ => e1, hb⟩
        · rw [e1, openE, if_neg h1, if_neg h2, if_neg h3]
        · rw [e1]
          exact .inl rfl

theorem own_drop {w : World} {B B' t k c : Nat} {A : Option Addr} {f : Nat → Nat} (h : Own w B t A k c f) (hB : B' ≤ B) : Own w B' t A k c f := Own.more h hB

set_option maxRecDepth 100000 in
set_option maxHeartbeats 1000000 in
theorem xseal_all (key nonce : Nat → Nat) (hk : ∀ i, key i < 256) (hn : ∀ i, nonce i < 256) (A : Option Addr) (n c : Nat) (f : Nat → Nat) (hf : ∀ i, f i < 256) (Ao : Option Addr) (no co : Nat) (fo : Nat → Nat) (hfo : ∀ i, fo i < 256)
    (hco : no ≤ co) (w : World) (hr : Rd w A n f) (hro : Rd w Ao no fo) :
    Calls Try.prog 26 #[.agg (byteCells key 32).toArray, .agg (byteCells nonce 24).toArray, .slice A n c, .slice Ao no co] w (SealPost w (der key nonce) (bn fun i => nonce (16 + i)) f n fo no) := by
  have HK := Lib.hid hk
  have HN := Lib.hid hn
  have HF := Lib.hid hf
  have HFO := Lib.hid hfo
  have HR := Lib.hid hr
  have HRO := Lib.hid hro
  have HDB := Lib.hid (der_lt key nonce)
  have HEB := Lib.hid (bn_lt (f := fun i => nonce (16 + i)) (fun i => hn _))
  have HZ32 := Lib.hid (show ∀ f, (byteCells f 32).toArray.size = 32 from fun f => by rw [List.size_toArray, byteCells_length])
  have HZ12 := Lib.hid (show ∀ f, (byteCells f 12).toArray.size = 12 from fun f => by rw [List.size_toArray, byteCells_length])
  clear hk hn hf hfo hr hro
  rw [byteCells_lit32, byteCells_lit24]
  go_enter Try.func26, Try.ntmps26
  go_upto_region 1 with fail
  refine cut_world (fun W => Whole W w.heap.size 40 (byteCells key 32).toArray ∧ Whole W (w.heap.size + 1) 42 (byteCells nonce 24).toArray ∧ Below w.heap.size w W) ⟨?_, ?_, ?_⟩ ?_
  · rw [byteCells_lit32]
    exact (whole_new _ _ rfl).alloc _
  · rw [byteCells_lit24]
    exact whole_new _ _ (by simp)
  · exact below_alloc (below_alloc (Below.refl _ _) _) _
  rintro W ⟨k1, k2, kb⟩
  have K1 := Lib.hid k1
  have K2 := Lib.hid k2
  have KB := Lib.hid kb
  have hl2 := k2.lt
  clear k1 k2 kb
  generalize hB : w.heap.size = B at K1 K2 KB hl2 ⊢
  have HB := Lib.hid hB
  clear hB
  go_wp2_with (first | (refine wpList_load_row rfl 40 (.tmp 4) rfl B rfl 40 (byteCells key 32).toArray (0, 0) _ K1.out rfl rfl (by kernel_rfl) ?_) | (refine wpList_load_row rfl 42 (.tmp 5) rfl (B + 1) rfl 42 (byteCells nonce 24).toArray (0, 0) _ K2.out rfl rfl (by kernel_rfl) ?_))
  refine (shorten_any key nonce HK.out HN.out _).mono ?_
  rintro e w1 ⟨rfl, hb⟩
  have LB := Lib.hid (KB.out.trans (hb.mono (by omega)))
  have hs1 := hb.size
  clear hb K1 K2 KB
  generalize hDD : der key nonce = D at HDB ⊢
  generalize hEE : (bn fun i => nonce (16 + i)) = E at HEB ⊢
  have HDD := Lib.hid hDD
  have HEE := Lib.hid hEE
  clear hDD hEE
  go_upto_region 2 with (first | (refine wpList_store_row rfl 40 (.tmp 10) (.tmp 16) rfl w1.heap.size (byteCells D 32).toArray rfl rfl 40 _ ((Whole.new _ _ _).alloc _) (by rw [HZ32.out]; kernel_rfl) (by rw [HZ32.out]; rfl) (bytes_one _ _) ?_) | (refine wpList_store_row rfl 41 (.tmp 11) (.tmp 17) rfl (w1.heap.size + 1) (byteCells E 12).toArray rfl rfl 41 _ ((setRow_other _ _ _ _ (by omega)).trans (whole_new _ _ (by simp))) (by rw [HZ12.out]; kernel_rfl) (by rw [HZ12.out]; rfl) (bytes_one _ _) ?_))
  try simp only [Act.put]
  refine cut_world (fun W => Whole W w1.heap.size 40 (byteCells D 32).toArray ∧ Whole W (w1.heap.size + 1) 41 (byteCells E 12).toArray ∧ Below B w W) ⟨?_, ?_, ?_⟩ ?_
  · exact (setRow_other _ _ _ _ (by omega)).trans (setRow_heap _ _ _ _ _ _ ((Whole.new _ _ _).alloc _))
  · exact setRow_heap _ _ _ _ _ _ ((setRow_other _ _ _ _ (by omega)).trans (whole_new _ _ (by simp)))
  · exact below_setRow (below_setRow ((LB.out.alloc (by omega) _).alloc (by simp; omega) _) (by omega) _) (by omega) _
  rintro W2 ⟨k1, k2, kb⟩
  have K1 := Lib.hid k1
  have K2 := Lib.hid k2
  have KB := Lib.hid kb
  have hl4 := k2.lt
  clear k1 k2 kb LB
  generalize w1.heap.size = G at K1 K2 hs1 hl4 ⊢
  go_wp2_with (first | (refine wpList_load_row rfl 40 (.tmp 10) rfl G rfl 40 (byteCells D 32).toArray (0, 0) _ K1.out rfl rfl (by rw [HZ32.out]; kernel_rfl) ?_) | (refine wpList_load_row rfl 41 (.tmp 11) rfl (G + 1) rfl 41 (byteCells E 12).toArray (0, 0) _ K2.out rfl rfl (by rw [HZ12.out]; kernel_rfl) ?_))
  refine (seal_all D E HDB.out HEB.out A n c f HF.out Ao no co fo HFO.out hco _ (HR.out.below KB.out (by rw [HB.out]; exact Nat.le_refl _)) (HRO.out.below KB.out (by rw [HB.out]; exact Nat.le_refl _))).mono ?_
  rintro e w3 ⟨A', c', rfl, o, hb⟩
  have O3 := Lib.hid (own_drop o (show B ≤ W2.heap.size by omega))
  have LB := Lib.hid (KB.out.trans (hb.mono (by omega)))
  clear o hb K1 K2 KB
  obtain ⟨T, hT⟩ : ∃ T, boxF D E f n fo no = T := ⟨_, rfl⟩
  obtain ⟨k, hN⟩ : ∃ k, sealN n no = k := ⟨_, rfl⟩
  obtain ⟨r, hE⟩ : ∃ r, sealE n no = r := ⟨_, rfl⟩
  rw [hT, hN] at O3
  rw [hN, hE]
  have HT := Lib.hid hT
  have HN2 := Lib.hid hN
  have HE := Lib.hid hE
  clear hT hN hE
  go_wp2_with fail
  go_ret2
  unfold SealPost
  rw [HDD.out, HEE.out, HT.out, HN2.out, HE.out, HB.out]
  exact ⟨A', c', rfl, O3.out, LB.out⟩

set_option maxRecDepth 100000 in
set_option maxHeartbeats 1000000 in
theorem xopen_all (key nonce : Nat → Nat) (hk : ∀ i, key i < 256) (hn : ∀ i, nonce i < 256) (A : Option Addr) (n c : Nat) (f : Nat → Nat) (hf : ∀ i, f i < 256) (Ao : Option Addr) (no co : Nat) (fo : Nat → Nat) (hfo : ∀ i, fo i < 256)
    (hc : n ≤ c) (hc2 : c ≤ 9223372036854775807) (hco : no ≤ co) (w : World) (hr : Rd w A n f) (hro : Rd w Ao no fo) :
    Calls Try.prog 32 #[.agg (byteCells key 32).toArray, .agg (byteCells nonce 24).toArray, .slice A n c, .slice Ao no co] w (OpenedPost w (der key nonce) (bn fun i => nonce (16 + i)) f n fo no) := by
  have HK := Lib.hid hk
  have HN := Lib.hid hn
  have HF := Lib.hid hf
  have HFO := Lib.hid hfo
  have HR := Lib.hid hr
  have HRO := Lib.hid hro
  have HDB := Lib.hid (der_lt key nonce)
  have HEB := Lib.hid (bn_lt (f := fun i => nonce (16 + i)) (fun i => hn _))
  have HZ32 := Lib.hid (show ∀ f, (byteCells f 32).toArray.size = 32 from fun f => by rw [List.size_toArray, byteCells_length])
  have HZ12 := Lib.hid (show ∀ f, (byteCells f 12).toArray.size = 12 from fun f => by rw [List.size_toArray, byteCells_length])
  clear hk hn hf hfo hr hro
  rw [byteCells_lit32, byteCells_lit24]
  go_enter Try.func32, Try.ntmps32
  go_upto_region 1 with fail
  refine cut_world (fun W => Whole W w.heap.size 40 (byteCells key 32).toArray ∧ Whole W (w.heap.size + 1) 42 (byteCells nonce 24).toArray ∧ Below w.heap.size w W) ⟨?_, ?_, ?_⟩ ?_
  · rw [byteCells_lit32]
    exact (whole_new _ _ rfl).alloc _
  · rw [byteCells_lit24]
    exact whole_new _ _ (by simp)
  · exact below_alloc (below_alloc (Below.refl _ _) _) _
  rintro W ⟨k1, k2, kb⟩
  have K1 := Lib.hid k1
  have K2 := Lib.hid k2
  have KB := Lib.hid kb
  have hl2 := k2.lt
  clear k1 k2 kb
  generalize hB : w.heap.size = B at K1 K2 KB hl2 ⊢
  have HB := Lib.hid hB
  clear hB
  go_wp2_with (first | (refine wpList_load_row rfl 40 (.tmp 4) rfl B rfl 40 (byteCells key 32).toArray (0, 0) _ K1.out rfl rfl (by kernel_rfl) ?_) | (refine wpList_load_row rfl 42 (.tmp 5) rfl (B + 1) rfl 42 (byteCells nonce 24).toArray (0, 0) _ K2.out rfl rfl (by kernel_rfl) ?_))
  refine (shorten_any key nonce HK.out HN.out _).mono ?_
  rintro e w1 ⟨rfl, hb⟩
  have LB := Lib.hid (KB.out.trans (hb.mono (by omega)))
  have hs1 := hb.size
  clear hb K1 K2 KB
  generalize hDD : der key nonce = D at HDB ⊢
  generalize hEE : (bn fun i => nonce (16 + i)) = E at HEB ⊢
  have HDD := Lib.hid hDD
  have HEE := Lib.hid hEE
  clear hDD hEE
  go_upto_region 2 with (first | (refine wpList_store_row rfl 40 (.tmp 10) (.tmp 16) rfl w1.heap.size (byteCells D 32).toArray rfl rfl 40 _ ((Whole.new _ _ _).alloc _) (by rw [HZ32.out]; kernel_rfl) (by rw [HZ32.out]; rfl) (bytes_one _ _) ?_) | (refine wpList_store_row rfl 41 (.tmp 11) (.tmp 17) rfl (w1.heap.size + 1) (byteCells E 12).toArray rfl rfl 41 _ ((setRow_other _ _ _ _ (by omega)).trans (whole_new _ _ (by simp))) (by rw [HZ12.out]; kernel_rfl) (by rw [HZ12.out]; rfl) (bytes_one _ _) ?_))
  try simp only [Act.put]
  refine cut_world (fun W => Whole W w1.heap.size 40 (byteCells D 32).toArray ∧ Whole W (w1.heap.size + 1) 41 (byteCells E 12).toArray ∧ Below B w W) ⟨?_, ?_, ?_⟩ ?_
  · exact (setRow_other _ _ _ _ (by omega)).trans (setRow_heap _ _ _ _ _ _ ((Whole.new _ _ _).alloc _))
  · exact setRow_heap _ _ _ _ _ _ ((setRow_other _ _ _ _ (by omega)).trans (whole_new _ _ (by simp)))
  · exact below_setRow (below_setRow ((LB.out.alloc (by omega) _).alloc (by simp; omega) _) (by omega) _) (by omega) _
  rintro W2 ⟨k1, k2, kb⟩
  have K1 := Lib.hid k1
  have K2 := Lib.hid k2
  have KB := Lib.hid kb
  have hl4 := k2.lt
  clear k1 k2 kb LB
  generalize w1.heap.size = G at K1 K2 hs1 hl4 ⊢
  go_wp2_with (first | (refine wpList_load_row rfl 40 (.tmp 10) rfl G rfl 40 (byteCells D 32).toArray (0, 0) _ K1.out rfl rfl (by rw [HZ32.out]; kernel_rfl) ?_) | (refine wpList_load_row rfl 41 (.tmp 11) rfl (G + 1) rfl 41 (byteCells E 12).toArray (0, 0) _ K2.out rfl rfl (by rw [HZ12.out]; kernel_rfl) ?_))
  refine (open_all D E HDB.out HEB.out A n c f HF.out Ao no co fo HFO.out hc hc2 hco _ (HR.out.below KB.out (by rw [HB.out]; exact Nat.le_refl _)) (HRO.out.below KB.out (by rw [HB.out]; exact Nat.le_refl _))).mono ?_
  rintro e w3 ⟨A', rfl, o, hnil, hb⟩
  have O3 := Lib.hid o
  have LB := Lib.hid (KB.out.trans (hb.mono (by omega)))
  have HNIL := Lib.hid hnil
  clear o hb K1 K2 KB hnil
  obtain ⟨T, hT⟩ : ∃ T, xo D E 1 f = T := ⟨_, rfl⟩
  obtain ⟨k, hN⟩ : ∃ k, openN D E f n fo no = k := ⟨_, rfl⟩
  obtain ⟨r, hE⟩ : ∃ r, openE D E f n fo no = r := ⟨_, rfl⟩
  rw [hT, hN] at O3
  rw [hN] at HNIL
  rw [hN, hE]
  have HT := Lib.hid hT
  have HN2 := Lib.hid hN
  have HE := Lib.hid hE
  clear hT hN hE
  go_wp2_with fail
  go_ret2
  unfold OpenedPost
  rw [HDD.out, HEE.out, HT.out, HN2.out, HE.out, HB.out]
  exact ⟨A', rfl, O3.out, HNIL.out, LB.out⟩

end Aead
end Go.Proofs.Ytdffbjlbhjppeaa
