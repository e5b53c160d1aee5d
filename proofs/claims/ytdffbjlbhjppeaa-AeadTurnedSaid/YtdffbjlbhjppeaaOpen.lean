/- The call Open of package aead. -/
import Derived.Test.YtdffbjlbhjppeaaSeal
import Derived.Test.YtdffbjlbhjppeaaEqual
namespace Go.Proofs.Ytdffbjlbhjppeaa
namespace Aead
open Go.ChangeShapes Go.WideShapes Go.ChangeAt Go.RowKit
open Num Mem Words State PolyN Chacha Quiet Poly Ref

set_option maxRecDepth 100000 in
theorem open_short (key nonce : Nat → Nat) (A Ao : Option Addr) (n c no co : Nat) (h : n < 16) (w : World) :
    Calls Try.prog 30 #[.agg (byteCells key 32).toArray, .agg (byteCells nonce 12).toArray, .slice A n c, .slice Ao no co] w fun e w' => e = .returned (.tuple #[.slice none 0 0, .int .i64 10]) ∧ Below w.heap.size w w' := by
  rw [byteCells_lit32, byteCells_lit12]
  go_enter Try.func30, Try.ntmps30
  go_wp2_with fail
  go_ret2
  exact ⟨rfl, below_alloc (below_alloc (Below.refl _ _) _) _⟩

set_option maxRecDepth 100000 in
theorem open_long (key nonce : Nat → Nat) (b off n c no co : Nat) (Ao : Option Addr) (h0 : 16 ≤ n) (hc : n ≤ c) (hc2 : c ≤ 9223372036854775807) (h : 65552 < n ∨ 65536 < no) (w : World) :
    Calls Try.prog 30 #[.agg (byteCells key 32).toArray, .agg (byteCells nonce 12).toArray, .slice (some ⟨b, off, none⟩) n c, .slice Ao no co] w fun e w' => e = .returned (.tuple #[.slice none 0 0, .int .i64 2]) ∧ Below w.heap.size w w' := by
  obtain ⟨m, hm⟩ : ∃ m, n = m + 16 := ⟨n - 16, by omega⟩
  have hmn : (m : Int) ≤ (n : Int) := by omega
  have hmc : (m : Int) ≤ (c : Int) := by omega
  rw [byteCells_lit32, byteCells_lit12]
  go_enter Try.func30, Try.ntmps30
  go_upto_region 4 with fail
  go_wp2_with fail
  go_quiet (fail)
  go_wp2_with fail
  refine (tooLong_any (some ⟨b, off, none⟩) Ao m m no co true (by simp; omega) _).mono ?_
  rintro e w1 ⟨rfl, rfl⟩
  go_wp2_with fail
  go_ret2
  exact ⟨rfl, below_drewN (below_alloc (below_alloc (Below.refl _ _) _) _) _⟩

/-- what Open pays where both texts are short enough -/
def OpenPost (w : World) (r : Bool) (m : Nat) (T : Nat → Nat) (e : Ending) (w' : World) : Prop :=
  (if r = true then ∃ g, e = .returned (.tuple #[.slice (some ⟨g, 0, none⟩) m m, .int .i64 0]) ∧ Whole w' g 5 (byteCells T m).toArray else e = .returned (.tuple #[.slice none 0 0, .int .i64 20])) ∧ Below w.heap.size w w'

set_option maxRecDepth 100000 in
set_option maxHeartbeats 1000000 in
theorem open_any (key nonce : Nat → Nat) (hk : ∀ i, key i < 256) (hn : ∀ i, nonce i < 256) (A : Option Addr) (n m c : Nat) (f : Nat → Nat) (hf : ∀ i, f i < 256) (Ao : Option Addr) (no co : Nat) (fo : Nat → Nat) (hfo : ∀ i, fo i < 256)
    (hm : n = m + 16) (hc : n ≤ c) (_hc2 : c ≤ 9223372036854775807) (hco : no ≤ co) (hnt : m ≤ 65536) (hno : no ≤ 65536) (r : Bool) (hrr : r = true ↔ ∀ i, i < 16 → markF key nonce f m fo no i = f (m + i)) (w : World) (hr : Rd w A n f) (hro : Rd w Ao no fo) :
    Calls Try.prog 30 #[.agg (byteCells key 32).toArray, .agg (byteCells nonce 12).toArray, .slice A n c, .slice Ao no co] w (OpenPost w r m (xo key nonce 1 f)) := by
  obtain ⟨b, off, rfl, hb0, hcell⟩ : ∃ b off, A = some ⟨b, off, none⟩ ∧ b < w.heap.size ∧ ∀ i, i < n → w.cell? ⟨b, off + i, none⟩ = some (.int .u8 (f i : Nat)) := by
    rcases hr with h | h
    · omega
    · exact h
  have HK := Lib.hid hk
  have HN := Lib.hid hn
  have HF := Lib.hid hf
  have HFO := Lib.hid hfo
  have HRT := Lib.hid (show Rd w (some ⟨b, off, none⟩) m f from .inr ⟨b, off, rfl, hb0, fun i hi => hcell i (by omega)⟩)
  have HRM := Lib.hid (show Rd w (some ⟨b, off + m, none⟩) 16 (fun i => f (m + i)) from .inr ⟨b, off + m, rfl, hb0, fun i hi => by rw [Nat.add_assoc]; exact hcell (m + i) (by omega)⟩)
  have HRO := Lib.hid hro
  have HRR := Lib.hid hrr
  have HZ16 := Lib.hid (show ∀ f, (byteCells f 16).toArray.size = 16 from fun f => by rw [List.size_toArray, byteCells_length])
  have hmn : (m : Int) ≤ (n : Int) := by omega
  have hmc : (m : Int) ≤ (c : Int) := by omega
  clear hk hn hf hfo hr hro hrr hcell hb0
  rw [byteCells_lit32, byteCells_lit12]
  go_enter Try.func30, Try.ntmps30
  go_upto_region 1 with fail
  refine cut_world (fun W => Whole W w.heap.size 40 (byteCells key 32).toArray ∧ Whole W (w.heap.size + 1) 41 (byteCells nonce 12).toArray ∧ Below w.heap.size w W) ⟨?_, ?_, ?_⟩ ?_
  · rw [byteCells_lit32]
    exact (whole_new _ _ rfl).alloc _
  · rw [byteCells_lit12]
    exact whole_new _ _ (by simp)
  · exact below_alloc (below_alloc (Below.refl _ _) _) _
  rintro W ⟨k1, k2, kb⟩
  have K1 := Lib.hid k1
  have K2 := Lib.hid k2
  have KB := Lib.hid kb
  have hl2 := k2.lt
  clear k1 k2 kb
  generalize hB : w.heap.size = B at K1 K2 KB hl2 ⊢
  have HB := Lib.hid hB
  clear hB
  go_upto_region 4 with fail
  go_wp2_with fail
  go_quiet (fail)
  go_wp2_with fail
  refine (tooLong_any (some ⟨b, off, none⟩) Ao m m no co false ⟨fun h => (by cases h), fun h => (by rcases h with h | h <;> omega)⟩ _).mono ?_
  rintro e w1 ⟨rfl, rfl⟩
  go_upto_region 7 with fail
  refine cut_world (fun X => Whole X B 40 (byteCells key 32).toArray ∧ Whole X (B + 1) 41 (byteCells nonce 12).toArray ∧ Below B w X ∧ B + 1 < X.heap.size) ⟨K1.out.drewN _, K2.out.drewN _, below_drewN KB.out _, hl2⟩ ?_
  rintro W2 ⟨k1, k2, kb, hl2'⟩
  have L1 := Lib.hid k1
  have L2 := Lib.hid k2
  have LB := Lib.hid kb
  clear k1 k2 kb K1 K2 KB hl2
  go_wp2_with (first | (refine wpList_load_row rfl 40 (.tmp 4) rfl B rfl 40 (byteCells key 32).toArray (0, 0) _ L1.out rfl rfl (by kernel_rfl) ?_) | (refine wpList_load_row rfl 41 (.tmp 5) rfl (B + 1) rfl 41 (byteCells nonce 12).toArray (0, 0) _ L2.out rfl rfl (by kernel_rfl) ?_))
  refine (mark_any key nonce HK.out HN.out (some ⟨b, off, none⟩) m m f HF.out Ao no co fo HFO.out (Nat.le_refl _) hco hnt hno _ (HRT.out.below LB.out (by rw [HB.out]; exact Nat.le_refl _)) (HRO.out.below LB.out (by rw [HB.out]; exact Nat.le_refl _))).mono ?_
  rintro e w3 ⟨rfl, hb⟩
  have M1 := Lib.hid (L1.out.below hb L1.out.lt)
  have M2 := Lib.hid (L2.out.below hb L2.out.lt)
  have MB := Lib.hid (LB.out.trans (hb.mono (by omega)))
  have hs3 := hb.size
  clear hb L1 L2 LB
  have HMX := Lib.hid (markF_lt key nonce f m fo no)
  generalize markF key nonce f m fo no = M at HMX HRR ⊢
  go_upto_region 8 with (refine wpList_store_row rfl 25 (.tmp 13) (.tmp 34) rfl w3.heap.size (byteCells M 16).toArray rfl rfl 25 _ (Whole.new _ _ _) (by rw [HZ16.out]; kernel_rfl) (by rw [HZ16.out]; rfl) (bytes_one _ _) ?_)
  try simp only [Act.put]
  refine cut_world (fun W => Whole W B 40 (byteCells key 32).toArray ∧ Whole W (B + 1) 41 (byteCells nonce 12).toArray ∧ Whole W w3.heap.size 25 (byteCells M 16).toArray ∧ Below B w W) ⟨?_, ?_, ?_, ?_⟩ ?_
  · exact (setRow_other _ _ _ _ (by omega)).trans (M1.out.alloc _)
  · exact (setRow_other _ _ _ _ (by omega)).trans (M2.out.alloc _)
  · exact setRow_heap _ _ _ _ _ _ (Whole.new _ _ _)
  · exact below_setRow (MB.out.alloc (by omega) _) (by omega) _
  rintro W4 ⟨k1, k2, km, kb⟩
  have K1 := Lib.hid k1
  have K2 := Lib.hid k2
  have KM := Lib.hid km
  have KB := Lib.hid kb
  clear k1 k2 km kb M1 M2 MB
  generalize w3.heap.size = G at KM hs3 ⊢
  go_wp2_with fail
  refine (equal_any (some ⟨G, 0, none⟩) (some ⟨b, off + m, none⟩) 16 16 16 (c - m) M (fun i => f (m + i)) HMX.out (fun i => HF.out _) (by omega) _ (.inr ⟨G, 0, rfl, KM.out.lt, fun j hj => KM.out.bytes j hj⟩) (HRM.out.below KB.out (by rw [HB.out]; exact Nat.le_refl _)) r (by rw [HRR.out]; simp)).mono ?_
  rintro e w5 ⟨rfl, k, rfl⟩
  rcases r with _ | _
  · go_wp2_with fail
    go_ret2
    unfold OpenPost
    rw [if_neg (by decide), HB.out]
    exact ⟨rfl, below_drewN KB.out _⟩
  · go_wp2_with (first | (refine wpList_load_row rfl 40 (.tmp 4) rfl B rfl 40 (byteCells key 32).toArray (0, 0) _ (K1.out.drewN _) rfl rfl (by kernel_rfl) ?_) | (refine wpList_load_row rfl 41 (.tmp 5) rfl (B + 1) rfl 41 (byteCells nonce 12).toArray (0, 0) _ (K2.out.drewN _) rfl rfl (by kernel_rfl) ?_))
    refine (xor_ok key nonce HK.out HN.out 1 (by omega) (some ⟨b, off, none⟩) m m f HF.out hnt (by omega) _ (HRT.out.below (below_drewN KB.out _) (by rw [HB.out]; exact Nat.le_refl _))).mono ?_
    rintro e w6 ⟨g, rfl, hg, hb⟩
    have HG := Lib.hid hg
    have LB := Lib.hid ((below_drewN KB.out k).trans (hb.mono (by show B ≤ W4.heap.size; have := KM.out.lt; omega)))
    clear hg hb
    obtain ⟨X, hX⟩ : ∃ X, xo key nonce 1 f = X := ⟨_, rfl⟩
    rw [hX] at HG
    have HX := Lib.hid hX
    clear hX
    go_wp2_with fail
    go_ret2
    unfold OpenPost
    rw [if_pos rfl, HB.out, HX.out]
    exact ⟨⟨g, rfl, HG.out⟩, LB.out⟩

end Aead
end Go.Proofs.Ytdffbjlbhjppeaa
