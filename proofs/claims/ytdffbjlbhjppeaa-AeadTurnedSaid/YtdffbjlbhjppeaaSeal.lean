/- The call Seal of package aead. -/
import Derived.Test.YtdffbjlbhjppeaaMarkOf
import Derived.Test.YtdffbjlbhjppeaaXor
namespace Go.Proofs.Ytdffbjlbhjppeaa
namespace Aead
open Go.ChangeShapes Go.WideShapes Go.ChangeAt Go.RowKit
open Num Mem Words State PolyN Chacha Quiet Poly Ref

/-- the box of a text -/
def boxW (X M : Nat → Nat) (n i : Nat) : Nat := if i < n then X i else M (i - n)
def boxF (key nonce : Nat → Nat) (f : Nat → Nat) (n : Nat) (fo : Nat → Nat) (no : Nat) : Nat → Nat :=
  boxW (xo key nonce 1 f) (markF key nonce (xo key nonce 1 f) n fo no) n
theorem xo_lt (key nonce : Nat → Nat) (ctr : Nat) {f : Nat → Nat} (hf : ∀ i, f i < 256) (j : Nat) : xo key nonce ctr f j < 256 := Nat.xor_lt_two_pow (n := 8) (hf j) (blk_lt _ _ _ _)
theorem tag_lt (a : Nat) (k : Nat → Nat) (i : Nat) : tag a k i < 256 := by
  unfold tag
  exact byteAt_lt _ _
theorem markF_lt (key nonce ft : Nat → Nat) (nt : Nat) (fo : Nat → Nat) (no i : Nat) : markF key nonce ft nt fo no i < 256 := tag_lt _ _ i

def boxP (g G n : Nat) (X M : Nat → Nat) : Parts := { A := fun i => if i = 0 then some ⟨g, 0, none⟩ else some ⟨G, 0, none⟩, n := fun i => if i = 0 then n else 16, c := fun i => if i = 0 then n else 16, f := fun i => if i = 0 then X else M }
theorem box_jn (g G n : Nat) (X M : Nat → Nat) : joN (boxP g G n X M) 2 = n + 16 := by
  show 0 + n + 16 = n + 16
  omega
theorem box_jo (g G n : Nat) (X M : Nat → Nat) (i : Nat) : joF (boxP g G n X M) 2 i = boxW X M n i := by
  have h : joF (boxP g G n X M) 2 i = if i < joN (boxP g G n X M) 1 then (if i < joN (boxP g G n X M) 0 then joF (boxP g G n X M) 0 i else X (i - 0)) else M (i - joN (boxP g G n X M) 1) := rfl
  rw [h, show joN (boxP g G n X M) 1 = n from Nat.zero_add n, show joN (boxP g G n X M) 0 = 0 from rfl, if_neg (by omega : ¬ i < 0), Nat.sub_zero]
  rfl
theorem box_in {v : World} {g G P n : Nat} {X M : Nat → Nat} (hf : Whole v g 5 (byteCells X n).toArray) (hg : Whole v G 25 (byteCells M 16).toArray) (ha : ∀ i, X i < 256) (hb : ∀ i, M i < 256) (hn : n ≤ 1000000)
    (hr : Whole v P 23 #[.slice (some ⟨g, 0, none⟩) n n, .slice (some ⟨G, 0, none⟩) 16 16]) : (boxP g G n X M).In v (some ⟨P, 0, none⟩) 2 := by
  refine ⟨fun i hi => ?_, fun i j => ?_, .inr ⟨P, 0, rfl, hr.lt, fun i hi => ?_⟩⟩
  · rcases i with _ | _ | i
    · exact ⟨.inr ⟨g, 0, rfl, hf.lt, fun j hj => hf.bytes j hj⟩, Nat.le_refl _, hn⟩
    · exact ⟨.inr ⟨G, 0, rfl, hg.lt, fun j hj => hg.bytes j hj⟩, Nat.le_refl 16, by show 16 ≤ 1000000; omega⟩
    · omega
  · show (if i = 0 then X else M) j < 256
    split
    · exact ha j
    · exact hb j
  · rw [Nat.zero_add, hr.cell]
    rcases i with _ | _ | i
    · rfl
    · rfl
    · omega

set_option maxRecDepth 100000 in
theorem seal_long (key nonce : Nat → Nat) (A Ao : Option Addr) (n c no co : Nat) (h : 65536 < n ∨ 65536 < no) (w : World) :
    Calls Try.prog 24 #[.agg (byteCells key 32).toArray, .agg (byteCells nonce 12).toArray, .slice A n c, .slice Ao no co] w fun e w' => e = .returned (.tuple #[.slice none 0 0, .int .i64 2]) ∧ Below w.heap.size w w' := by
  rw [byteCells_lit32, byteCells_lit12]
  go_enter Try.func24, Try.ntmps24
  go_wp2_with fail
  refine (tooLong_any A Ao n c no co true (by simpa using h) _).mono ?_
  rintro e w1 ⟨rfl, rfl⟩
  go_wp2_with fail
  go_ret2
  exact ⟨rfl, below_alloc (below_alloc (Below.refl _ _) _) _⟩

set_option maxRecDepth 100000 in
set_option maxHeartbeats 1000000 in
theorem seal_ok (key nonce : Nat → Nat) (hk : ∀ i, key i < 256) (hn : ∀ i, nonce i < 256) (A : Option Addr) (n c : Nat) (f : Nat → Nat) (hf : ∀ i, f i < 256) (Ao : Option Addr) (no co : Nat) (fo : Nat → Nat) (hfo : ∀ i, fo i < 256)
    (hco : no ≤ co) (hnt : n ≤ 65536) (hno : no ≤ 65536) (w : World) (hr : Rd w A n f) (hro : Rd w Ao no fo) :
    Calls Try.prog 24 #[.agg (byteCells key 32).toArray, .agg (byteCells nonce 12).toArray, .slice A n c, .slice Ao no co] w fun e w' => ∃ A' c', e = .returned (.tuple #[.slice A' (n + 16) (n + 16), .int .i64 0]) ∧ Own w' w.heap.size 5 A' (n + 16) c' (boxF key nonce f n fo no) ∧ Below w.heap.size w w' := by
  have HK := Lib.hid hk
  have HN := Lib.hid hn
  have HF := Lib.hid hf
  have HFO := Lib.hid hfo
  have HR := Lib.hid hr
  have HRO := Lib.hid hro
  have HZ16 := Lib.hid (show ∀ f, (byteCells f 16).toArray.size = 16 from fun f => by rw [List.size_toArray, byteCells_length])
  clear hk hn hf hfo hr hro
  rw [byteCells_lit32, byteCells_lit12]
  go_enter Try.func24, Try.ntmps24
  go_upto_region 1 with fail
  refine cut_world (fun W => Whole W w.heap.size 40 (byteCells key 32).toArray ∧ Whole W (w.heap.size + 1) 41 (byteCells nonce 12).toArray ∧ Below w.heap.size w W) ⟨?_, ?_, ?_⟩ ?_
  · rw [byteCells_lit32]
    exact (whole_new _ _ rfl).alloc _
  · rw [byteCells_lit12]
    exact whole_new _ _ (by simp)
  · exact below_alloc (below_alloc (Below.refl _ _) _) _
  rintro W ⟨k1, k2, kb⟩
  have K1 := Lib.hid k1
  have K2 := Lib.hid k2
  have KB := Lib.hid kb
  have hl2 := k2.lt
  clear k1 k2 kb
  generalize hB : w.heap.size = B at K1 K2 KB hl2 ⊢
  have HB := Lib.hid hB
  clear hB
  go_wp2_with fail
  refine (tooLong_any A Ao n c no co false ⟨fun h => (by cases h), fun h => (by rcases h with h | h <;> omega)⟩ _).mono ?_
  rintro e w1 ⟨rfl, rfl⟩
  go_wp2_with (first | (refine wpList_load_row rfl 40 (.tmp 4) rfl B rfl 40 (byteCells key 32).toArray (0, 0) _ K1.out rfl rfl (by kernel_rfl) ?_) | (refine wpList_load_row rfl 41 (.tmp 5) rfl (B + 1) rfl 41 (byteCells nonce 12).toArray (0, 0) _ K2.out rfl rfl (by kernel_rfl) ?_))
  refine (xor_ok key nonce HK.out HN.out 1 (by omega) A n c f HF.out hnt (by omega) _ (HR.out.below KB.out (by rw [HB.out]; exact Nat.le_refl _))).mono ?_
  rintro e w2 ⟨g, rfl, hg, hb⟩
  have L1 := Lib.hid (K1.out.below hb K1.out.lt)
  have L2 := Lib.hid (K2.out.below hb K2.out.lt)
  have LB := Lib.hid (KB.out.trans (hb.mono (by omega)))
  have hs2 := hb.size
  have HX := Lib.hid (xo_lt key nonce 1 HF.out)
  obtain ⟨X, hX⟩ : ∃ X, xo key nonce 1 f = X := ⟨_, rfl⟩
  rw [hX] at hg HX
  obtain ⟨T, hT⟩ : ∃ T, boxF key nonce f n fo no = T := ⟨_, rfl⟩
  have HMX := Lib.hid (markF_lt key nonce X n fo no)
  have HBOX := Lib.hid (show ∀ i, boxW X (markF key nonce X n fo no) n i = T i from fun i => by rw [← hT, ← hX]; rfl)
  have HT := Lib.hid hT
  have LG := Lib.hid hg
  clear hb hg hX hT K1 K2 KB
  go_wp2_with (first | (refine wpList_load_row rfl 40 (.tmp 4) rfl B rfl 40 (byteCells key 32).toArray (0, 0) _ L1.out rfl rfl (by kernel_rfl) ?_) | (refine wpList_load_row rfl 41 (.tmp 5) rfl (B + 1) rfl 41 (byteCells nonce 12).toArray (0, 0) _ L2.out rfl rfl (by kernel_rfl) ?_))
  refine (mark_any key nonce HK.out HN.out (some ⟨g, 0, none⟩) n n X HX.out Ao no co fo HFO.out (Nat.le_refl _) hco hnt hno _ (.inr ⟨g, 0, rfl, LG.out.lt, fun j hj => LG.out.bytes j hj⟩) (HRO.out.below LB.out (by rw [HB.out]; exact Nat.le_refl _))).mono ?_
  rintro e w3 ⟨rfl, hb⟩
  have MG := Lib.hid (LG.out.below hb LG.out.lt)
  have MB := Lib.hid (LB.out.trans (hb.mono (by omega)))
  have hs3 := hb.size
  clear hb LG L1 L2 LB
  generalize markF key nonce X n fo no = M at HMX HBOX ⊢
  go_upto_region 7 with (refine wpList_store_row rfl 25 (.tmp 12) (.tmp 30) rfl w3.heap.size (byteCells M 16).toArray rfl rfl 25 _ (Whole.new _ _ _) (by rw [HZ16.out]; kernel_rfl) (by rw [HZ16.out]; rfl) (bytes_one _ _) ?_)
  try simp only [Act.put]
  refine cut_world (fun W => Whole W g 5 (byteCells X n).toArray ∧ Whole W w3.heap.size 25 (byteCells M 16).toArray ∧ Below B w W) ⟨?_, ?_, ?_⟩ ?_
  · exact (setRow_other _ _ _ _ (by have := MG.out.lt; omega)).trans (MG.out.alloc _)
  · exact setRow_heap _ _ _ _ _ _ (Whole.new _ _ _)
  · exact below_setRow (MB.out.alloc (by omega) _) (by omega) _
  rintro W4 ⟨kg, km, kb⟩
  have KG := Lib.hid kg
  have KM := Lib.hid km
  have KB := Lib.hid kb
  have hl4 := km.lt
  clear kg km kb MG MB
  generalize w3.heap.size = G at KM hl4 hs3 ⊢
  go_wp2_with fail
  refine (join_any (some ⟨W4.heap.size, 0, none⟩) 2 2 (boxP g G n X M) (by omega) _ (box_in (KG.out.alloc _) (KM.out.alloc _) HX.out HMX.out (by omega) (Whole.new _ _ _)) (fun i hi e => by rcases i with _ | _ | i <;> first | (cases e; done) | omega)).mono ?_
  rintro e w5 ⟨A', c', rfl, o5, hb5⟩
  rw [box_jn] at o5 ⊢
  have O5 := Lib.hid (Own.more (Own.congr (g := T) o5 (fun i _ => (box_jo g G n X M i).trans (HBOX.out i))) (show B ≤ _ from by simp; omega))
  have L5 := Lib.hid ((KB.out.alloc (by omega) (.cells #[.slice (some ⟨g, 0, none⟩) n n, .slice (some ⟨G, 0, none⟩) 16 16] 23)).trans (hb5.mono (by simp; omega)))
  clear o5 hb5 KG KM KB
  go_wp2_with fail
  go_ret2
  rw [HT.out, HB.out]
  exact ⟨A', c', rfl, O5.out, L5.out⟩

end Aead
end Go.Proofs.Ytdffbjlbhjppeaa
