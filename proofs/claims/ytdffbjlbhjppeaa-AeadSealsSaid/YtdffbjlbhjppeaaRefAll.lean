/- The document's own answers of layer 4 (package aditref04). -/
import Derived.Test.YtdffbjlbhjppeaaRefBoth
import Derived.Test.YtdffbjlbhjppeaaRefXor
import Derived.Test.YtdffbjlbhjppeaaRefDer
import Derived.Test.YtdffbjlbhjppeaaAeadAll
import Derived.Test.YtdffbjlbhjppeaaTree
namespace Go.Proofs.Ytdffbjlbhjppeaa
namespace Ref
open Go.ChangeShapes Go.WideShapes Go.ChangeAt Go.RowKit
open Num Mem Words State Chacha Quiet PolyN Poly Aead

set_option maxRecDepth 100000 in
theorem counter_ref (v : Nat) (hv : v < 18446744073709551616) (w : World) :
    Calls Try.prog 29 #[.int .u64 v] w fun e w' => ∃ A c, e = .returned (.slice A 12 c) ∧ Rd w' A 12 (bn (byteAt v)) ∧ Below w.heap.size w w' := by
  go_enter Try.func29, Try.ntmps29
  go_wp2_with fail
  refine (bytes_any v 8 (by omega) hv _).mono ?_
  rintro e w1 ⟨A1, c1, rfl, o1, hb1⟩
  have O1 := Lib.hid o1
  have L1 := Lib.hid (below_new (Below.refl _ _) hb1)
  have OB := Lib.hid (Own.below (own_new (w := w) (B := w.heap.size) (t := 5) (n := 4) (f := fun _ => 0) (Nat.le_refl _) rfl (by omega)) hb1 (Nat.le_refl _))
  clear o1 hb1
  have HI := Lib.hid (show ∀ i, i < 4 + 8 → bn (byteAt v) i = if i < 4 then 0 else byteAt v (i - 4) from fun i _ => by
    unfold bn
    by_cases h : i < 4
    · rw [if_pos h, if_neg (by omega)]
    · rw [if_neg h, if_pos (by omega)])
  obtain ⟨T, hT⟩ : ∃ T, bn (byteAt v) = T := ⟨_, rfl⟩
  rw [hT] at HI
  go_wp2_with (at_builtin; refine wpList_catFrom (T := T) rfl (.tmp 3) (.tmp 5) 23 5 (.int .u8 0) 1 Try.underlying23 info_u8 rfl rfl rfl OB.out L1.out L1.out.size 8 c1 A1 rfl (src_own O1.out) (by omega) (by omega) HI.out ?_; intro A8 c8 w8 o8 hb8 hs8 _ _; have O8 := Lib.hid o8; have L8 := Lib.hid hb8; clear o8 hb8)
  go_ret
  rw [hT]
  exact ⟨A8, c8, rfl, O8.out.rd, L8.out⟩

/-- the text of a mark -/
def markT (ft : Nat → Nat) (nt : Nat) (fo : Nat → Nat) (no i : Nat) : Nat := if i < up16 no then zx fo no i else if i < up16 no + up16 nt then zx ft nt (i - up16 no) else lens no nt (i - (up16 no + up16 nt))
theorem markT_lt {ft fo : Nat → Nat} (ht : ∀ i, ft i < 256) (ho : ∀ i, fo i < 256) (nt no i : Nat) : markT ft nt fo no i < 256 := by
  unfold markT
  split
  · exact zx_lt ho _ _
  · split
    · exact zx_lt ht _ _
    · exact lens_lt _ _ _
theorem markT_sum (O ft : Nat → Nat) (nt : Nat) (fo : Nat → Nat) (no : Nat) : sumAt O (markT ft nt fo no) (up16 no + up16 nt + 16) = markW O ft nt fo no := by
  let p : Parts := bothP none no 0 fo none nt 0 ft none (lens no nt)
  have hN : catN p 3 = up16 no + up16 nt + 16 := by
    show 0 + up16 no + up16 nt + up16 16 = _
    rw [Nat.zero_add]
    rfl
  have hF : ∀ i, i < up16 no + up16 nt + 16 → markT ft nt fo no i = catF p 3 i := fun i hi => by
    have e3 : catF p 3 i = if i < catN p 2 then (if i < catN p 1 then (if i < catN p 0 then catF p 0 i else zx fo no (i - catN p 0)) else zx ft nt (i - catN p 1)) else zx (lens no nt) 16 (i - catN p 2) := rfl
    have n0 : catN p 0 = 0 := rfl
    have n1 : catN p 1 = up16 no := Nat.zero_add _
    have n2 : catN p 2 = up16 no + up16 nt := by show 0 + up16 no + up16 nt = _; rw [Nat.zero_add]
    rw [e3, n0, n1, n2, if_neg (show ¬ i < 0 by omega), Nat.sub_zero]
    unfold markT
    by_cases h1 : i < up16 no
    · rw [if_pos h1, if_pos (show i < up16 no + up16 nt by omega), if_pos h1]
    · rw [if_neg h1]
      by_cases h2 : i < up16 no + up16 nt
      · rw [if_pos h2, if_pos h2, if_neg h1]
      · rw [if_neg h2, if_neg h2, zx_in (by omega)]
  unfold sumAt markW
  rw [mac_congr _ false _ 0 _ _ hF, ← hN, mac_parts, macs_three]
  rfl

set_option maxRecDepth 100000 in
set_option maxHeartbeats 1000000 in
theorem mark_ref (b off c b' off' c' : Nat) (key nonce : Nat → Nat) (hk : ∀ i, key i < 256) (hno : ∀ i, nonce i < 256) (hc : 32 ≤ c) (hcm : c ≤ 9223372036854775807) (Ao : Option Addr) (no co : Nat) (fo : Nat → Nat) (hfo : ∀ i, fo i < 256) (At : Option Addr) (nt ct : Nat) (ft : Nat → Nat) (hft : ∀ i, ft i < 256) (hn : no ≤ 65536) (hnt : nt ≤ 65536) (hon : Ao = none → no = 0 ∧ co = 0) (htn : At = none → nt = 0 ∧ ct = 0) (w : World) (hblk : b < w.heap.size) (hblk' : b' < w.heap.size)
    (hcell : ∀ i, i < 32 → w.cell? ⟨b, off + i, none⟩ = some (.int .u8 (key i))) (hcell' : ∀ i, i < 12 → w.cell? ⟨b', off' + i, none⟩ = some (.int .u8 (nonce i))) (hro : Rd w Ao no fo) (hrt : Rd w At nt ft) :
    Calls Try.prog 45 #[.slice (some ⟨b, off, none⟩) 32 c, .slice (some ⟨b', off', none⟩) 12 c', .slice Ao no co, .slice At nt ct] w (SumRefPost w (markF key nonce ft nt fo no)) := by
  have HC := Lib.hid hcell
  have HC' := Lib.hid hcell'
  have HK := Lib.hid hk
  have HN := Lib.hid hno
  have HRO := Lib.hid hro
  have HRT := Lib.hid hrt
  have HON := Lib.hid hon
  have HTN := Lib.hid htn
  obtain ⟨T, hT⟩ : ∃ T, markT ft nt fo no = T := ⟨_, rfl⟩
  have HTB := Lib.hid (show ∀ i, T i < 256 from fun i => by rw [← hT]; exact markT_lt hft hfo _ _ _)
  have HTS := Lib.hid (show sumAt (blk key nonce 0) T (up16 no + up16 nt + 16) = markF key nonce ft nt fo no by rw [← hT]; exact markT_sum _ _ _ _ _)
  obtain ⟨p, hp⟩ : ∃ p, up16 no = p := ⟨_, rfl⟩
  obtain ⟨q, hq⟩ : ∃ q, up16 nt = q := ⟨_, rfl⟩
  have hp1 : p ≤ 65552 := by unfold up16 at hp; omega
  have hq1 : q ≤ 65552 := by unfold up16 at hq; omega
  have H1 := Lib.hid (show ∀ i, i < 0 + p → T i = if i < 0 then T i else zx fo no (i - 0) from fun i hi => by
    rw [if_neg (by omega), Nat.sub_zero, ← hT]
    unfold markT
    rw [hp, if_pos (by omega)])
  have H2 := Lib.hid (show ∀ i, i < p + q → T i = if i < p then T i else zx ft nt (i - p) from fun i hi => by
    by_cases h : i < p
    · rw [if_pos h]
    · rw [if_neg h, ← hT]
      unfold markT
      rw [hp, hq, if_neg h, if_pos hi])
  have H3 := Lib.hid (show ∀ i, i < p + q + 8 → T i = if i < p + q then T i else byteAt no (i - (p + q)) from fun i hi => by
    by_cases h : i < p + q
    · rw [if_pos h]
    · rw [if_neg h, ← hT]
      unfold markT lens
      rw [hp, hq, if_neg (by omega), if_neg h, if_pos (by omega)])
  have H4 := Lib.hid (show ∀ i, i < p + q + 8 + 8 → T i = if i < p + q + 8 then T i else byteAt nt (i - (p + q + 8)) from fun i hi => by
    by_cases h : i < p + q + 8
    · rw [if_pos h]
    · rw [if_neg h, ← hT]
      unfold markT lens
      rw [hp, hq, if_neg (by omega), if_neg (by omega), if_neg (by omega), show i - (p + q) - 8 = i - (p + q + 8) by omega])
  rw [hp, hq] at HTS
  clear hcell hcell' hk hno hro hrt hon htn hT hft hfo
  go_enter Try.func45, Try.ntmps45
  go_wp2_with fail
  refine (pad_any Ao no co fo (by omega) HON.out _ HRO.out).mono ?_
  rintro e w1 ⟨A1, c1, rfl, o1, hb1⟩
  rw [hp] at o1 ⊢
  have O1 := Lib.hid o1
  have L1 := Lib.hid hb1
  clear o1 hb1
  go_upto_region 3 with (at_builtin; refine wpList_catFrom (T := T) rfl (.tmp 10) (.tmp 12) 23 5 (.int .u8 0) 1 Try.underlying23 info_u8 rfl rfl rfl (Own.nil w1 w.heap.size 5 T) L1.out L1.out.size p c1 A1 rfl (src_own O1.out) (by omega) (by omega) H1.out ?_)
  intro A2 c2 w2 o2 hb2 hs2 _ _
  have O2 := Lib.hid (show Own w2 w.heap.size 5 A2 p c2 T by simpa using o2)
  have L2 := Lib.hid hb2
  clear o2 hb2 O1 L1
  try rw [Nat.zero_add]
  go_wp2_with fail
  refine (pad_any At nt ct ft (by omega) HTN.out _ (HRT.out.below L2.out (Nat.le_refl _))).mono ?_
  rintro e w3 ⟨A3, c3, rfl, o3, hb3⟩
  rw [hq] at o3 ⊢
  have O3 := Lib.hid o3
  have O2' := Lib.hid (O2.out.below hb3 (Nat.le_refl _))
  have L3 := Lib.hid (below_trans L2.out hb3)
  clear o3 hb3 O2 L2
  go_upto_region 4 with (at_builtin; refine wpList_catFrom (T := T) rfl (.tmp 14) (.tmp 16) 23 5 (.int .u8 0) 1 Try.underlying23 info_u8 rfl rfl rfl O2'.out L3.out L3.out.size q c3 A3 rfl (src_own O3.out) (by omega) (by omega) H2.out ?_; intro A4 c4 w4 o4 hb4 hs4 _ _; have O4 := Lib.hid o4; have L4 := Lib.hid hb4; clear o4 hb4 O3 O2' L3)
  have hwo : (no : Int) < 18446744073709551616 := by omega
  have hwt : (nt : Int) < 18446744073709551616 := by omega
  go_wp2_with fail
  refine (bytes_any no 8 (by omega) (by omega) _).mono ?_
  rintro e w5 ⟨A5, c5, rfl, o5, hb5⟩
  have O5 := Lib.hid o5
  have O4' := Lib.hid (O4.out.below hb5 (Nat.le_refl _))
  have L5 := Lib.hid (below_trans L4.out hb5)
  clear o5 hb5 O4 L4
  go_upto_region 5 with (at_builtin; refine wpList_catFrom (T := T) rfl (.tmp 18) (.tmp 22) 23 5 (.int .u8 0) 1 Try.underlying23 info_u8 rfl rfl rfl O4'.out L5.out L5.out.size 8 c5 A5 rfl (src_own O5.out) (by omega) (by omega) H3.out ?_; intro A6 c6 w6 o6 hb6 hs6 _ _; have O6 := Lib.hid o6; have L6 := Lib.hid hb6; clear o6 hb6 O5 O4' L5)
  go_wp2_with fail
  refine (bytes_any nt 8 (by omega) (by omega) _).mono ?_
  rintro e w7 ⟨A7, c7, rfl, o7, hb7⟩
  have O7 := Lib.hid o7
  have O6' := Lib.hid (O6.out.below hb7 (Nat.le_refl _))
  have L7 := Lib.hid (below_trans L6.out hb7)
  clear o7 hb7 O6 L6
  go_upto_region 6 with (at_builtin; refine wpList_catFrom (T := T) rfl (.tmp 24) (.tmp 28) 23 5 (.int .u8 0) 1 Try.underlying23 info_u8 rfl rfl rfl O6'.out L7.out L7.out.size 8 c7 A7 rfl (src_own O7.out) (by omega) (by omega) H4.out ?_; intro A8 c8 w8 o8 hb8 hs8 _ _; have O8 := Lib.hid o8; have L8 := Lib.hid hb8; clear o8 hb8 O7 O6' L7)
  go_wp2_with fail
  refine (block_ref b off c b' off' c' key nonce HK.out HN.out 0 (by omega) hc hcm _ (Nat.lt_of_lt_of_le hblk L8.out.size) (Nat.lt_of_lt_of_le hblk' L8.out.size) (fun i hi => (L8.out.cell (p := ⟨b, off + i, none⟩) hblk).trans (HC.out i hi)) (fun i hi => (L8.out.cell (p := ⟨b', off' + i, none⟩) hblk').trans (HC'.out i hi))).mono ?_
  rintro e w9 ⟨g, d, rfl, o9, hb9⟩
  have hd64 := own_cap o9
  have hdm := own_max o9
  have R9 := Lib.hid (rd_front o9.rd 32 (by omega))
  have O8' := Lib.hid (O8.out.below hb9 (Nat.le_refl _))
  have L9 := Lib.hid (below_trans L8.out hb9)
  have hcap8 := own_cap O8.out
  have hmax8 := own_max O8.out
  have HOB := Lib.hid (blk_lt key nonce 0)
  clear o9 hb9 O8 L8
  obtain ⟨O, hO⟩ : ∃ O, blk key nonce 0 = O := ⟨_, rfl⟩
  rw [hO] at R9 HOB HTS
  clear hO
  have hd32 : (32 : Int) ≤ (d : Int) := by omega
  go_wp2_with fail
  refine (sum_ref (some ⟨g, 0, none⟩) 32 d O HOB.out (by omega) (by omega) (by omega) hdm A8 (p + q + 8 + 8) c8 T HTB.out (by omega) hcap8 hmax8 _ R9.out O8'.out.rd).mono ?_
  rintro e w10 ⟨A10, c10, rfl, r10, hc10, hb10⟩
  rw [show p + q + 8 + 8 = p + q + 16 by omega, HTS.out] at r10
  have R10 := Lib.hid r10
  have L10 := Lib.hid (below_trans L9.out hb10)
  clear r10 hb10
  go_wp2_with fail
  go_ret
  exact ⟨A10, c10, rfl, R10.out, hc10, L10.out⟩

end Ref
end Go.Proofs.Ytdffbjlbhjppeaa

namespace Go.Proofs.Ytdffbjlbhjppeaa
namespace Ref
open Go.ChangeShapes Go.WideShapes Go.ChangeAt Go.RowKit
open Num Mem Words State Chacha Quiet PolyN Poly Aead

theorem own_none {w : World} {B t n c : Nat} {A : Option Addr} {f : Nat → Nat} (h : Own w B t A n c f) (e0 : A = none) : n = 0 ∧ c = 0 := by
  subst e0
  rcases h.2 with ⟨e, z⟩ | ⟨b, cap, cur, e, _⟩
  · injection e with _ e2 e3
    exact ⟨z, e3⟩
  · injection e with e1
    cases e1
theorem rd_none {w : World} {n c : Nat} {A : Option Addr} {f : Nat → Nat} (h : Rd w A n f) (hn : 0 < n) (e0 : A = none) : n = 0 ∧ c = 0 := by
  rcases h with h | ⟨b, off, e, _⟩
  · omega
  · rw [e] at e0
    cases e0

def SealRef (w : World) (key nonce f : Nat → Nat) (n : Nat) (fo : Nat → Nat) (no : Nat) (e : Ending) (w' : World) : Prop :=
  ∃ A' c', e = .returned (.tuple #[.slice A' (sealN n no) c', .int .i64 (sealE n no)]) ∧ Rd w' A' (sealN n no) (boxF key nonce f n fo no) ∧ Below w.heap.size w w'

set_option maxRecDepth 100000 in
set_option maxHeartbeats 1000000 in
theorem seal_ref (b off c b' off' c' : Nat) (key nonce : Nat → Nat) (hk : ∀ i, key i < 256) (hno : ∀ i, nonce i < 256) (hc : 32 ≤ c) (hcm : c ≤ 9223372036854775807) (A : Option Addr) (n cA : Nat) (f : Nat → Nat) (hf : ∀ i, f i < 256) (Ao : Option Addr) (no co : Nat) (fo : Nat → Nat) (hfo : ∀ i, fo i < 256) (hon : Ao = none → no = 0 ∧ co = 0) (w : World) (hblk : b < w.heap.size) (hblk' : b' < w.heap.size)
    (hcell : ∀ i, i < 32 → w.cell? ⟨b, off + i, none⟩ = some (.int .u8 (key i))) (hcell' : ∀ i, i < 12 → w.cell? ⟨b', off' + i, none⟩ = some (.int .u8 (nonce i))) (hr : Rd w A n f) (hro : Rd w Ao no fo) :
    Calls Try.prog 25 #[.slice (some ⟨b, off, none⟩) 32 c, .slice (some ⟨b', off', none⟩) 12 c', .slice A n cA, .slice Ao no co] w (SealRef w key nonce f n fo no) := by
  have HC := Lib.hid hcell
  have HC' := Lib.hid hcell'
  have HK := Lib.hid hk
  have HN := Lib.hid hno
  have HF := Lib.hid hf
  have HFO := Lib.hid hfo
  have HR := Lib.hid hr
  have HRO := Lib.hid hro
  have HON := Lib.hid hon
  clear hcell hcell' hk hno hf hfo hr hro hon
  go_enter Try.func25, Try.ntmps25
  by_cases h1 : 65536 < no
  · have hd : decide ((65536 : Int) < (no : Int)) = true := decide_eq_true (by omega)
    go_wp2_with fail
    go_ret2
    have e1 : sealN n no = 0 := by rw [sealN, if_neg (by omega)]
    have e2 : sealE n no = 2 := by rw [sealE, if_neg (by omega)]
    unfold SealRef
    rw [e1, e2]
    exact ⟨none, 0, rfl, .inl rfl, Below.refl _ _⟩
  have hd : decide ((65536 : Int) < (no : Int)) = false := decide_eq_false (by omega)
  by_cases h2 : 65536 < n
  · have hd2 : decide ((65536 : Int) < (n : Int)) = true := decide_eq_true (by omega)
    go_wp2_with fail
    go_ret2
    have e1 : sealN n no = 0 := by rw [sealN, if_neg (by omega)]
    have e2 : sealE n no = 2 := by rw [sealE, if_neg (by omega)]
    unfold SealRef
    rw [e1, e2]
    exact ⟨none, 0, rfl, .inl rfl, Below.refl _ _⟩
  have hd2 : decide ((65536 : Int) < (n : Int)) = false := decide_eq_false (by omega)
  go_wp2_with fail
  refine (xor_own b off c b' off' c' key nonce HK.out HN.out 1 (by omega) hc hcm A n cA f HF.out (by omega) _ hblk hblk' HC.out HC'.out HR.out).mono ?_
  rintro e w1 ⟨hb1, h⟩
  obtain ⟨A1, c1, rfl, o1⟩ : ∃ A c, e = .returned (.tuple #[.slice A n c, .int .i64 0]) ∧ Own w1 w.heap.size 5 A n c (xo key nonce 1 f) := by
    rcases h with ⟨_, h⟩ | ⟨h, _⟩
    · exact h
    · omega
  have HX := Lib.hid (xo_lt key nonce 1 HF.out)
  have HBOX := Lib.hid (show ∀ i, i < n + 16 → boxF key nonce f n fo no i = if i < n then xo key nonce 1 f i else markF key nonce (xo key nonce 1 f) n fo no (i - n) from fun i _ => rfl)
  obtain ⟨X, hX⟩ : ∃ X, xo key nonce 1 f = X := ⟨_, rfl⟩
  obtain ⟨T, hT⟩ : ∃ T, boxF key nonce f n fo no = T := ⟨_, rfl⟩
  rw [hX] at o1 HX
  rw [hX, hT] at HBOX
  have HT := Lib.hid hT
  have O1 := Lib.hid o1
  have L1 := Lib.hid hb1
  have HMB := Lib.hid (markF_lt key nonce X n fo no)
  clear o1 hb1 hX hT HR
  go_wp2_with fail
  refine (mark_ref b off c b' off' c' key nonce HK.out HN.out hc hcm Ao no co fo HFO.out A1 n c1 X HX.out (by omega) (by omega) HON.out (own_none O1.out) _ (Nat.lt_of_lt_of_le hblk L1.out.size) (Nat.lt_of_lt_of_le hblk' L1.out.size) (fun i hi => (L1.out.cell (p := ⟨b, off + i, none⟩) hblk).trans (HC.out i hi)) (fun i hi => (L1.out.cell (p := ⟨b', off' + i, none⟩) hblk').trans (HC'.out i hi)) (HRO.out.below L1.out (Nat.le_refl _)) O1.out.rd).mono ?_
  rintro e w2 ⟨A2, c2, rfl, r2, hc2, hb2⟩
  obtain ⟨M, hM⟩ : ∃ M, markF key nonce X n fo no = M := ⟨_, rfl⟩
  rw [hM] at r2 HBOX
  have R2 := Lib.hid r2
  have O2 := Lib.hid (O1.out.below hb2 (Nat.le_refl _))
  have L2 := Lib.hid (below_trans L1.out hb2)
  clear r2 hb2 hM O1 L1 HC HC'
  go_wp2_with (at_builtin; refine wpList_catFrom (T := T) rfl (.tmp 27) (.tmp 32) 23 5 (.int .u8 0) 1 Try.underlying23 info_u8 rfl rfl rfl O2.out L2.out L2.out.size 16 c2 A2 rfl (src_rd R2.out (rd_none R2.out (by omega))) (by omega) (by omega) HBOX.out ?_; intro A8 c8 w8 o8 hb8 hs8 _ _; have O8 := Lib.hid o8; have L8 := Lib.hid hb8; clear o8 hb8)
  go_ret2
  unfold SealRef
  rw [HT.out, show sealN n no = n + 16 by rw [sealN, if_pos ⟨by omega, by omega⟩], show sealE n no = 0 by rw [sealE, if_pos ⟨by omega, by omega⟩]]
  exact ⟨A8, c8, rfl, O8.out.rd, L8.out⟩

end Ref
end Go.Proofs.Ytdffbjlbhjppeaa

namespace Go.Proofs.Ytdffbjlbhjppeaa
namespace Ref
open Go.ChangeShapes Go.WideShapes Go.ChangeAt Go.RowKit
open Num Mem Words State Chacha Quiet PolyN Poly Aead

set_option maxRecDepth 100000 in
set_option maxHeartbeats 1000000 in
theorem short_ref (b off c b' off' c' : Nat) (key nonce : Nat → Nat) (hk : ∀ i, key i < 256) (hno : ∀ i, nonce i < 256) (hc : 32 ≤ c) (hcm : c ≤ 9223372036854775807) (hc' : 24 ≤ c') (hcm' : c' ≤ 9223372036854775807) (w : World) (hblk : b < w.heap.size) (hblk' : b' < w.heap.size)
    (hcell : ∀ i, i < 32 → w.cell? ⟨b, off + i, none⟩ = some (.int .u8 (key i))) (hcell' : ∀ i, i < 24 → w.cell? ⟨b', off' + i, none⟩ = some (.int .u8 (nonce i))) :
    Calls Try.prog 27 #[.slice (some ⟨b, off, none⟩) 32 c, .slice (some ⟨b', off', none⟩) 24 c'] w fun e w' => ∃ A d A2 d2, e = .returned (.tuple #[.slice A 32 d, .slice A2 12 d2]) ∧ Own w' w.heap.size 5 A 32 d (der key nonce) ∧ Own w' w.heap.size 5 A2 12 d2 (bn fun i => nonce (16 + i)) ∧ Below w.heap.size w w' := by
  have HC := Lib.hid hcell
  have HC' := Lib.hid hcell'
  have HK := Lib.hid hk
  have HN := Lib.hid hno
  clear hcell hcell' hk hno
  have hi1 : (16 : Int) ≤ (c' : Int) := by omega
  have hi2 : ¬ c' = 16 := by omega
  have hi3 : (24 : Int) ≤ (c' : Int) := by omega
  go_enter Try.func27, Try.ntmps27
  go_wp2_with fail
  refine region_start (fun w' => Below w.heap.size w w') (by kernel_rfl) (below_drewN (Below.refl _ _) 1) ?_
  intro v0 hS
  refine take 0 _ rfl (by kernel_rfl) (by kernel_rfl) (by kernel_rfl) (fun _ _ _ h => h) (by rfl) hS (by intro w _; go_simp; with_reducible rfl) ?_
  try simp only [Act.put, List.setIfInBounds_toArray, List.set_cons_zero, List.set_cons_succ]
  refine take 1 _ rfl (by kernel_rfl) (by kernel_rfl) (by kernel_rfl) (fun _ _ _ h => h) (by rfl) hS (by intro w _; go_simp; with_reducible rfl) ?_
  try simp only [Act.put, List.setIfInBounds_toArray, List.set_cons_zero, List.set_cons_succ]
  refine take 2 _ rfl (by kernel_rfl) (by kernel_rfl) (by kernel_rfl) (fun _ _ _ h => h) (by rfl) hS (by intro w _; go_simp; with_reducible rfl) ?_
  try simp only [Act.put, List.setIfInBounds_toArray, List.set_cons_zero, List.set_cons_succ]
  refine take 5 _ rfl (by kernel_rfl) (by kernel_rfl) (by kernel_rfl) (fun _ _ _ h => h) (by rfl) hS (by intro w _; go_simp; with_reducible rfl) ?_
  try simp only [Act.put, List.setIfInBounds_toArray, List.set_cons_zero, List.set_cons_succ]
  refine take 6 _ rfl (by kernel_rfl) (by kernel_rfl) (by kernel_rfl) (fun _ _ _ h => h) (by rfl) hS (by intro w _; go_simp; with_reducible rfl) ?_
  try simp only [Act.put, List.setIfInBounds_toArray, List.set_cons_zero, List.set_cons_succ]
  refine ready_two 3 4 rfl rfl (by kernel_rfl) (by rfl) (by rfl) ?_ ?_
  · intro K hK
    go_simp
    refine (derive_own b off c b' off' c' key nonce HK.out HN.out hc hcm (by omega) hcm' _ (Nat.lt_of_lt_of_le hblk hS.size) (Nat.lt_of_lt_of_le hblk' hS.size) (fun i hi => (hS.cell (p := ⟨b, off + i, none⟩) hblk).trans (HC.out i hi)) (fun i hi => (hS.cell (p := ⟨b', off' + i, none⟩) hblk').trans (HC'.out i (by omega)))).mono ?_
    rintro e v1 ⟨AD, dd, rfl, od, hb⟩
    have OD1 := Lib.hid (Own.more od hS.size)
    clear od
    go_simp
    replace hS := below_trans hS hb
    refine hK.out _ _ hS ?_
    clear hK hb K
    try simp only [Act.put, List.setIfInBounds_toArray, List.set_cons_zero, List.set_cons_succ]
    refine alone 4 rfl (by kernel_rfl) (by rfl) ?_
    intro K hK
    go_simp
    refine hK.out _ _ (hS.alloc hS.size _) ?_
    clear hK K
    try simp only [Act.put, List.setIfInBounds_toArray, List.set_cons_zero, List.set_cons_succ]
    refine cut_any (fun X => Own X w.heap.size 5 (some ⟨v1.heap.size, 0, none⟩) 4 4 (fun _ => 0) ∧ Own X w.heap.size 5 AD 32 dd (der key nonce) ∧ Below w.heap.size w X) ⟨own_new hS.size rfl (by omega), OD1.out.alloc _, hS.alloc hS.size _⟩ ?_
    rintro v2 ⟨o4, od, hS'⟩
    have hap : Apart (some ⟨v1.heap.size, 0, none⟩) AD := by
      rintro x x' e rfl
      injection e with e
      subst e
      rcases own_at OD1.out with h | ⟨g, h, _, hlt⟩
      · cases h
      · injection h with h
        subst h
        show v1.heap.size ≠ g
        omega
    clear hS
    have hS := hS'
    clear hS'
    generalize v1.heap.size = g4 at o4 hap ⊢
    have O4 := Lib.hid o4
    have OD := Lib.hid od
    have HAP := Lib.hid hap
    clear o4 od hap OD1
    refine alone 7 rfl (by kernel_rfl) (by rfl) ?_
    intro K hK
    refine wp_cat _ _ 23 5 (.int .u8 0) 1 Try.underlying23 info_u8 rfl rfl rfl O4.out hS hS.size ⟨b', off' + 16, none⟩ 8 (c' - 16) rfl (byteCells (fun i => nonce (16 + i)) 8) (byteCells_length _ _) (rd_src (fun i hi => by rw [Nat.add_assoc]; exact (hS.cell (p := ⟨b', off' + (16 + i), none⟩) hblk').trans (HC'.out (16 + i) (by omega)))) (bytes_each _ _) (by omega) (by omega) ?_
    intro A8 c8 w8 ho8 hb8 hs8 hg8 hat8
    have OD8 := Lib.hid (Own.grown OD.out hg8 HAP.out)
    refine hK.out _ _ hb8 ?_
    clear hK K hS hg8 hat8
    have hS := hb8
    have HO8 := Lib.hid ho8
    clear ho8 hb8
    try simp only [Act.put, List.setIfInBounds_toArray, List.set_cons_zero, List.set_cons_succ]
    refine take 8 _ rfl (by kernel_rfl) (by kernel_rfl) (by kernel_rfl) (fun _ _ _ h => h) (by rfl) hS (by intro w _; go_simp; with_reducible rfl) ?_
    try simp only [Act.put, List.setIfInBounds_toArray, List.set_cons_zero, List.set_cons_succ]
    refine take 9 _ rfl (by kernel_rfl) (by kernel_rfl) (by kernel_rfl) (fun _ _ _ h => h) (by rfl) hS (by intro w _; go_simp; with_reducible rfl) ?_
    try simp only [Act.put, List.setIfInBounds_toArray, List.set_cons_zero, List.set_cons_succ]
    refine region_end (by kernel_rfl) ?_
    have HB8 := Lib.hid hS
    clear hS
    go_wp2_with fail
    go_ret2
    have h8 : Own w8 w.heap.size 5 A8 12 c8 (bn fun i => nonce (16 + i)) := by
      have h := HO8.out
      rw [byteCells_append, byteCells_congr (g := bn fun i => nonce (16 + i)) (fun i hi => by
        unfold bn
        by_cases l : i < 4
        · rw [if_pos l, if_neg (by omega)]
        · rw [if_neg l, if_pos (by omega)])] at h
      exact h
    exact ⟨_, _, _, _, rfl, OD8.out, h8, HB8.out⟩

  · intro K hK
    go_simp
    refine hK.out _ _ (hS.alloc hS.size _) ?_
    clear hK K
    try simp only [Act.put, List.setIfInBounds_toArray, List.set_cons_zero, List.set_cons_succ]
    refine cut_any (fun X => Own X w.heap.size 5 (some ⟨v0.heap.size, 0, none⟩) 4 4 (fun _ => 0) ∧ Below w.heap.size w X ∧ v0.heap.size < X.heap.size) ⟨own_new hS.size rfl (by omega), hS.alloc hS.size _, by simp⟩ ?_
    rintro v1 ⟨o4, hS', hlt4⟩
    clear hS
    have hS := hS'
    clear hS'
    generalize v0.heap.size = g4 at o4 hlt4 ⊢
    have O41 := Lib.hid o4
    clear o4
    refine alone 3 rfl (by kernel_rfl) (by rfl) ?_
    intro K hK
    go_simp
    refine (derive_own b off c b' off' c' key nonce HK.out HN.out hc hcm (by omega) hcm' _ (Nat.lt_of_lt_of_le hblk hS.size) (Nat.lt_of_lt_of_le hblk' hS.size) (fun i hi => (hS.cell (p := ⟨b, off + i, none⟩) hblk).trans (HC.out i hi)) (fun i hi => (hS.cell (p := ⟨b', off' + i, none⟩) hblk').trans (HC'.out i (by omega)))).mono ?_
    rintro e v2 ⟨AD, dd, rfl, od, hb⟩
    have hap : Apart (some ⟨g4, 0, none⟩) AD := by
      rintro x x' e rfl
      injection e with e
      subst e
      rcases own_at od with h | ⟨g, h, hge, _⟩
      · cases h
      · injection h with h
        subst h
        show g4 ≠ g
        omega
    have OD := Lib.hid (Own.more od hS.size)
    have O4 := Lib.hid (O41.out.below hb (Nat.le_refl _))
    have HAP := Lib.hid hap
    clear od hap O41 hlt4
    go_simp
    replace hS := below_trans hS hb
    refine hK.out _ _ hS ?_
    clear hK hb K
    try simp only [Act.put, List.setIfInBounds_toArray, List.set_cons_zero, List.set_cons_succ]
    refine alone 7 rfl (by kernel_rfl) (by rfl) ?_
    intro K hK
    refine wp_cat _ _ 23 5 (.int .u8 0) 1 Try.underlying23 info_u8 rfl rfl rfl O4.out hS hS.size ⟨b', off' + 16, none⟩ 8 (c' - 16) rfl (byteCells (fun i => nonce (16 + i)) 8) (byteCells_length _ _) (rd_src (fun i hi => by rw [Nat.add_assoc]; exact (hS.cell (p := ⟨b', off' + (16 + i), none⟩) hblk').trans (HC'.out (16 + i) (by omega)))) (bytes_each _ _) (by omega) (by omega) ?_
    intro A8 c8 w8 ho8 hb8 hs8 hg8 hat8
    have OD8 := Lib.hid (Own.grown OD.out hg8 HAP.out)
    refine hK.out _ _ hb8 ?_
    clear hK K hS hg8 hat8
    have hS := hb8
    have HO8 := Lib.hid ho8
    clear ho8 hb8
    try simp only [Act.put, List.setIfInBounds_toArray, List.set_cons_zero, List.set_cons_succ]
    refine take 8 _ rfl (by kernel_rfl) (by kernel_rfl) (by kernel_rfl) (fun _ _ _ h => h) (by rfl) hS (by intro w _; go_simp; with_reducible rfl) ?_
    try simp only [Act.put, List.setIfInBounds_toArray, List.set_cons_zero, List.set_cons_succ]
    refine take 9 _ rfl (by kernel_rfl) (by kernel_rfl) (by kernel_rfl) (fun _ _ _ h => h) (by rfl) hS (by intro w _; go_simp; with_reducible rfl) ?_
    try simp only [Act.put, List.setIfInBounds_toArray, List.set_cons_zero, List.set_cons_succ]
    refine region_end (by kernel_rfl) ?_
    have HB8 := Lib.hid hS
    clear hS
    go_wp2_with fail
    go_ret2
    have h8 : Own w8 w.heap.size 5 A8 12 c8 (bn fun i => nonce (16 + i)) := by
      have h := HO8.out
      rw [byteCells_append, byteCells_congr (g := bn fun i => nonce (16 + i)) (fun i hi => by
        unfold bn
        by_cases l : i < 4
        · rw [if_pos l, if_neg (by omega)]
        · rw [if_neg l, if_pos (by omega)])] at h
      exact h
    exact ⟨_, _, _, _, rfl, OD8.out, h8, HB8.out⟩


end Ref
end Go.Proofs.Ytdffbjlbhjppeaa

namespace Go.Proofs.Ytdffbjlbhjppeaa
namespace Ref
open Go.ChangeShapes Go.WideShapes Go.ChangeAt Go.RowKit
open Num Mem Words State Chacha Quiet PolyN Poly Aead

def OpenRef (w : World) (key nonce f : Nat → Nat) (n : Nat) (fo : Nat → Nat) (no : Nat) (e : Ending) (w' : World) : Prop :=
  ∃ A' c', e = .returned (.tuple #[.slice A' (openN key nonce f n fo no) c', .int .i64 (openE key nonce f n fo no)]) ∧ Rd w' A' (openN key nonce f n fo no) (xo key nonce 1 f) ∧ Below w.heap.size w w'
theorem strings_beq (s t : ByteArray) : (s.toList == t.toList) = decide (s = t) := by
  rw [ByteArray.toList_eq, ByteArray.toList_eq]
  by_cases h : s = t
  · subst h
    simp
  · have : ¬ s.data.toList = t.data.toList := fun e => h (by
      rcases s with ⟨d⟩
      rcases t with ⟨e'⟩
      congr 1
      exact Array.toList_inj.1 e)
    rw [decide_eq_false h]
    simpa using this
theorem openRef_none {w w' : World} {key nonce f fo : Nat → Nat} {n no : Nat} {r : Int} (h1 : openN key nonce f n fo no = 0) (h2 : openE key nonce f n fo no = r) (hb : Below w.heap.size w w') : OpenRef w key nonce f n fo no (.returned (.tuple #[.slice none 0 0, .int .i64 r])) w' := by
  unfold OpenRef
  rw [h1, h2]
  exact ⟨none, 0, rfl, .inl rfl, hb⟩

set_option maxRecDepth 100000 in
set_option maxHeartbeats 1000000 in
theorem open_mid (b off c b' off' c' : Nat) (key nonce : Nat → Nat) (hk : ∀ i, key i < 256) (hno : ∀ i, nonce i < 256) (hc : 32 ≤ c) (hcm : c ≤ 9223372036854775807) (b3 off3 n m cA : Nat) (f : Nat → Nat) (hf : ∀ i, f i < 256) (Ao : Option Addr) (no co : Nat) (fo : Nat → Nat) (hfo : ∀ i, fo i < 256) (hon : Ao = none → no = 0 ∧ co = 0) (hm : n = m + 16) (hnc : n ≤ cA) (_hcm2 : cA ≤ 9223372036854775807) (h1 : m ≤ 65536) (h2 : no ≤ 65536) (w : World) (hblk : b < w.heap.size) (hblk' : b' < w.heap.size)
    (hcell : ∀ i, i < 32 → w.cell? ⟨b, off + i, none⟩ = some (.int .u8 (key i))) (hcell' : ∀ i, i < 12 → w.cell? ⟨b', off' + i, none⟩ = some (.int .u8 (nonce i))) (hr : Rd w (some ⟨b3, off3, none⟩) n f) (hro : Rd w Ao no fo) :
    Calls Try.prog 31 #[.slice (some ⟨b, off, none⟩) 32 c, .slice (some ⟨b', off', none⟩) 12 c', .slice (some ⟨b3, off3, none⟩) n cA, .slice Ao no co] w (OpenRef w key nonce f n fo no) := by
  have HC := Lib.hid hcell
  have HC' := Lib.hid hcell'
  have HK := Lib.hid hk
  have HN := Lib.hid hno
  have HF := Lib.hid hf
  have HFO := Lib.hid hfo
  have HRO := Lib.hid hro
  have HON := Lib.hid hon
  have HRT := Lib.hid (rd_front hr m (by omega))
  have HRM := Lib.hid (show Rd w (some ⟨b3, off3 + m, none⟩) 16 (fun i => f (m + i)) from by
    rcases hr with h | ⟨b9, o9, e, hb9, hc9⟩
    · omega
    · injection e with e
      injection e with e1 e2
      subst e1
      subst e2
      exact .inr ⟨b3, off3 + m, rfl, hb9, fun i hi => by rw [Nat.add_assoc]; exact hc9 (m + i) (by omega)⟩)
  have hd : decide ((65536 : Int) < (no : Int)) = false := decide_eq_false (by omega)
  have hd2 : decide ((65536 : Int) < (m : Int)) = false := decide_eq_false (by omega)
  have hmn : (m : Int) ≤ (m : Int) + 16 := by omega
  have hmc : (m : Int) ≤ (cA : Int) := by omega
  have hmx : ¬ cA = m := by omega
  have HMB := Lib.hid (markF_lt key nonce f m fo no)
  have HFIT := Lib.hid (show Fits16 key nonce f n fo no ↔ ∀ i, i < 16 → markF key nonce f m fo no i = f (m + i) from by unfold Fits16; rw [hm, Nat.add_sub_cancel])
  have HNE := Lib.hid (show ¬ n < 16 ∧ ¬ (65552 < n ∨ 65536 < no) ∧ n - 16 = m from ⟨by omega, by omega, by omega⟩)
  obtain ⟨M, hM⟩ : ∃ M, markF key nonce f m fo no = M := ⟨_, rfl⟩
  have HM := Lib.hid hM
  rw [hM] at HMB HFIT
  have HST := Lib.hid (strOf_eq_iff (f := M) (g := fun i => f (m + i)) (n := 16) (m := 16) HMB.out (fun i => HF.out _))
  clear hcell hcell' hk hno hf hfo hr hro hon hM
  go_enter Try.func31, Try.ntmps31
  go_upto_region 6 with fail
  refine region_start (fun w' => Below w.heap.size w w') (by kernel_rfl) (below_drewN (Below.refl _ _) 1) ?_
  intro v0 hS
  refine take 0 _ rfl (by kernel_rfl) (by kernel_rfl) (by kernel_rfl) (fun _ _ _ h => h) (by rfl) hS (by intro w _; go_simp; with_reducible rfl) ?_
  try simp only [Act.put, List.setIfInBounds_toArray, List.set_cons_zero, List.set_cons_succ]
  refine take 1 _ rfl (by kernel_rfl) (by kernel_rfl) (by kernel_rfl) (fun _ _ _ h => h) (by rfl) hS (by intro w _; go_simp; with_reducible rfl) ?_
  try simp only [Act.put, List.setIfInBounds_toArray, List.set_cons_zero, List.set_cons_succ]
  refine take 2 _ rfl (by kernel_rfl) (by kernel_rfl) (by kernel_rfl) (fun _ _ _ h => h) (by rfl) hS (by intro w _; go_simp; with_reducible rfl) ?_
  try simp only [Act.put, List.setIfInBounds_toArray, List.set_cons_zero, List.set_cons_succ]
  refine take 3 _ rfl (by kernel_rfl) (by kernel_rfl) (by kernel_rfl) (fun _ _ _ h => h) (by rfl) hS (by intro w _; go_simp; with_reducible rfl) ?_
  try simp only [Act.put, List.setIfInBounds_toArray, List.set_cons_zero, List.set_cons_succ]
  refine take 4 _ rfl (by kernel_rfl) (by kernel_rfl) (by kernel_rfl) (fun _ _ _ h => h) (by rfl) hS (by intro w _; go_simp; with_reducible rfl) ?_
  try simp only [Act.put, List.setIfInBounds_toArray, List.set_cons_zero, List.set_cons_succ]
  refine take 5 _ rfl (by kernel_rfl) (by kernel_rfl) (by kernel_rfl) (fun _ _ _ h => h) (by rfl) hS (by intro w _; go_simp; with_reducible rfl) ?_
  try simp only [Act.put, List.setIfInBounds_toArray, List.set_cons_zero, List.set_cons_succ]
  refine take 8 _ rfl (by kernel_rfl) (by kernel_rfl) (by kernel_rfl) (fun _ _ _ h => h) (by rfl) hS (by intro w _; go_simp; with_reducible rfl) ?_
  try simp only [Act.put, List.setIfInBounds_toArray, List.set_cons_zero, List.set_cons_succ]
  refine take 9 _ rfl (by kernel_rfl) (by kernel_rfl) (by kernel_rfl) (fun _ _ _ h => h) (by rfl) hS (by intro w _; go_simp; with_reducible rfl) ?_
  try simp only [Act.put, List.setIfInBounds_toArray, List.set_cons_zero, List.set_cons_succ]
  refine take 10 _ rfl (by kernel_rfl) (by kernel_rfl) (by kernel_rfl) (fun _ _ _ h => h) (by rfl) hS (by intro w _; go_simp; with_reducible rfl) ?_
  try simp only [Act.put, List.setIfInBounds_toArray, List.set_cons_zero, List.set_cons_succ]
  refine take 11 _ rfl (by kernel_rfl) (by kernel_rfl) (by kernel_rfl) (fun _ _ _ h => h) (by rfl) hS (fun w hw => run_string_op 23 9 5 _ rfl rfl Try.underlying23 Try.underlying5 Try.underlying9 (HRM.out.below hw (Nat.le_refl _))) ?_
  try simp only [Act.put, List.setIfInBounds_toArray, List.set_cons_zero, List.set_cons_succ]
  refine alone 6 rfl (by kernel_rfl) (by rfl) ?_
  intro K hK
  go_simp
  refine (mark_ref b off c b' off' c' key nonce HK.out HN.out hc hcm Ao no co fo HFO.out (some ⟨b3, off3, none⟩) m cA f HF.out (by omega) (by omega) HON.out (fun e => by cases e) _ (Nat.lt_of_lt_of_le hblk hS.size) (Nat.lt_of_lt_of_le hblk' hS.size) (fun i hi => (hS.cell (p := ⟨b, off + i, none⟩) hblk).trans (HC.out i hi)) (fun i hi => (hS.cell (p := ⟨b', off' + i, none⟩) hblk').trans (HC'.out i hi)) (HRO.out.below hS (Nat.le_refl _)) (HRT.out.below hS (Nat.le_refl _))).mono ?_
  rintro e v1 ⟨AM, cm, rfl, rm, _, hb⟩
  rw [HM.out] at rm
  have RM := Lib.hid rm
  clear rm
  go_simp
  replace hS := below_trans hS hb
  refine hK.out _ _ hS ?_
  clear hK hb K
  try simp only [Act.put, List.setIfInBounds_toArray, List.set_cons_zero, List.set_cons_succ]
  refine alone_run 7 _ rfl (by kernel_rfl) (by rfl) hS (run_string_op 23 9 5 _ rfl rfl Try.underlying23 Try.underlying5 Try.underlying9 (RM.out)) ?_
  try simp only [Act.put, List.setIfInBounds_toArray, List.set_cons_zero, List.set_cons_succ]
  refine take 12 _ rfl (by kernel_rfl) (by kernel_rfl) (by kernel_rfl) (fun _ _ _ h => h) (by rfl) hS (by intro w _; go_simp; with_reducible rfl) ?_
  try simp only [Act.put, List.setIfInBounds_toArray, List.set_cons_zero, List.set_cons_succ]
  refine region_end (by kernel_rfl) ?_
  have HB8 := Lib.hid hS
  clear hS
  by_cases hfit : Fits16 key nonce f n fo no
  · have hz : ((Mem.strOf M 16).toList == (Mem.strOf (fun i => f (m + i)) 16).toList) = true := by rw [strings_beq, decide_eq_true_eq]; exact HST.out.2 ⟨rfl, HFIT.out.1 hfit⟩
    have e1 : openN key nonce f n fo no = m := by rw [openN, if_neg HNE.out.1, if_neg HNE.out.2.1, if_pos hfit, HNE.out.2.2]
    have e2 : openE key nonce f n fo no = 0 := by rw [openE, if_neg HNE.out.1, if_neg HNE.out.2.1, if_pos hfit]
    have E1 := Lib.hid e1
    have E2 := Lib.hid e2
    rw [hz]
    clear hz hfit e1 e2 RM HST HFIT HM
    go_wp2_with fail
    refine (xor_own b off c b' off' c' key nonce HK.out HN.out 1 (by omega) hc hcm (some ⟨b3, off3, none⟩) m cA f HF.out (by omega) _ (Nat.lt_of_lt_of_le hblk HB8.out.size) (Nat.lt_of_lt_of_le hblk' HB8.out.size) (fun i hi => (HB8.out.cell (p := ⟨b, off + i, none⟩) hblk).trans (HC.out i hi)) (fun i hi => (HB8.out.cell (p := ⟨b', off' + i, none⟩) hblk').trans (HC'.out i hi)) (HRT.out.below HB8.out (Nat.le_refl _))).mono ?_
    rintro e w1 ⟨hb1, h⟩
    obtain ⟨A1, c1, rfl, o1⟩ : ∃ A c, e = .returned (.tuple #[.slice A m c, .int .i64 0]) ∧ Own w1 v1.heap.size 5 A m c (xo key nonce 1 f) := by
      rcases h with ⟨_, h⟩ | ⟨h, _⟩
      · exact h
      · omega
    have O1 := Lib.hid o1
    have L1 := Lib.hid (below_trans HB8.out hb1)
    clear o1 hb1 h
    obtain ⟨X, hX⟩ : ∃ X, xo key nonce 1 f = X := ⟨_, rfl⟩
    rw [hX] at O1
    have HX := Lib.hid hX
    clear hX
    go_wp2_with fail
    go_ret2
    unfold OpenRef
    rw [E1.out, E2.out, HX.out]
    exact ⟨A1, c1, rfl, O1.out.rd, L1.out⟩
  · have hz : ((Mem.strOf M 16).toList == (Mem.strOf (fun i => f (m + i)) 16).toList) = false := by rw [strings_beq, decide_eq_false_iff_not]; exact fun h => hfit (HFIT.out.2 (HST.out.1 h).2)
    have e1 : openN key nonce f n fo no = 0 := by rw [openN, if_neg HNE.out.1, if_neg HNE.out.2.1, if_neg hfit]
    have e2 : openE key nonce f n fo no = 20 := by rw [openE, if_neg HNE.out.1, if_neg HNE.out.2.1, if_neg hfit]
    have E1 := Lib.hid e1
    have E2 := Lib.hid e2
    rw [hz]
    clear hz hfit e1 e2 RM HST HFIT HM
    go_wp2_with fail
    go_ret2
    exact openRef_none E1.out E2.out HB8.out

set_option maxRecDepth 100000 in
theorem open_ref (b off c b' off' c' : Nat) (key nonce : Nat → Nat) (hk : ∀ i, key i < 256) (hno : ∀ i, nonce i < 256) (hc : 32 ≤ c) (hcm : c ≤ 9223372036854775807) (A : Option Addr) (n cA : Nat) (f : Nat → Nat) (hf : ∀ i, f i < 256) (Ao : Option Addr) (no co : Nat) (fo : Nat → Nat) (hfo : ∀ i, fo i < 256) (hon : Ao = none → no = 0 ∧ co = 0) (hnc : n ≤ cA) (hcm2 : cA ≤ 9223372036854775807) (w : World) (hblk : b < w.heap.size) (hblk' : b' < w.heap.size)
    (hcell : ∀ i, i < 32 → w.cell? ⟨b, off + i, none⟩ = some (.int .u8 (key i))) (hcell' : ∀ i, i < 12 → w.cell? ⟨b', off' + i, none⟩ = some (.int .u8 (nonce i))) (hr : Rd w A n f) (hro : Rd w Ao no fo) :
    Calls Try.prog 31 #[.slice (some ⟨b, off, none⟩) 32 c, .slice (some ⟨b', off', none⟩) 12 c', .slice A n cA, .slice Ao no co] w (OpenRef w key nonce f n fo no) := by
  by_cases h16 : n < 16
  · have e1 : openN key nonce f n fo no = 0 := by rw [openN, if_pos h16]
    have e2 : openE key nonce f n fo no = 10 := by rw [openE, if_pos h16]
    have E1 := Lib.hid e1
    have E2 := Lib.hid e2
    clear e1 e2 hcell hcell' hr hro hk hno hf hfo hon
    go_enter Try.func31, Try.ntmps31
    go_wp2_with fail
    go_ret2
    exact openRef_none E1.out E2.out (Below.refl _ _)
  · by_cases hl : 65552 < n ∨ 65536 < no
    · have e1 : openN key nonce f n fo no = 0 := by rw [openN, if_neg h16, if_pos hl]
      have e2 : openE key nonce f n fo no = 2 := by rw [openE, if_neg h16, if_pos hl]
      have E1 := Lib.hid e1
      have E2 := Lib.hid e2
      obtain ⟨m, hm⟩ : ∃ m, n = m + 16 := ⟨n - 16, by omega⟩
      clear e1 e2 hcell hcell' hr hro hk hno hf hfo hon
      go_enter Try.func31, Try.ntmps31
      by_cases h2 : 65536 < no
      · have hd : decide ((65536 : Int) < (no : Int)) = true := decide_eq_true (by omega)
        go_wp2_with fail
        go_ret2
        exact openRef_none E1.out E2.out (Below.refl _ _)
      · have hd : decide ((65536 : Int) < (no : Int)) = false := decide_eq_false (by omega)
        have hd2 : decide ((65536 : Int) < (m : Int)) = true := decide_eq_true (by omega)
        go_wp2_with fail
        go_ret2
        exact openRef_none E1.out E2.out (Below.refl _ _)
    · obtain ⟨b3, off3, rfl⟩ : ∃ b3 off3, A = some ⟨b3, off3, none⟩ := by
        rcases hr with h | ⟨b3, off3, h, _⟩
        · omega
        · exact ⟨b3, off3, h⟩
      exact open_mid b off c b' off' c' key nonce hk hno hc hcm b3 off3 n (n - 16) cA f hf Ao no co fo hfo hon (by omega) hnc hcm2 (by omega) (by omega) w hblk hblk' hcell hcell' hr hro

end Ref
end Go.Proofs.Ytdffbjlbhjppeaa
