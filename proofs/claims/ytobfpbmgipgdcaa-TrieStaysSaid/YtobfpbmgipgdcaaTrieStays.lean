/- The walk of TrieStays. -/
import Derived.Test.YtobfpbmgipgdcaaTrPlay
namespace Go.Proofs.Ytobfpbmgipgdcaa
namespace TrieStays
open Go.ChangeShapes Go.WideShapes Go.ChangeAt Go.RowKit
open Num Mem Words Chacha Aead Poly Quiet Ops Adr RowS Tri

theorem fits_of {t : Tm} (h : t.Fit) : Fits t.L := fun x hx => (h.own x hx).1
set_option maxRecDepth 100000 in
set_option maxHeartbeats 8000000 in
theorem walk0 {w : World} {A A2 : Option Addr} {n c n2 c2 : Nat} {Q Q2 : Nat → Opm} (h : IsOps w A n Q) (h2 : IsOps w A2 n2 Q2) (hn : n ≤ 9223372036854775807) :
    Calls Try.prog 5 #[.slice A n c, .slice A2 n2 c2] w fun e w' => e = .returned (.bool true) ∧ Below w.heap.size w w' := by
  have HPL := Lib.hid (played_any (c := c) h hn)
  have HO := Lib.hid h2
  have hfit0 : (playT Q emT (min n 80)).Fit := play_fit em_fit fun i hi => h.ok i (by omega)
  obtain ⟨T, hT⟩ : ∃ T, playT Q emT (min n 80) = T := ⟨_, rfl⟩
  rw [hT] at HPL hfit0
  clear hT h
  have HF := Lib.hid hfit0
  have HFIT := Lib.hid (fun (k : Nat) (hk : k ≤ n2) => play_fit (Q := Q2) (k := k) hfit0 (fun i hi => h2.ok i (Nat.lt_of_lt_of_le hi hk)))
  have HDO := Lib.hid (fun (X : World) (t : Tm) (q : Option Nat) (x : Opm) (h1 : TrW X t q) (h2 : t.Fit) (h3 : x.Ok) => do_any h1 h2 h3)
  have HROU := Lib.hid (fun (X : World) (q : Option Nat) (h : TrW X T q) => routes_any h (Nat.le_trans hfit0.len (by decide)))
  have HCNT := Lib.hid (fun (X : World) (q : Option Nat) (h : TrW X T q) => count_any h (Nat.le_trans hfit0.len (by decide)))
  have HAS := Lib.hid (fun (X : World) (A : Option Addr) (c : Nat) (h : RdQ X A T.L) => as_any c h (Nat.le_trans hfit0.len (by decide)))
  have HSA := Lib.hid (fun (X : World) (A A2 : Option Addr) (c c2 : Nat) (h : RdQ X A T.L) (h2 : RdQ X A2 T.L) => same_any c c2 h h2 (Nat.le_trans hfit0.len (by decide)) (Nat.le_trans hfit0.len (by decide)) (fits_of hfit0) (fits_of hfit0) true ⟨fun _ => rfl, fun _ => rfl⟩)
  have HROU2 := HROU.out
  rw [show routes2 T.a T.b = T.L from rfl] at HROU2
  have HROU := Lib.hid HROU2
  have HCNT2 := HCNT.out
  rw [show routes2 T.a T.b = T.L from rfl] at HCNT2
  have HCNT := Lib.hid HCNT2
  have HLL := Lib.hid hfit0.len
  obtain ⟨L, hL⟩ : ∃ L, T.L = L := ⟨_, rfl⟩
  rw [hL] at HROU HCNT HAS HSA HLL
  obtain ⟨m, hm⟩ : ∃ m, L.length = m := ⟨_, rfl⟩
  rw [hm] at HROU HCNT HAS HSA HLL
  clear HROU2 HCNT2 hL hm hfit0 h2
  go_enter Try.func5, Try.ntmps5
  go_upto_region 2 with (go_at_call 19; refine HPL.out.mono ?_; rintro e X1 ⟨q, rfl, ht, hb⟩; have HX1 := Lib.hid (And.intro ht hb); clear ht hb HPL)
  go_upto_region 3 with (first
    | (go_at_call 17; refine (HROU.out _ q HX1.out.1).mono ?_; rintro e X2 ⟨R, rfl, hr, hb⟩; have HX2 := Lib.hid (show RdQ X2 R L ∧ TrW X2 T q ∧ Below w.heap.size w X2 from ⟨rdQ_of hr, HX1.out.1.below hb, HX1.out.2.trans (hb.mono HX1.out.2.size)⟩); clear hr hb HX1)
    | (go_at_call 16; refine (HAS.out _ R m HX2.out.1).mono ?_; rintro e X3 ⟨R2, cr2, rfl, hr, hb⟩; have HX3 := Lib.hid (show RdQ X3 R2 L ∧ TrW X3 T q ∧ Below w.heap.size w X3 from ⟨hr, HX2.out.2.1.below hb, HX2.out.2.2.trans (hb.mono HX2.out.2.2.size)⟩); clear hr hb HX2))
  go_wp2_with fail
  go_loopw [7, 8] (fun t7 t8 X => ∃ (k : Nat) (u : Option Nat), k ≤ n2 ∧ k ≤ 40 ∧ t8 = .int .i64 k ∧ t7 = ptrV u ∧ TrW X (playT Q2 T k) u ∧ RdQ X R2 L ∧ TrW X T q ∧ Below w.heap.size w X) (fun _ i _ => 40 - (intOf i).toNat)
  case atStart => exact ⟨0, q, Nat.zero_le _, Nat.zero_le _, rfl, rfl, HX3.out.2.1, HX3.out⟩
  case round =>
    obtain ⟨k, u, hk, hk4, rfl, rfl, hW⟩ := hrel
    have HW := Lib.hid hW
    clear hW
    by_cases hgo : k < n2 ∧ k < 40
    · obtain ⟨hlt, h40⟩ := hgo
      obtain ⟨b, off, rfl, hbl, hr⟩ := HO.out.range (i := k) (Below.refl _ _) hlt
      have HR := Lib.hid (fun V (hV : Below w.heap.size w V) => range_below hr hV hbl)
      have HXL := Lib.hid (Q2 k).len
      have HC := Lib.hid (HDO.out wr (playT Q2 T k) u (Q2 k) HW.out.1 (HFIT.out k hk) (HO.out.ok k hlt))
      have HC2 := Lib.hid (fun V (hV : TrW V T q) => HDO.out V T q (Q2 k) hV HF.out (HO.out.ok k hlt))
      have HTS := Lib.hid (show playT Q2 T (k + 1) = doT (playT Q2 T k) (Q2 k) from rfl)
      obtain ⟨C, hC⟩ : ∃ C, (Q2 k).cells = C := ⟨_, rfl⟩
      rw [hC] at HR HXL HC HC2
      clear hr hC hbl
      go_upto_region 8 with (first
        | (refine wpList_load_mid rfl 31 (.tmp 29) rfl b (off + k * 37) (by go_simp) C _ (HR.out _ HW.out.2.2.2) rfl rfl (by rw [HXL.out]; kernel_rfl) ?_)
        | (go_at_call 8; refine HC.out.mono ?_; rintro e X4 ⟨u2, rfl, h2, hb2⟩; have HX4 := Lib.hid (show TrW X4 (playT Q2 T (k + 1)) u2 ∧ RdQ X4 R2 L ∧ TrW X4 T q ∧ Below w.heap.size w X4 from ⟨by rw [HTS.out]; exact h2, HW.out.2.1.below hb2 (Nat.le_refl _), HW.out.2.2.1.below hb2, HW.out.2.2.2.trans (hb2.mono HW.out.2.2.2.size)⟩); clear h2 hb2 HC HW))
      go_wp2_with (first
        | (refine wpList_load_mid rfl 31 (.tmp 37) rfl b (off + k * 37) (by go_simp) C _ (HR.out _ HX4.out.2.2.2) rfl rfl (by rw [HXL.out]; kernel_rfl) ?_)
        | (go_at_call 8; refine (HC2.out _ HX4.out.2.2.1).mono ?_; rintro e X5 ⟨u3, rfl, _, hb2⟩; have HX5 := Lib.hid (show TrW X5 (playT Q2 T (k + 1)) u2 ∧ RdQ X5 R2 L ∧ TrW X5 T q ∧ Below w.heap.size w X5 from ⟨HX4.out.1.below hb2, HX4.out.2.1.below hb2 (Nat.le_refl _), HX4.out.2.2.1.below hb2, HX4.out.2.2.2.trans (hb2.mono HX4.out.2.2.2.size)⟩); clear hb2 HX4))
      go_round
      case rel => exact ⟨k + 1, u2, by omega, by omega, by go_num, rfl, HX5.out⟩
      case measure => simp only [intOf]; omega
    · by_cases hlt : k < n2
      · have h40 : ¬ k < 40 := fun c => hgo ⟨hlt, c⟩
        clear hgo
        have HX := Lib.hid HW.out.2
        clear HW HDO HFIT HO HF
        go_upto_region 9 with fail
        go_wp2_with fail
        refine (alive_any _).mono ?_
        rintro e Y1 ⟨rfl, hb1⟩
        have HY1 := Lib.hid (show RdQ Y1 R2 L ∧ TrW Y1 T q ∧ Below w.heap.size w Y1 from ⟨HX.out.1.below hb1 (Nat.le_refl _), HX.out.2.1.below hb1, HX.out.2.2.trans (hb1.mono HX.out.2.2.size)⟩)
        clear hb1 HX
        go_wp2_with fail
        refine (HROU.out _ q HY1.out.2.1).mono ?_
        rintro e Y2 ⟨R3, rfl, hr2, hb2⟩
        have HY2 := Lib.hid (show RdQ Y2 R3 L ∧ RdQ Y2 R2 L ∧ TrW Y2 T q ∧ Below w.heap.size w Y2 from ⟨rdQ_of hr2, HY1.out.1.below hb2 (Nat.le_refl _), HY1.out.2.1.below hb2, HY1.out.2.2.trans (hb2.mono HY1.out.2.2.size)⟩)
        clear hr2 hb2 HY1
        go_wp2_with fail
        refine (HAS.out _ R3 m HY2.out.1).mono ?_
        rintro e Y3 ⟨R4, cr4, rfl, hr3, hb3⟩
        have HY3 := Lib.hid (show RdQ Y3 R4 L ∧ RdQ Y3 R2 L ∧ TrW Y3 T q ∧ Below w.heap.size w Y3 from ⟨hr3, HY2.out.2.1.below hb3 (Nat.le_refl _), HY2.out.2.2.1.below hb3, HY2.out.2.2.2.trans (hb3.mono HY2.out.2.2.2.size)⟩)
        clear hr3 hb3 HY2
        go_wp2_with fail
        refine (HSA.out _ R4 R2 cr4 cr2 HY3.out.1 HY3.out.2.1).mono ?_
        rintro e Y4 ⟨rfl, hb4⟩
        have HY4 := Lib.hid (show TrW Y4 T q ∧ Below w.heap.size w Y4 from ⟨HY3.out.2.2.1.below hb4, HY3.out.2.2.2.trans (hb4.mono HY3.out.2.2.2.size)⟩)
        clear hb4 HY3
        go_wp2_with fail
        refine (HCNT.out _ q HY4.out.1).mono ?_
        rintro e Y5 ⟨rfl, hb5⟩
        have HBE := Lib.hid (HY4.out.2.trans (hb5.mono HY4.out.2.size))
        have hmm : (((m : Nat) : Int) == ((m : Nat) : Int)) = true := by simp
        clear hb5 HY4
        go_wp2_with fail
        go_ret
        exact ⟨rfl, HBE.out⟩
      · clear hgo
        have HX := Lib.hid HW.out.2
        clear HW HDO HFIT HO HF
        go_upto_region 9 with fail
        go_wp2_with fail
        refine (alive_any _).mono ?_
        rintro e Y1 ⟨rfl, hb1⟩
        have HY1 := Lib.hid (show RdQ Y1 R2 L ∧ TrW Y1 T q ∧ Below w.heap.size w Y1 from ⟨HX.out.1.below hb1 (Nat.le_refl _), HX.out.2.1.below hb1, HX.out.2.2.trans (hb1.mono HX.out.2.2.size)⟩)
        clear hb1 HX
        go_wp2_with fail
        refine (HROU.out _ q HY1.out.2.1).mono ?_
        rintro e Y2 ⟨R3, rfl, hr2, hb2⟩
        have HY2 := Lib.hid (show RdQ Y2 R3 L ∧ RdQ Y2 R2 L ∧ TrW Y2 T q ∧ Below w.heap.size w Y2 from ⟨rdQ_of hr2, HY1.out.1.below hb2 (Nat.le_refl _), HY1.out.2.1.below hb2, HY1.out.2.2.trans (hb2.mono HY1.out.2.2.size)⟩)
        clear hr2 hb2 HY1
        go_wp2_with fail
        refine (HAS.out _ R3 m HY2.out.1).mono ?_
        rintro e Y3 ⟨R4, cr4, rfl, hr3, hb3⟩
        have HY3 := Lib.hid (show RdQ Y3 R4 L ∧ RdQ Y3 R2 L ∧ TrW Y3 T q ∧ Below w.heap.size w Y3 from ⟨hr3, HY2.out.2.1.below hb3 (Nat.le_refl _), HY2.out.2.2.1.below hb3, HY2.out.2.2.2.trans (hb3.mono HY2.out.2.2.2.size)⟩)
        clear hr3 hb3 HY2
        go_wp2_with fail
        refine (HSA.out _ R4 R2 cr4 cr2 HY3.out.1 HY3.out.2.1).mono ?_
        rintro e Y4 ⟨rfl, hb4⟩
        have HY4 := Lib.hid (show TrW Y4 T q ∧ Below w.heap.size w Y4 from ⟨HY3.out.2.2.1.below hb4, HY3.out.2.2.2.trans (hb4.mono HY3.out.2.2.2.size)⟩)
        clear hb4 HY3
        go_wp2_with fail
        refine (HCNT.out _ q HY4.out.1).mono ?_
        rintro e Y5 ⟨rfl, hb5⟩
        have HBE := Lib.hid (HY4.out.2.trans (hb5.mono HY4.out.2.size))
        have hmm : (((m : Nat) : Int) == ((m : Nat) : Int)) = true := by simp
        clear hb5 HY4
        go_wp2_with fail
        go_ret
        exact ⟨rfl, HBE.out⟩
theorem walk (A : Option Addr) (n c : Nat) (A2 : Option Addr) (n2 c2 : Nat) (w : World) (h : Shp.Good w (.list (.obj shO)) [.slice A n c]) (h2 : Shp.Good w (.list (.obj shO)) [.slice A2 n2 c2]) : Calls Try.prog 5 #[.slice A n c, .slice A2 n2 c2] w fun e w' => e = .returned (.bool true) ∧ Below w.heap.size w w' := by
  obtain ⟨hn, Q, hQ⟩ := open_ops h
  obtain ⟨_, Q2, hQ2⟩ := open_ops h2
  exact walk0 hQ hQ2 hn
end TrieStays
end Go.Proofs.Ytobfpbmgipgdcaa
