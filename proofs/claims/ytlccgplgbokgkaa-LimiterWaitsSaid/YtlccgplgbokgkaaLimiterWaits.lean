/- The walk of LimiterWaits. -/
import Derived.Test.YtlccgplgbokgkaaLimOne
namespace Go.Proofs.Ytlccgplgbokgkaa
namespace LimiterWaits
open Go.ChangeShapes Go.WideShapes Go.ChangeAt Go.RowKit Go.Maps
open Num Mem Words Chacha Aead Poly Adr Ops Quiet Stamp RowV Lim

/-- what stands behind k rounds: W is the world behind the times -/
structure OneW (K : Lit) (g b : Nat) (W : World) (l : List Nat) (k : Nat) (wr : World) : Prop where
  two : Two g b W wr
  st : ∃ L D th, LW wr g b L (tS l k : Nat) D ∧ Rate K k th L (tS l k : Nat)

theorem okT_ts (l : List Nat) (k : Nat) (hk : k ≤ 200) (x : Nat) (hx : x ≤ 100000) : okT ((tS l k + x : Nat) : Int) := by
  have := tS_le l k
  unfold okT
  omega

set_option maxRecDepth 100000 in
set_option maxHeartbeats 2000000 in
theorem walk (a : Option Addr) (n cp : Nat) (l : List Nat) (more : Int) (w : World) (h0 : RowA.IsNums .u16 (2 ^ 16) w a n l) (h1 : (Lit.int .u16 more).wf = true) :
    Calls Try.prog 7 #[.slice a n cp, .int .u16 more] w fun e w' => e = .returned (.bool true) ∧ Below w.heap.size w w' := by
  obtain ⟨q, rfl, hq⟩ := RowA.nat_u16 h1
  clear h1
  have hq2 : q < 65536 := hq
  clear hq
  obtain ⟨K, hK, hKK⟩ := key0
  have HR0 := Lib.hid (rate_new hKK)
  have HC := Lib.hid (fun g b L last D cnt th t w (h : LW w g b L last D) hr ht hl => allow_rate hK g b L last D cnt th t w h hr ht hl)
  obtain ⟨A, hA⟩ : ∃ A : Array Value, (addrL false nought).toArray = A := ⟨_, rfl⟩
  have HB := Lib.hid addr_built0
  rw [hA] at HC HB
  have HN := Lib.hid (new_any w)
  have H0 := Lib.hid h0
  clear hA hK h0
  go_enter Try.func7, Try.ntmps7
  go_wp2_with fail
  refine HN.out.mono ?_
  rintro e w1 ⟨g, b, hg, hb, rfl, hb1, D, hl⟩
  have H01 : RowA.IsNums .u16 (2 ^ 16) w1 a n l := ⟨H0.out.1, H0.out.2.1, H0.out.2.2.1, H0.out.2.2.2.below hb1 (Nat.le_refl _)⟩
  have HT := Lib.hid (times_any a n cp l w1 H01)
  have HL := Lib.hid hl
  have HB1 := Lib.hid hb1
  clear hl hb1 H01 H0 HN
  go_wp2_with fail
  refine HT.out.mono ?_
  rintro e w2 ⟨A2, c2, rfl, hown, hb2⟩
  have hlt := HL.out.lt
  have hgb : g < w2.heap.size ∧ b < w2.heap.size := ⟨Nat.lt_of_lt_of_le hlt.1 hb2.size, Nat.lt_of_lt_of_le hlt.2.1 hb2.size⟩
  have HRD := Lib.hid (rdv_own hown)
  have HAB := Lib.hid (show ∀ x, A2 = some x → x.block ≠ g ∧ x.block ≠ b from fun x hx => by
    have := hown.lt x.block (by rw [hx]; rfl)
    omega)
  have HL2 := Lib.hid (HL.out.below hb2)
  have HB2 := Lib.hid (below_trans HB1.out hb2)
  have hsz : w.heap.size ≤ w2.heap.size := HB2.out.size
  obtain ⟨m, hm⟩ : ∃ m, min n 200 = m := ⟨_, rfl⟩
  have hm2 : m ≤ 200 := by omega
  rw [hm] at HRD ⊢
  clear hown hb2 HL HB1 HT hlt hm
  go_wp2_with fail
  go_loopw [7, 8] (fun t i wr => ∃ k : Nat, k ≤ m ∧ t = .int .i64 (tS l k : Nat) ∧ i = .int .i64 k ∧ OneW K g b w2 l k wr) (fun _ i _ => m - (intOf i).toNat)
  case atStart => exact ⟨0, Nat.zero_le _, rfl, rfl, Two.refl _ _ _, [], D, [], HL2.out, HR0.out⟩
  case round =>
    obtain ⟨k, hk, rfl, rfl, hO⟩ := hrel
    obtain ⟨htw, L, D1, th, hlw, hrt⟩ := hO
    have HTW := Lib.hid htw
    have HLW := Lib.hid hlw
    have HRT := Lib.hid hrt
    clear htw hlw hrt
    by_cases hlt : k < m
    · have harr := HRD.out.elim (fun h0 => absurd (congrArg List.length h0) (by rw [tsV_length, List.length_nil]; omega)) id
      obtain ⟨bb, off, rfl, hbl, hx⟩ := harr
      have hne := HAB.out _ rfl
      have hcell0 := hx k _ (tsV_get l hlt)
      have hcell : wr.cell? ⟨bb, off + k, none⟩ = some (.int .i64 (tS l (k + 1) : Nat)) := by
        rw [← hcell0]
        unfold World.cell?
        rw [HTW.out.block bb hbl hne.1 hne.2]
      have hok := okT_ts l (k + 1) (by omega) 0 (by omega)
      rw [Nat.add_zero] at hok
      have C := Lib.hid (HC.out g b L _ D1 k th (tS l (k + 1) : Nat) wr HLW.out HRT.out hok (by have := tS_mono l k; omega))
      have hk2 : IntKind.i64.wrap ((k : Int) + 1) = (k : Int) + 1 := by rw [IntKind.wrap_i64]; omega
      obtain ⟨u, hu⟩ : ∃ u, tS l (k + 1) = u := ⟨_, rfl⟩
      rw [hu] at C hcell
      have HU := Lib.hid hu
      have HX := Lib.hid hx
      clear hu hok hcell0 hx
      go_wp2_with (refine wpList_built0 rfl 25 rfl A HB.out ?_)
      refine C.out.mono ?_
      rintro e w3 ⟨r, rfl, _, _, ⟨L', D', hl', hr'⟩, htw'⟩
      have hcell3 : w3.cell? ⟨bb, off + k, none⟩ = some (.int .i64 (u : Nat)) := by
        rw [← hcell]
        unfold World.cell?
        rw [htw'.block bb (Nat.lt_of_lt_of_le hbl HTW.out.size) hne.1 hne.2]
      have HO := Lib.hid (show OneW K g b w2 l (k + 1) w3 from ⟨HTW.out.trans htw', L', D', _, by rw [HU.out]; exact hl', by rw [HU.out]; exact hr'⟩)
      clear hl' hr' htw' C HTW HLW HRT hcell
      go_wp2_with fail
      go_round
      case rel => exact ⟨k + 1, by omega, by rw [HU.out], by go_num, HO.out⟩
      case measure => simp [intOf]; omega
    · obtain rfl : k = m := by omega
      have hok := okT_ts l k hm2 (50 + q) (by omega)
      have hle := tS_le l k
      have C := Lib.hid (HC.out g b L _ D1 k th ((tS l k + (50 + q) : Nat) : Int) wr HLW.out HRT.out hok (by omega))
      obtain ⟨t, ht⟩ : ∃ t, tS l k = t := ⟨_, rfl⟩
      rw [ht] at C hle ⊢
      have hs1 : IntKind.i64.wrap ((t : Int) + 50) = (t : Int) + 50 := by rw [IntKind.wrap_i64]; omega
      have hs2 : IntKind.i64.wrap ((t : Int) + 50 + q) = ((t + (50 + q) : Nat) : Int) := by rw [IntKind.wrap_i64]; omega
      have hcv : IntKind.i64.wrap (q : Int) = (q : Int) := by rw [IntKind.wrap_i64]; omega
      obtain ⟨v, hv⟩ : ∃ v, t + (50 + q) = v := ⟨_, rfl⟩
      rw [hv] at C hs2
      have HV := Lib.hid (show (t : Int) + 50 ≤ (v : Int) by omega)
      clear hok ht hv
      go_wp2_with (refine wpList_built0 rfl 25 rfl A HB.out ?_)
      refine C.out.mono ?_
      rintro e w3 ⟨r, rfl, _, hr, _, htw'⟩
      obtain rfl : r = true := hr (by have := HV.out; omega)
      have HF := Lib.hid (show Below w.heap.size w w3 from HB2.out.trans ((HTW.out.trans htw').below hsz hg hb))
      have HAL := Lib.hid (alive_ok w3)
      clear hr htw' C
      go_wp2_with fail
      refine HAL.out.mono ?_
      rintro e w4 ⟨rfl, hb4⟩
      have HF4 := Lib.hid (below_trans HF.out hb4)
      clear hb4
      go_wp2_with fail
      go_ret
      exact ⟨rfl, HF4.out⟩
end LimiterWaits
end Go.Proofs.Ytlccgplgbokgkaa
