/- The walk of LimiterRate. -/
import Derived.Test.YtlccgplgbokgkaaLimOne
namespace Go.Proofs.Ytlccgplgbokgkaa
namespace LimiterRate
open Go.ChangeShapes Go.WideShapes Go.ChangeAt Go.RowKit Go.Maps
open Num Mem Words Chacha Aead Poly Adr Ops Quiet Stamp RowV Lim

/-- what stands behind k rounds: W is the world behind the times -/
structure OneW (K : Lit) (g b : Nat) (W : World) (l : List Nat) (k : Nat) (th : List Int) (A : Option Addr) (c : Nat) (wr : World) : Prop where
  two : Two g b W wr
  st : ∃ L D, LW wr g b L (tS l k : Nat) D ∧ Rate K k th L (tS l k : Nat)
  own : wr.ownsRow W.heap.size 2 1 (.slice A th.length c) th.length (th.map (Value.int .i64))
  bd : ∀ x ∈ th, 0 ≤ x ∧ x ≤ 102200
  sh : th.length ≤ k


theorem td50 (d : Int) (h0 : -1000000 ≤ d) (h1 : d ≤ 1000000) : d < 50 * (d.tdiv 50 + 1) ∧ -1000000 ≤ d.tdiv 50 ∧ d.tdiv 50 ≤ 1000000 := by
  by_cases h : 0 ≤ d
  · rw [Int.tdiv_eq_ediv_of_nonneg h]; omega
  · obtain ⟨e, rfl⟩ : ∃ e, d = -e := ⟨-d, by omega⟩
    rw [Int.neg_tdiv, Int.tdiv_eq_ediv_of_nonneg (by omega)]
    omega
theorem okT_ts (l : List Nat) (k : Nat) (hk : k ≤ 200) (x : Nat) (hx : x ≤ 100000) : okT ((tS l k + x : Nat) : Int) := by
  have := tS_le l k
  unfold okT
  omega

set_option maxRecDepth 100000 in
set_option maxHeartbeats 2000000 in
theorem walk (a : Option Addr) (n cp : Nat) (l : List Nat) (w : World) (h0 : RowA.IsNums .u16 (2 ^ 16) w a n l) :
    Calls Try.prog 5 #[.slice a n cp] w fun e w' => e = .returned (.bool true) ∧ Below w.heap.size w w' := by
  obtain ⟨K, hK, hKK⟩ := key0
  have HR0 := Lib.hid (rate_new hKK)
  have HC := Lib.hid (fun g b L last D cnt th t w (h : LW w g b L last D) hr ht hl => allow_rate hK g b L last D cnt th t w h hr ht hl)
  obtain ⟨A, hA⟩ : ∃ A : Array Value, (addrL false nought).toArray = A := ⟨_, rfl⟩
  have HB := Lib.hid addr_built0
  rw [hA] at HC HB
  have HN := Lib.hid (new_any w)
  have H0 := Lib.hid h0
  clear hA hK h0
  go_enter Try.func5, Try.ntmps5
  go_wp2_with fail
  refine HN.out.mono ?_
  rintro e w1 ⟨g, b, hg, hb, rfl, hb1, D, hl⟩
  have H01 : RowA.IsNums .u16 (2 ^ 16) w1 a n l := ⟨H0.out.1, H0.out.2.1, H0.out.2.2.1, H0.out.2.2.2.below hb1 (Nat.le_refl _)⟩
  have HT := Lib.hid (times_any a n cp l w1 H01)
  have HL := Lib.hid hl
  have HB1 := Lib.hid hb1
  clear hl hb1 H01 H0 HN
  go_wp2_with fail
  refine HT.out.mono ?_
  rintro e w2 ⟨A2, c2, rfl, hown, hb2⟩
  have hlt := HL.out.lt
  have hgb : g < w2.heap.size ∧ b < w2.heap.size := ⟨Nat.lt_of_lt_of_le hlt.1 hb2.size, Nat.lt_of_lt_of_le hlt.2.1 hb2.size⟩
  have HRD := Lib.hid (rdv_own hown)
  have HAB := Lib.hid (show ∀ x, A2 = some x → x.block ≠ g ∧ x.block ≠ b from fun x hx => by
    have := hown.lt x.block (by rw [hx]; rfl)
    omega)
  have HL2 := Lib.hid (HL.out.below hb2)
  have HB2 := Lib.hid (below_trans HB1.out hb2)
  have hsz : w.heap.size ≤ w2.heap.size := HB2.out.size
  obtain ⟨m, hm⟩ : ∃ m, min n 200 = m := ⟨_, rfl⟩
  have hm2 : m ≤ 200 := by omega
  rw [hm] at HRD ⊢
  clear hown hb2 HL HB1 HT hlt hm
  go_wp2_with fail
  go_loopw [4, 6] (fun o i wr => ∃ (k : Nat) (th : List Int) (A : Option Addr) (c : Nat), k ≤ m ∧ o = .slice A th.length c ∧ i = .int .i64 k ∧ OneW K g b w2 l k th A c wr) (fun _ i _ => m - (intOf i).toNat)
  case atStart => exact ⟨0, [], none, 0, Nat.zero_le _, rfl, rfl, Two.refl _ _ _, ⟨[], D, HL2.out, HR0.out⟩, World.ownsRow_nil _ _ _ _, by simp, Nat.le_refl _⟩
  case round =>
    obtain ⟨k, th, A3, c3, hk, rfl, rfl, hO⟩ := hrel
    obtain ⟨htw, ⟨L, D1, hlw, hrt⟩, hown, hbd, hsh⟩ := hO
    have HTW := Lib.hid htw
    have HLW := Lib.hid hlw
    have HRT := Lib.hid hrt
    have HOW := Lib.hid hown
    have HBD := Lib.hid hbd
    clear htw hlw hrt hown hbd
    by_cases hlt : k < m
    · have harr := HRD.out.elim (fun h0 => absurd (congrArg List.length h0) (by rw [tsV_length, List.length_nil]; omega)) id
      obtain ⟨bb, off, rfl, hbl, hx⟩ := harr
      have hne := HAB.out _ rfl
      have hcell0 := hx k _ (tsV_get l hlt)
      have hcell : wr.cell? ⟨bb, off + k, none⟩ = some (.int .i64 (tS l (k + 1) : Nat)) := by
        rw [← hcell0]
        unfold World.cell?
        rw [HTW.out.block bb hbl hne.1 hne.2]
      have hok := okT_ts l (k + 1) (by omega) 0 (by omega)
      rw [Nat.add_zero] at hok
      have C := Lib.hid (HC.out g b L _ D1 k th (tS l (k + 1) : Nat) wr HLW.out HRT.out hok (by have := tS_mono l k; omega))
      have hk2 : IntKind.i64.wrap ((k : Int) + 1) = (k : Int) + 1 := by rw [IntKind.wrap_i64]; omega
      have hub := tS_le l (k + 1)
      obtain ⟨u, hu⟩ : ∃ u, tS l (k + 1) = u := ⟨_, rfl⟩
      rw [hu] at C hcell hub
      have HU := Lib.hid hu
      have HX := Lib.hid hx
      clear hu hok hcell0 hx
      go_wp2_with (refine wpList_built0 rfl 25 rfl A HB.out ?_)
      refine C.out.mono ?_
      rintro e w3 ⟨r, rfl, h5, _, ⟨L', D', hl', hr'⟩, htw'⟩
      have hcell3 : w3.cell? ⟨bb, off + k, none⟩ = some (.int .i64 (u : Nat)) := by
        rw [← hcell]
        unfold World.cell?
        rw [htw'.block bb (Nat.lt_of_lt_of_le hbl HTW.out.size) hne.1 hne.2]
      have H5 := Lib.hid h5
      have HL' := Lib.hid hl'
      have HR' := Lib.hid hr'
      have HT' := Lib.hid (HTW.out.trans htw')
      have HO' := Lib.hid (own_two HOW.out htw' hgb.1 hgb.2)
      clear hl' hr' htw' C HTW HLW HRT hcell h5 HOW
      cases r
      · have hk5 : ¬ k < 5 := fun h => by cases H5.out h
        have hk5' : ¬ (k : Int) < 5 := by omega
        go_wp2_with fail
        go_round
        case rel => exact ⟨k + 1, th, A3, c3, by omega, rfl, by go_num, HT'.out, ⟨L', D', by rw [HU.out]; exact HL'.out, by rw [HU.out]; exact HR'.out⟩, HO'.out, HBD.out, by omega⟩
        case measure => simp [intOf]; omega
      · have hor : decide ((k : Int) < 5) = true ∨ decide ((k : Int) < 5) = false := by cases decide ((k : Int) < 5) <;> simp
        rcases hor with h5 | h5
        all_goals
          go_wp2_with (at_builtin; refine wpList_push (.int .i64 (u : Nat)) rfl _ _ 47 2 (.int .i64 0) 8 Try.underlying47 infoT rfl rfl rfl rfl HO'.out HT'.out.size rfl (by omega) (by omega) ?_; intro A4 c4 w4 hown4 hb4 hsz4)
          have HO4 := Lib.hid hown4
          have HB4 := Lib.hid hb4
          clear hown4 hb4 hsz4
          go_wp2_with fail
          go_round
          case rel =>
            refine ⟨k + 1, th ++ [(u : Int)], A4, c4, by omega, by rw [List.length_append]; rfl, by go_num, HT'.out.over HB4.out, ⟨L', D', ?_, ?_⟩, ?_, ?_, ?_⟩
            · rw [HU.out]; exact HL'.out.over HB4.out hgb.1 hgb.2
            · rw [HU.out]; exact HR'.out
            · rw [List.length_append, List.map_append]; exact HO4.out
            · intro x hx
              rcases List.mem_append.1 hx with hx | hx
              · exact HBD.out x hx
              · rw [List.mem_singleton.1 hx]; omega
            · rw [List.length_append]; simp; omega
          case measure => simp [intOf]; omega
    · obtain rfl : k = m := by omega
      have HRT2 := Lib.hid HRT.out.pairs
      have HX := Lib.hid (rdv_own HOW.out)
      have HF := Lib.hid (show Below w.heap.size w wr from HB2.out.trans (HTW.out.below hsz hg hb))
      have HAL := Lib.hid (alive_ok wr)
      clear HRT HTW HLW HOW HC HB HRD
      obtain ⟨N, hN⟩ : ∃ N, th.length = N := ⟨_, rfl⟩
      have hN2 : N ≤ 200 := by omega
      rw [hN]
      have HN := Lib.hid hN
      clear hN hlt
      go_wp2_with fail
      clear HAL
      go_loopw [9] (fun i wq => ∃ i0 : Nat, i0 ≤ N ∧ i = .int .i64 i0 ∧ RdV wq A3 (th.map (Value.int .i64)) ∧ Below w.heap.size w wq) (fun i _ => N - (intOf i).toNat)
      case atStart => exact ⟨0, Nat.zero_le _, rfl, HX.out, HF.out⟩
      case round =>
        clear HX HF
        obtain ⟨i0, hi0, rfl, hx, hf⟩ := hrel
        have HX := Lib.hid hx
        have HF := Lib.hid hf
        clear hx hf
        have hi2 : IntKind.i64.wrap ((i0 : Int) + 1) = (i0 : Int) + 1 := by rw [IntKind.wrap_i64]; omega
        by_cases hlt : i0 < N
        · go_wp2_with fail
          go_loopw [10] (fun q wq => ∃ q0 : Nat, i0 ≤ q0 ∧ q0 ≤ N ∧ q = .int .i64 q0 ∧ RdV wq A3 (th.map (Value.int .i64)) ∧ Below w.heap.size w wq) (fun q _ => N - (intOf q).toNat)
          case atStart => exact ⟨i0, Nat.le_refl _, hi0, rfl, HX.out, HF.out⟩
          case round =>
            clear HX HF
            obtain ⟨q0, hq0, hq1, rfl, hx, hf⟩ := hrel
            have HX := Lib.hid hx
            have HF := Lib.hid hf
            clear hx hf
            have hq2 : IntKind.i64.wrap ((q0 : Int) + 1) = (q0 : Int) + 1 := by rw [IntKind.wrap_i64]; omega
            by_cases hqt : q0 < N
            · have h1 : i0 < th.length := by rw [HN.out]; exact hlt
              have h2 : q0 < th.length := by rw [HN.out]; exact hqt
              obtain ⟨bb, off, rfl, hbl, hx⟩ := HX.out.elim (fun h0 => absurd (congrArg List.length h0) (by rw [List.length_map, List.length_nil]; omega)) id
              have c1 := hx i0 (.int .i64 th[i0]) (by rw [List.getElem?_map, List.getElem?_eq_getElem h1]; rfl)
              have c2 := hx q0 (.int .i64 th[q0]) (by rw [List.getElem?_map, List.getElem?_eq_getElem h2]; rfl)
              have hp := HRT2.out i0 q0 th[i0] th[q0] hq0 (List.getElem?_eq_getElem h1) (List.getElem?_eq_getElem h2)
              have b1 := HBD.out _ (List.getElem_mem h1)
              have b2 := HBD.out _ (List.getElem_mem h2)
              have HXX := Lib.hid hx
              clear hx
              generalize th[i0] = x at *
              generalize th[q0] = y at *
              clear h1 h2
              have hw1 : IntKind.i64.wrap ((q0 : Int) - i0) = (q0 : Int) - i0 := by rw [IntKind.wrap_i64]; omega
              have hw2 : IntKind.i64.wrap ((q0 : Int) - i0 + 1) = (q0 : Int) - i0 + 1 := by rw [IntKind.wrap_i64]; omega
              have hw3 : IntKind.i64.wrap (y - x) = y - x := by rw [IntKind.wrap_i64]; omega
              obtain ⟨ht1, ht2, ht3⟩ := td50 (y - x) (by omega) (by omega)
              obtain ⟨z, hz⟩ : ∃ z, (y - x).tdiv 50 = z := ⟨_, rfl⟩
              rw [hz] at ht1 ht2 ht3
              have hdv : IntKind.i64.wrap (5 + z) = 5 + z := by rw [IntKind.wrap_i64]; omega
              have hgt : decide (5 + z < (q0 : Int) - i0 + 1) = false := decide_eq_false (by omega)
              have hgt2 : ¬ 5 + z < (q0 : Int) - i0 + 1 := of_decide_eq_false hgt
              have hzw : wrap64 z = z := by simp only [wrap64, IntKind.wrap_i64]; omega
              have hzv : wrap64 (5 + z) = 5 + z := by simp only [wrap64, IntKind.wrap_i64]; omega
              clear ht1 ht2 ht3 hp b1 b2
              go_upto_region 18 with fail
              go_quiet (fail)
              go_wp2_with fail
              exact ⟨⟨q0 + 1, by omega, by omega, by simp, HX.out, below_drewN HF.out _⟩, by simp [intOf]; omega⟩
            · obtain rfl : q0 = N := by omega
              go_wp2_with fail
              go_roundw
              case rel => exact ⟨i0 + 1, by omega, by go_num, HX.out, HF.out⟩
              case measure => simp [intOf]; omega
        · obtain rfl : i0 = N := by omega
          have HAL := Lib.hid (fun w => alive_ok w)
          go_wp2_with fail
          refine (HAL.out _).mono ?_
          rintro e w4 ⟨rfl, hb4⟩
          have HF4 := Lib.hid (below_trans HF.out hb4)
          clear hb4
          go_wp2_with fail
          go_ret
          exact ⟨rfl, HF4.out⟩
end LimiterRate
end Go.Proofs.Ytlccgplgbokgkaa
