/- 'aditlaw01.WordsHex' returns true at every input and writes nothing that was there: the walk. No condition. -/
import Derived.Test.YtmhmcdldfpnmbaaAliveOne
import Derived.Test.YtmhmcdldfpnmbaaUnhexAll
import Derived.Test.YtmhmcdldfpnmbaaQuiet
namespace Go.Proofs.Ytmhmcdldfpnmbaa
namespace WordsHex
open Go.ChangeShapes Go.WideShapes Go.ChangeAt Go.RowKit
open Num Mem Words

theorem run (A : Option Addr) (n c : Nat) (f : Nat → Nat) (hf : ∀ i, f i < 256) (s : ByteArray) (hs : s.size ≤ 9223372036854775807) (w : World) (hr : Rd w A n f) :
    Calls Try.prog 8 #[.slice A n c, .string s] w fun e w' => e = .returned (.bool true) ∧ Below w.heap.size w w' := by
  have HR := Lib.hid hr
  have HF := Lib.hid hf
  clear hr hf
  by_cases hbig : 2000 < n ∨ 3000 < s.size
  · have H : Hid (2000 < n ∨ 3000 < s.size) := hbig
    by_cases h1 : 2000 < n
    · have hd : decide ((2000 : Int) < (n : Int)) = true := decide_eq_true (by omega)
      clear hbig
      go_enter Try.func8, Try.ntmps8
      go_wp2_with fail
      refine (alive_any _).mono ?_
      rintro e w1 ⟨rfl, hb1⟩
      have HB1 := Lib.hid hb1
      clear hb1
      go_wp2_with fail
      go_ret
      exact ⟨rfl, HB1.out⟩
    · have hd : decide ((2000 : Int) < (n : Int)) = false := decide_eq_false (by omega)
      have hd2 : decide ((3000 : Int) < (s.size : Int)) = true := decide_eq_true (by omega)
      clear hbig
      go_enter Try.func8, Try.ntmps8
      go_wp2_with fail
      refine (alive_any _).mono ?_
      rintro e w1 ⟨rfl, hb1⟩
      have HB1 := Lib.hid hb1
      clear hb1
      go_wp2_with fail
      go_ret
      exact ⟨rfl, HB1.out⟩
  · have hd : decide ((2000 : Int) < (n : Int)) = false := decide_eq_false (by omega)
    have hd2 : decide ((3000 : Int) < (s.size : Int)) = false := decide_eq_false (by omega)
    have hs3 : s.size ≤ 3000 := by omega
    have hn2 : n ≤ 2000 := by omega
    clear hbig
    go_enter Try.func8, Try.ntmps8
    go_wp2_with fail
    refine (hex_any A n c f HF.out (by omega) _ HR.out).mono ?_
    rintro e w1 ⟨rfl, hb1⟩
    have HB1 := Lib.hid hb1
    clear hb1
    have hsz : (strOf (hexAt f) (2 * n)).size = 2 * n := strOf_size _ _
    go_wp2_with fail
    refine (unhex_ok (strOf (hexAt f) (2 * n)) (by rw [hsz]; omega) (by rw [hsz]; omega) (by
      intro i hi
      rw [hsz] at hi
      rw [chr_strOf _ _ _ hi (hexAt_lt HF.out i)]
      have := HF.out (i / 2)
      unfold hexAt
      exact isDig_hx _ (by split <;> omega)) _).mono ?_
    rw [hsz, show 2 * n / 2 = n from by omega, byteCells_congr (g := f) (fun i hi => ux_hex HF.out n i hi)]
    clear hsz
    rintro e w2 ⟨rfl, hq2, hb2⟩
    have HB2 := Lib.hid (below_trans HB1.out hb2)
    have HR2 := Lib.hid (Rd.of_whole hq2)
    have HR1 := Lib.hid (HR.out.below (below_trans HB1.out hb2) (Nat.le_refl _))
    clear hq2 hb2 HB1
    generalize w1.heap.size + 1 = g at HR2 ⊢
    go_wp2_with fail
    have hqf : Whole (w2.alloc (.cells #[.int .i64 0, .int .i64 0] 43)) w2.heap.size 43 #[.int .i64 0, .int .i64 0] := Whole.new _ _ _
    have hb2 := below_alloc HB2.out (.cells #[.int .i64 0, .int .i64 0] 43)
    have hr2 : Rd (w2.alloc (.cells #[.int .i64 0, .int .i64 0] 43)) (some ⟨g, 0, none⟩) n f := HR2.out.below (below_alloc (Below.refl w2.heap.size w2) _) (Nat.le_refl _)
    have hr1 : Rd (w2.alloc (.cells #[.int .i64 0, .int .i64 0] 43)) A n f := HR1.out.below (below_alloc (Below.refl w2.heap.size w2) _) (Nat.le_refl _)
    generalize w2.alloc (.cells #[.int .i64 0, .int .i64 0] 43) = W2 at hqf hb2 hr2 hr1 ⊢
    generalize w2.heap.size = g6 at hqf ⊢
    clear HR1 HR2 HB2
    refine (unhex_all s _).mono ?_
    rintro e w3 ⟨A3, c3, rfl, hr3, hb3⟩
    have HB3 := Lib.hid (below_trans hb2 hb3)
    have hq3 := hqf.below hb3 hqf.lt
    have hlt6 := hq3.lt
    have c61 := hq3.cell 1
    have HR1 := Lib.hid (hr1.below hb3 (Nat.le_refl _))
    have HR2 := Lib.hid (hr2.below hb3 (Nat.le_refl _))
    have HR3 := Lib.hid hr3
    simp at c61
    clear hr1 hr2 hr3 hb2 hb3 hqf hq3
    have hcv2 := run_string_of (P := Try.prog) (w := w3.alloc (.cells #[.int .i64 (uhAt s), .int .i64 (uhC s)] 43)) (c := n) 22 9 5 Try.underlying22 Try.underlying5 Try.underlying9
      (HR2.out.below (below_alloc (Below.refl w3.heap.size w3) _) (Nat.le_refl _))
    have hcv1 := run_string_of (P := Try.prog) (w := w3.alloc (.cells #[.int .i64 (uhAt s), .int .i64 (uhC s)] 43)) (c := c) 22 9 5 Try.underlying22 Try.underlying5 Try.underlying9
      (HR1.out.below (below_alloc (Below.refl w3.heap.size w3) _) (Nat.le_refl _))
    by_cases hok : uhC s = 0
    · have hx : uhN s = s.size / 2 ∧ s.size % 2 = 0 ∧ (∀ i, i < s.size → isDig (chr s i) = true) := by
        rcases uh_cases s with ⟨h, e1, e2, e3⟩ | ⟨hn, m, hm, hd, hno, e1, e2, e3⟩ | ⟨hn, h2, hd, e1, e2, e3⟩ | ⟨hn, h2, hd, e1, e2, e3⟩
        · omega
        · omega
        · omega
        · exact ⟨e1, h2, hd⟩
      obtain ⟨hN, hev, hdig⟩ := hx
      have HDIG := Lib.hid hdig
      clear hdig
      have hr3 := HR3.out
      rw [hN] at hr3 ⊢
      rw [hok]
      rw [hok] at hcv1 hcv2
      have HR3' := Lib.hid hr3
      clear hr3 HR3 hN hok
      go_wp2_with fail
      refine (hex_any A3 (s.size / 2) c3 (ux (chr s) s.size) (ux_lt _ _) (by omega) _ (HR3'.out.below (below_alloc (Below.refl w3.heap.size w3) _) (Nat.le_refl _))).mono ?_
      rw [show 2 * (s.size / 2) = s.size from by omega]
      rintro e w4 ⟨rfl, hb4⟩
      have HB4 := Lib.hid (below_new HB3.out hb4)
      clear hb4 hcv1 hcv2
      have hT : ∀ i, i < s.size → chr (strOf (hexAt (ux (chr s) s.size)) s.size) i = chr s i ∨ (65 ≤ chr s i ∧ chr s i ≤ 70 ∧ chr (strOf (hexAt (ux (chr s) s.size)) s.size) i = chr s i + 32) := by
        intro i hi
        rw [chr_strOf _ _ _ hi (hexAt_lt (ux_lt _ _) i), hex_ux _ _ _ hev hi]
        exact hx_dv _ (HDIG.out i hi)
      have hTs : (strOf (hexAt (ux (chr s) s.size)) s.size).size = s.size := strOf_size _ _
      generalize strOf (hexAt (ux (chr s) s.size)) s.size = T at hT hTs ⊢
      have HT := Lib.hid hT
      clear hT HDIG
      have hne : (((T.size : Nat) : Int) != ((s.size : Nat) : Int)) = false := by rw [hTs]; simp
      have HTs := Lib.hid hTs
      clear hTs
      go_wp2_with fail
      go_loopw [10] (fun i wr => ∃ k : Nat, k ≤ T.size ∧ i = .int .i64 k ∧ Below w.heap.size w wr) (fun i _ => T.size - (intOf i).toNat)
      case atStart => exact ⟨0, Nat.zero_le _, rfl, HB4.out⟩
      case round =>
        obtain ⟨k, hk, rfl, hbel⟩ := hrel
        have HL := Lib.hid hbel
        clear hbel
        have hT3 : T.size ≤ 3000 := by rw [HTs.out]; exact hs3
        by_cases hlt : k < T.size
        · have hks : k < s.size := by rw [← HTs.out]; exact hlt
          have hTk := chr_get T k hlt
          have hsk := chr_get s k hks
          have hc := chr_lt s k
          have hltI : (k : Int) < (T.size : Int) := by omega
          have hksI : (k : Int) < (s.size : Int) := by omega
          have hkI : (0 : Int) ≤ (k : Int) := by omega
          rcases HT.out k hks with h | ⟨h1, h2, h3⟩
          · have e1 : (((chr T k : Nat) : Int) != ((chr s k : Nat) : Int)) = false := by rw [h]; simp
            clear h
            go_wp2_with fail
            go_quiet (fail)
            go_wp2_with fail
            go_roundw
            case rel => exact ⟨k + 1, by omega, by go_num, below_drewN HL.out _⟩
            case measure => simp [intOf]; omega
          · have e1 : (((chr T k : Nat) : Int) != ((chr s k : Nat) : Int)) = true := by simp; omega
            have e2 : decide ((65 : Int) ≤ ((chr s k : Nat) : Int)) = true := decide_eq_true (by omega)
            have e3 : decide (((chr s k : Nat) : Int) ≤ 70) = true := decide_eq_true (by omega)
            have e4 : (((chr T k : Nat) : Int) == ((chr s k : Nat) : Int) + 32) = true := by simp; omega
            clear h3
            go_wp2_with fail
            go_quiet (fail)
            go_wp2_with fail
            go_roundw
            case rel => exact ⟨k + 1, by omega, by go_num, below_drewN HL.out _⟩
            case measure => simp [intOf]; omega
        · go_wp2_with fail
          refine (alive_any _).mono ?_
          rintro e w5 ⟨rfl, hb5⟩
          have HB5 := Lib.hid (below_trans HL.out hb5)
          clear hb5
          go_wp2_with fail
          go_ret
          exact ⟨rfl, HB5.out⟩
    · have hC1 : ((uhC s) == 0) = false := by simpa using hok
      have hC2 : ((uhC s) != 0) = true := by simpa using hok
      have hx : uhN s = 0 ∧ 0 ≤ uhAt s ∧ uhAt s ≤ s.size := by
        rcases uh_cases s with ⟨h, e1, e2, e3⟩ | ⟨hn, m, hm, hd, hno, e1, e2, e3⟩ | ⟨hn, h2, hd, e1, e2, e3⟩ | ⟨hn, h2, hd, e1, e2, e3⟩
        · exact ⟨e1, by omega, by omega⟩
        · exact ⟨e1, by omega, by omega⟩
        · exact ⟨e1, by omega, by omega⟩
        · exact absurd e3 hok
      obtain ⟨hN, hA0, hA1⟩ := hx
      have hd3 : decide (0 ≤ uhAt s) = true := decide_eq_true hA0
      have hd4 : decide (uhAt s ≤ (s.size : Int)) = true := decide_eq_true hA1
      clear hok
      go_wp2_with fail
      have hq3 : Whole (w3.alloc (.cells #[.int .i64 (uhAt s), .int .i64 (uhC s)] 43)) w3.heap.size 43 #[.int .i64 (uhAt s), .int .i64 (uhC s)] := Whole.new _ _ _
      have hb3 := below_alloc HB3.out (.cells #[.int .i64 (uhAt s), .int .i64 (uhC s)] 43)
      clear hcv1 hcv2 c61
      generalize w3.alloc (.cells #[.int .i64 (uhAt s), .int .i64 (uhC s)] 43) = W3 at hq3 hb3 ⊢
      refine (alive_any _).mono ?_
      rintro e w4 ⟨rfl, hb4⟩
      have hq4 := hq3.below hb4 hq3.lt
      have c0 := hq4.cell 0
      simp at c0
      have HB4 := Lib.hid (below_trans hb3 hb4)
      clear hq3 hb3 hb4 hq4
      go_wp2_with fail
      go_ret
      exact ⟨rfl, HB4.out⟩

theorem walk (a0 : Option Addr) (len0 cap0 : Nat) (z0 : List Int) (a1 : ByteArray) (w : World) (w0 : IsRow .u8 w a0 len0 cap0 z0) (w1 : a1.size ≤ maxLen) :
    Calls Try.prog 8 #[.slice a0 len0 cap0, .string a1] w fun e w' => e = .returned (.bool true) ∧ Below w.heap.size w w' := by
  obtain ⟨f, hf, hr, hc, hm⟩ := rd_of_row w0
  exact run a0 len0 cap0 f hf a1 (by simpa [maxLen] using w1) w hr

end WordsHex
end Go.Proofs.Ytmhmcdldfpnmbaa
