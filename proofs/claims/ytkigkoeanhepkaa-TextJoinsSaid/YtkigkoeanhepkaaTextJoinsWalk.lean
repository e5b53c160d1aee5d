/- The walk of the law TextJoins, to its end. -/
import Derived.Test.YtkigkoeanhepkaaTextJoinsLaw
namespace Go.Proofs.Ytkigkoeanhepkaa
namespace TextJoins
open Go.ChangeShapes Go.WideShapes Go.ChangeAt Go.RowKit
open Num Mem Chacha Go.Proofs.Ytkigkoeanhepkaa.Text Go.Proofs.Ytkigkoeanhepkaa.TextWords

set_option maxRecDepth 100000 in
set_option maxHeartbeats 4000000 in
theorem walk (a : Option Addr) (len cap : Nat) (xs : List ByteArray) (ga : Option Addr) (gl gc : Nat) (zs : List Int) (w : World) (hs : Strs w a len xs) (hg : IsRow .u8 w ga gl gc zs) :
    Calls Try.prog 5 #[.slice a len cap, .slice ga gl gc] w fun e w' => e = .returned (.bool true) ∧ Below w.heap.size w w' := by
  have CA := Lib.hid alive_any
  obtain ⟨f, hf, hr, _, hgm⟩ := rd_of_row hg
  have HF := Lib.hid hf
  have HR := Lib.hid hr
  have HS := Lib.hid hs
  clear hf hr hg hs
  go_enter Try.func5, Try.ntmps5
  by_cases h30 : 30 < len
  · have d1 : decide ((30 : Int) < (len : Int)) = true := decide_eq_true (by omega)
    go_wp2_with (go_at_call 6; refine (CA.out _).mono ?_; rintro e w1 ⟨rfl, hb⟩)
    go_ret
    exact ⟨rfl, hb⟩
  have d1 : decide ((30 : Int) < (len : Int)) = false := decide_eq_false (by omega)
  go_wp2_with fail
  clear d1
  go_loopw [5, 6] (fun s i wr => ∃ (k : Nat) (S : ByteArray), k ≤ len ∧ i = .int .i64 k ∧ s = .string S ∧ Sofar S (xs.take k) (64 * k) ∧ wr = w)
    (fun _ i _ => len - (intOf i).toNat)
  case atStart => exact ⟨0, { data := #[] }, Nat.zero_le _, rfl, rfl, sofar_nil, rfl⟩
  case round =>
    obtain ⟨k, S, hk, rfl, rfl, hso, hw⟩ := hrel
    have hw' := hw.symm
    subst hw'
    clear hw
    have HSO := Lib.hid hso
    clear hso
    by_cases hlt : k < len
    · have hT : (decide ((k : Int) < (len : Int))) = true := decide_eq_true (by omega)
      obtain ⟨x, hx⟩ : ∃ x, xs[k]? = some x := ⟨xs[k]'(by rw [HS.out.1]; exact hlt), List.getElem?_eq_getElem _⟩
      obtain ⟨b, off, rfl, hbl, hcells⟩ : ∃ b off, a = some ⟨b, off, none⟩ ∧ b < w.heap.size ∧ ∀ i x, xs[i]? = some x → w.cell? ⟨b, off + i, none⟩ = some (.string x) := by
        rcases HS.out.2 with h | h
        · rw [h] at hx; cases hx
        · exact h
      have hcell := hcells k x hx
      have HX := Lib.hid hx
      have hkl : (k : Int) < (len : Int) := by omega
      clear hx hcells
      by_cases hx0 : x.size = 0
      · have e0 : (((x.size : Nat) : Int) == 0) = true := beq_iff_eq.2 (by omega)
        go_wp2_with (go_at_call 6; refine (CA.out _).mono ?_; rintro e w1 ⟨rfl, hb⟩)
        go_ret
        exact ⟨rfl, hb⟩
      have e0 : (((x.size : Nat) : Int) == 0) = false := beq_false_of_ne (by omega)
      by_cases hx60 : 60 < x.size
      · have e6 : decide ((60 : Int) < (x.size : Int)) = true := decide_eq_true (by omega)
        go_wp2_with (go_at_call 6; refine (CA.out _).mono ?_; rintro e w1 ⟨rfl, hb⟩)
        go_ret
        exact ⟨rfl, hb⟩
      have e6 : decide ((60 : Int) < (x.size : Int)) = false := decide_eq_false (by omega)
      go_upto_region 9 with fail
      clear e0 e6
      go_wp2_with fail
      go_loopw [7] (fun i wr => ∃ m : Nat, m ≤ x.size ∧ i = .int .i64 m ∧ Hid (∀ j, j < m → 32 < chr x j ∧ chr x j ≤ 126) ∧ wr = w)
        (fun i _ => x.size - (intOf i).toNat)
      case atStart => exact ⟨0, Nat.zero_le _, rfl, Lib.hid (fun j h => absurd h (Nat.not_lt_zero _)), rfl⟩
      case round =>
        obtain ⟨m, hm, rfl, HM, hw⟩ := hrel
        have hw' := hw.symm
        subst hw'
        clear hw
        by_cases hmt : m < x.size
        · have hT2 : (decide ((m : Int) < (x.size : Int))) = true := decide_eq_true (by omega)
          have hmz : (m : Int) < (x.size : Int) := by omega
          have hcv := Mem.chr_get x m hmt
          by_cases c1 : chr x m ≤ 32
          · have e1 : decide (((x[m].toNat : Nat) : Int) ≤ 32) = true := decide_eq_true (by omega)
            clear hcv
            go_wp2_with (go_at_call 6; refine (CA.out _).mono ?_; rintro e w1 ⟨rfl, hb⟩)
            go_ret
            exact ⟨rfl, hb⟩
          have e1 : decide (((x[m].toNat : Nat) : Int) ≤ 32) = false := decide_eq_false (by omega)
          by_cases c2 : 126 < chr x m
          · have e2 : decide ((126 : Int) < ((x[m].toNat : Nat) : Int)) = true := decide_eq_true (by omega)
            clear hcv
            go_wp2_with (go_at_call 6; refine (CA.out _).mono ?_; rintro e w1 ⟨rfl, hb⟩)
            go_ret
            exact ⟨rfl, hb⟩
          have e2 : decide ((126 : Int) < ((x[m].toNat : Nat) : Int)) = false := decide_eq_false (by omega)
          clear hcv
          go_wp2_with fail
          refine ⟨⟨m + 1, by omega, rfl, Lib.hid (fun j hj => ?_), trivial⟩, ?_⟩
          · rcases Nat.lt_or_ge j m with h | h
            · exact HM.out j h
            · obtain rfl : j = m := by omega
              exact ⟨by omega, by omega⟩
          · show x.size - ((m : Int) + 1).toNat < x.size - (m : Int).toNat
            omega
        · obtain rfl : m = x.size := by omega
          have hT2 : (decide ((x.size : Int) < (x.size : Int))) = false := decide_eq_false (by omega)
          have gap : ((gl : Int) ≤ (k : Int)) ∨ ((k : Int) < (gl : Int) ∧ ∃ gb go, ga = some ⟨gb, go, none⟩ ∧ w.cell? ⟨gb, go + k, none⟩ = some (.int .u8 (f k : Nat))) := by
            by_cases h : k < gl
            · right
              refine ⟨by omega, ?_⟩
              rcases HR.out with h0 | ⟨gb, go, e, _, hc⟩
              · omega
              · exact ⟨gb, go, e, hc k h⟩
            · exact .inl (by omega)
          have hand := and_gap (f k) (HF.out k)
          obtain ⟨v, hv⟩ : ∃ v, f k % 4 = v := ⟨_, rfl⟩
          have hv4 : v < 4 := by rw [← hv]; exact Nat.mod_lt _ (by decide)
          rw [hv] at hand
          clear hv
          rcases gap with hG | ⟨hG, gb, go, rfl, hgc⟩
          · have hkg : (k : Int) < 100 := by omega
            go_wp2_with fail
            go_loopw [5, 9] (fun s j wr => ∃ (m : Nat) (T : ByteArray), m ≤ 1 ∧ j = .int .i64 m ∧ s = .string T ∧ Hid (Sofar T (xs.take k) (64 * k + m)) ∧ Hid (0 < m → Opens T) ∧ wr = w)
              (fun _ j _ => 1 - (intOf j).toNat)
            case atStart => exact ⟨0, S, Nat.zero_le _, rfl, rfl, Lib.hid (by rw [Nat.add_zero]; exact HSO.out), Lib.hid (fun h => absurd h (Nat.lt_irrefl 0)), rfl⟩
            case round =>
              obtain ⟨m, T, hm, rfl, rfl, HT, HO, hw⟩ := hrel
              have hw' := hw.symm
              subst hw'
              clear hw
              by_cases hmN : m < 1
              · obtain rfl : m = 0 := by omega
                clear hmN hm
                rw [Int.natCast_zero]
                have hz1 : ¬ 9223372036854775807 < T.size + 1 := by have := HT.out.size; omega
                go_wp2_with fail
                refine ⟨⟨1, T ++ gapB, Nat.le_refl 1, rfl, rfl, Lib.hid HT.out.blank.1, Lib.hid (fun _ => HT.out.blank.2), trivial⟩, ?_⟩
                decide
              · obtain rfl : m = 1 := by omega
                clear hmN hm
                have hm2 : 0 < 1 := by omega
                rw [show ((1 : Nat) : Int) = 1 from rfl]
                have hz1 : ¬ 9223372036854775807 < T.size + x.size := by have := HT.out.size; omega
                go_wp2_with fail
                refine ⟨⟨k + 1, T ++ x, by omega, rfl, rfl, ?_, trivial⟩, ?_⟩
                · have h := HT.out.word (HO.out hm2) (by omega) (by omega) HM.out
                  have e : xs.take (k + 1) = xs.take k ++ [x] := by
                    rw [List.take_add_one, HX.out]
                    rfl
                  rw [e]
                  exact ⟨h.words, h.seen, by have := h.size; omega⟩
                · show len - ((k : Int) + 1).toNat < len - (k : Int).toNat
                  omega
          · have hkg : (k : Int) < 100 := by omega
            go_wp2_with fail
            go_loopw [5, 9] (fun s j wr => ∃ (m : Nat) (T : ByteArray), m ≤ (1 + v) ∧ j = .int .i64 m ∧ s = .string T ∧ Hid (Sofar T (xs.take k) (64 * k + m)) ∧ Hid (0 < m → Opens T) ∧ wr = w)
              (fun _ j _ => (1 + v) - (intOf j).toNat)
            case atStart => exact ⟨0, S, Nat.zero_le _, rfl, rfl, Lib.hid (by rw [Nat.add_zero]; exact HSO.out), Lib.hid (fun h => absurd h (Nat.lt_irrefl 0)), rfl⟩
            case round =>
              obtain ⟨m, T, hm, rfl, rfl, HT, HO, hw⟩ := hrel
              have hw' := hw.symm
              subst hw'
              clear hw
              by_cases hmN : m < (1 + v)
              · have hT3 : (decide ((m : Int) < 1 + (v : Int))) = true := decide_eq_true (by omega)
                have hT4 : (m : Int) < 1 + (v : Int) := by omega
                have hz1 : ¬ 9223372036854775807 < T.size + 1 := by have := HT.out.size; omega
                go_wp2_with fail
                refine ⟨⟨m + 1, T ++ gapB, by omega, rfl, rfl, Lib.hid HT.out.blank.1, Lib.hid (fun _ => HT.out.blank.2), trivial⟩, ?_⟩
                show (1 + v) - ((m : Int) + 1).toNat < (1 + v) - (m : Int).toNat
                omega
              · have hm1 : m = (1 + v) := by omega
                have hT3 : (decide ((m : Int) < 1 + (v : Int))) = false := decide_eq_false (by omega)
                have hT4 : ¬ (m : Int) < 1 + (v : Int) := by omega
                have hm2 : 0 < m := by omega
                have hm3 : m ≤ 4 := by omega
                clear hm1
                have hz1 : ¬ 9223372036854775807 < T.size + x.size := by have := HT.out.size; omega
                go_wp2_with fail
                refine ⟨⟨k + 1, T ++ x, by omega, rfl, rfl, ?_, trivial⟩, ?_⟩
                · have h := HT.out.word (HO.out hm2) (by omega) (by omega) HM.out
                  have e : xs.take (k + 1) = xs.take k ++ [x] := by
                    rw [List.take_add_one, HX.out]
                    rfl
                  rw [e]
                  exact ⟨h.words, h.seen, by have := h.size; omega⟩
                · show len - ((k : Int) + 1).toNat < len - (k : Int).toNat
                  omega
    · obtain rfl : k = len := by omega
      have hT : (decide ((k : Int) < (k : Int))) = false := decide_eq_false (by omega)
      have hsz := HSO.out.size
      have htk : xs.take k = xs := List.take_of_length_le (by rw [HS.out.1]; exact Nat.le_refl _)
      have hE : wE S = 0 := by
        unfold wE
        rw [if_neg (by omega), if_pos HSO.out.seen]
      have hL : wl S = xs := by
        unfold wl
        rw [if_neg (by omega), if_pos HSO.out.seen, HSO.out.words, htk]
      have CW := Lib.hid (words_any S)
      rw [hE, hL] at CW
      have HN := Lib.hid (show xs.length < 2 ^ 62 by rw [HS.out.1]; omega)
      clear hE hL htk hsz
      go_upto_region 23 with (first | (go_at_call 11; refine (CW.out _).mono ?_; rintro e w1 ⟨v1, rfl, hr1, hb1⟩; have HR1 := Lib.hid hr1; have HB1 := Lib.hid hb1; have HS1 := Lib.hid (HS.out.below hb1 (Nat.le_refl _)); clear hr1 hb1))
      go_wp2_with (first
        | (go_at_call 6; refine (CA.out _).mono ?_; rintro e w5 ⟨rfl, hb5⟩)
        | (go_at_call 15; refine (same_strs (HR1.out.below hb5 (Nat.le_refl _)) (HS1.out.below hb5 (Nat.le_refl _)) HN.out).mono ?_; rintro e w6 ⟨rfl, hb6⟩))
      go_ret
      exact ⟨rfl, below_trans (below_trans HB1.out hb5) hb6⟩

end TextJoins
end Go.Proofs.Ytkigkoeanhepkaa
