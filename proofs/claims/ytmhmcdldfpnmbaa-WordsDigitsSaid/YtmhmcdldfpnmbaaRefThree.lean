/- The document's own answers of layer 1 (package aditref01), more: digit, value, Hex; and Equal of package words. -/
import Derived.Test.YtmhmcdldfpnmbaaRefTwo
import Derived.Test.YtmhmcdldfpnmbaaQuiet
import Derived.Test.YtmhmcdldfpnmbaaUnhexAll
namespace Go.Proofs.Ytmhmcdldfpnmbaa
namespace Ref
open Go.ChangeShapes Go.WideShapes Go.ChangeAt Go.RowKit
open Num Mem Words Quiet

theorem digit_ref (d : Nat) (h : d < 16) (w : World) : Calls Try.prog 46 #[.int .u8 (d : Nat)] w fun e w' => e = .returned (.int .u8 (hx d : Nat)) ∧ w = w' := by
  by_cases h1 : d < 10
  · have E : Hid (((hx d : Nat) : Int) = 48 + (d : Int)) := by unfold hx; rw [if_pos h1]; show _ = _; omega
    go_enter Try.func46, Try.ntmps46
    go_wp2
    go_ret
    exact ⟨by rw [E.out]; rfl, rfl⟩
  · have E : Hid (((hx d : Nat) : Int) = 87 + (d : Int)) := by unfold hx; rw [if_neg h1]; show _ = _; omega
    have h2 : 10 ≤ d := by omega
    clear h1
    go_enter Try.func46, Try.ntmps46
    go_wp2
    go_ret
    exact ⟨by rw [E.out]; rfl, rfl⟩

/-- the place at which 'value' finds c -/
def hit (c n : Nat) : Bool := decide (hx n = c ∨ (10 ≤ n ∧ hx n = (c + 32) % 256 ∧ c < 97))

theorem hit_iff (c n : Nat) (hn : n < 16) (hc : c < 256) : hit c n = true ↔ isDig c = true ∧ dv c = n := by
  simp only [hit, decide_eq_true_eq]
  rw [isDig_iff]
  unfold hx dv
  constructor
  · intro h
    split at h <;> refine ⟨by omega, ?_⟩ <;> (repeat' split) <;> omega
  · rintro ⟨h1, h2⟩
    split <;> (repeat' split at h2) <;> omega

theorem value_any (c : Nat) (hc : c < 256) (w : World) :
    Calls Try.prog 45 #[.int .u8 (c : Nat)] w fun e w' => e = .returned (.int .i64 (if isDig c = true then (dv c : Int) else -1)) ∧ w = w' := by
  obtain ⟨r, hr⟩ : ∃ r : Int, r = (if isDig c = true then (dv c : Int) else -1) := ⟨_, rfl⟩
  rw [← hr]
  have HR := Lib.hid hr
  clear hr
  go_enter Try.func45, Try.ntmps45
  go_wp2
  go_loop [3] (fun i => ∃ k : Nat, k ≤ 16 ∧ i = .int .u8 (k : Nat) ∧ ∀ j, j < k → hit c j = false) (fun i => 16 - (intOf i).toNat)
  case atStart => exact ⟨0, by omega, rfl, fun j hj => absurd hj (by omega)⟩
  case round =>
    obtain ⟨k, hk, rfl, hno⟩ := hrel
    have HN := Lib.hid hno
    clear hno
    by_cases hlt : k < 16
    · have hxk := hx_lt k hlt
      by_cases hh : hit c k = true
      · have hret : r = (k : Int) := by
          have := (hit_iff c k hlt hc).1 hh
          rw [HR.out, if_pos this.1, this.2]
        have HRET := Lib.hid hret
        clear hret
        simp only [hit, decide_eq_true_eq] at hh
        rcases hh with h | ⟨h1, h2, h3⟩
        · have e1 : (((hx k : Nat) : Int) == (c : Int)) = true := by simp [h]
          clear h
          go_wp2_with (go_at_call 46; refine (digit_ref k hlt _).mono ?_; rintro e w' ⟨rfl, rfl⟩)
          go_ret
          exact ⟨by rw [HRET.out]; rfl, rfl⟩
        · have e1 : (((hx k : Nat) : Int) == (c : Int)) = false := by simp; omega
          have e2 : decide ((10 : Int) ≤ (k : Int)) = true := decide_eq_true (by omega)
          have e3 : (((hx k : Nat) : Int) == (c : Int) + 32) = true := by simp; omega
          have e4 : decide ((c : Int) < 97) = true := decide_eq_true (by omega)
          clear h2
          go_wp2_with (go_at_call 46; refine (digit_ref k hlt _).mono ?_; rintro e w' ⟨rfl, rfl⟩)
          go_ret
          exact ⟨by rw [HRET.out]; rfl, rfl⟩
      · have hnext : ∀ j, j < k + 1 → hit c j = false := by
          intro j hj
          by_cases e : j = k
          · subst e; simpa using hh
          · exact HN.out j (by omega)
        have HNX := Lib.hid hnext
        clear hnext
        simp only [hit, decide_eq_true_eq] at hh
        have e1 : (((hx k : Nat) : Int) == (c : Int)) = false := by simp; omega
        by_cases h10 : 10 ≤ k
        · have e2 : decide ((10 : Int) ≤ (k : Int)) = true := decide_eq_true (by omega)
          by_cases h97 : c < 97
          · have e3 : (((hx k : Nat) : Int) == (c : Int) + 32) = false := by simp; omega
            clear hh
            go_wp2_with (go_at_call 46; refine (digit_ref k hlt _).mono ?_; rintro e w' ⟨rfl, rfl⟩)
            go_round
            case rel => exact ⟨k + 1, by omega, by go_num, HNX.out⟩
            case measure => simp [intOf]; omega
          · have e4 : decide ((c : Int) < 97) = false := decide_eq_false (by omega)
            clear hh
            go_wp2_with (go_at_call 46; refine (digit_ref k hlt _).mono ?_; rintro e w' ⟨rfl, rfl⟩)
            all_goals
              go_round
              case rel => exact ⟨k + 1, by omega, by go_num, HNX.out⟩
              case measure => simp [intOf]; omega
        · have e2 : decide ((10 : Int) ≤ (k : Int)) = false := decide_eq_false (by omega)
          clear hh
          go_wp2_with (go_at_call 46; refine (digit_ref k hlt _).mono ?_; rintro e w' ⟨rfl, rfl⟩)
          go_round
          case rel => exact ⟨k + 1, by omega, by go_num, HNX.out⟩
          case measure => simp [intOf]; omega
    · obtain rfl : k = 16 := by omega
      have hret : r = -1 := by
        rw [HR.out, if_neg]
        intro hd
        have h1 := (hit_iff c (dv c) (dv_lt c) hc).2 ⟨hd, rfl⟩
        rw [HN.out (dv c) (dv_lt c)] at h1
        cases h1
      have HRET := Lib.hid hret
      clear hret
      go_wp2
      go_ret
      exact ⟨by rw [HRET.out]; rfl, rfl⟩

/-- 'append(out, x, y)' of two bytes onto a row of the call's own -/
theorem wp_push_two {o : Oper} {a : Act} {K : Act → World → Prop} {Q : Exit → Act → World → Prop} {W w : World} {B k c : Nat} {A : Option Addr} {f : Nat → Nat} {x y : Int} (s t : Operand)
    (ho : o.op = .call { callee := .builtin .append, args := #[s, t], argTypes := #[22, 22] })
    (hs : a.eval s = .slice A k c) (hx : a.eval t = .slice (some ⟨w.heap.size, 0, none⟩) 2 2)
    (own : Own w B 5 A k c f) (bel : Below B W w) (hB : B ≤ w.heap.size) (hb0 : x = (f k : Nat)) (hb1 : y = (f (k + 1) : Nat)) (hk : k < 1000000)
    (h : ∀ A' c' w', Own w' B 5 A' (k + 2) c' f → Below B W w' → B ≤ w'.heap.size → K (a.put o.dst (.slice A' (k + 2) c')) w') :
    o.wp Try.prog a (w.alloc (.cells #[.int .u8 x, .int .u8 y] 5)) K Q := by
  obtain ⟨i0, hi, hz0, hz1, hz2⟩ := info_parts info_u8
  refine wp_append_own _ s t 22 ho B 5 i0 (.int .u8 0) 1 1 Try.underlying22 hi hz0 hz1 hz2 rfl (by decide) (.slice A k c) k (byteCells f k) hs (World.ownsRow.alloc own _) ⟨w.heap.size, 0, none⟩ 2 2 [.int .u8 x, .int .u8 y] hx rfl ?_
    (by intro u hu; simp at hu; rcases hu with rfl | rfl <;> rfl) (by simp only [maxLen]; omega) (by omega) (by simp; omega) ?_
  · intro j u hj
    match j, hj with
    | 0, hj => simp at hj; subst hj; exact (Whole.new w 5 #[.int .u8 x, .int .u8 y]).cell 0
    | 1, hj => simp at hj; subst hj; exact (Whole.new w 5 #[.int .u8 x, .int .u8 y]).cell 1
  intro v' w' h1 h2 _
  obtain ⟨A', c', rfl, hown'⟩ := Own.of_append (f := f) h1 (by rw [byteCells_snoc, byteCells_snoc, hb0, hb1]; simp)
  exact h A' c' w' hown' (own.keeps bel _ h2 hB) (Nat.le_trans (by simp; omega) h2.size)

theorem hex_ref (A : Option Addr) (n c : Nat) (f : Nat → Nat) (hf : ∀ i, f i < 256) (hn : n ≤ 400000) (w : World) (hr : Rd w A n f) :
    Calls Try.prog 31 #[.slice A n c] w fun e w' => e = .returned (.string (strOf (hexAt f) (2 * n))) ∧ Below w.heap.size w w' := by
  have HR := Lib.hid hr
  clear hr
  have HF := Lib.hid hf
  clear hf
  go_enter Try.func31, Try.ntmps31
  go_wp2
  go_loopw [3, 4] (fun o i wr => ∃ (k : Nat) (A' : Option Addr) (c' : Nat), k ≤ n ∧ i = .int .i64 k ∧ o = .slice A' (2 * k) c' ∧ Own wr w.heap.size 5 A' (2 * k) c' (hexAt f) ∧ Below w.heap.size w wr) (fun _ i _ => n - (intOf i).toNat)
  case atStart => exact ⟨0, none, 0, Nat.zero_le _, rfl, rfl, Own.nil _ _ _ _, Below.refl _ _⟩
  case round =>
    obtain ⟨k, A', c', hk, rfl, rfl, hown, hbel⟩ := hrel
    by_cases hlt : k < n
    · rcases HR.out with h0 | ⟨b, off, rfl, hb, hc⟩
      · omega
      have hck := hc k hlt
      have HC := Lib.hid hck
      have HO := Lib.hid hown
      have hS0 := hbel
      have hkI : (0 : Int) ≤ (k : Int) := by omega
      have hltI : (k : Int) < (n : Int) := by omega
      have HBLK := Lib.hid hb
      have hfk := HF.out k
      have hw16 : IntKind.u8.wrap (((f k : Nat) : Int) / 16) = ((f k : Nat) : Int) / 16 := by rw [IntKind.wrap_u8']; omega
      have hw16m : IntKind.u8.wrap (((f k : Nat) : Int) % 16) = ((f k : Nat) : Int) % 16 := by rw [IntKind.wrap_u8']; omega
      clear hc hck hown hbel hb
      go_wp2_with fail
      refine region_drew (fun w' => Below w.heap.size w w') (by kernel_rfl) (Below.drew hS0) ?_
      intro hS
      refine take 0 _ rfl (by kernel_rfl) (by kernel_rfl) (by kernel_rfl) (fun _ _ _ h => h) (by rfl) hS (by intro w _; go_simp; with_reducible rfl) ?_
      try simp only [Act.put, List.setIfInBounds_toArray, List.set_cons_zero, List.set_cons_succ]
      refine take 1 _ rfl (by kernel_rfl) (by kernel_rfl) (by kernel_rfl) (fun _ _ _ h => h) (by rfl) hS (by intro w _; go_simp; with_reducible rfl) ?_
      try simp only [Act.put, List.setIfInBounds_toArray, List.set_cons_zero, List.set_cons_succ]
      refine take 2 _ rfl (by kernel_rfl) (by kernel_rfl) (by kernel_rfl) (fun _ _ _ h => h) (by rfl) hS (by intro w _; go_simp; with_reducible rfl) ?_
      try simp only [Act.put, List.setIfInBounds_toArray, List.set_cons_zero, List.set_cons_succ]
      refine take 3 _ rfl (by kernel_rfl) (by kernel_rfl) (by kernel_rfl) (fun _ _ _ h => h) (by rfl) hS (by intro w _; go_simp; with_reducible rfl) ?_
      try simp only [Act.put, List.setIfInBounds_toArray, List.set_cons_zero, List.set_cons_succ]
      refine take 4 _ rfl (by kernel_rfl) (by kernel_rfl) (by kernel_rfl) (fun _ _ _ h => h) (by rfl) hS (by intro w hw; have hcl := (hw.cell (p := ⟨b, off + k, none⟩) HBLK.out).trans HC.out; go_simp; with_reducible rfl) ?_
      try simp only [Act.put, List.setIfInBounds_toArray, List.set_cons_zero, List.set_cons_succ]
      refine take 5 _ rfl (by kernel_rfl) (by kernel_rfl) (by kernel_rfl) (fun _ _ _ h => h) (by rfl) hS (by intro w _; go_simp; with_reducible rfl) ?_
      try simp only [Act.put, List.setIfInBounds_toArray, List.set_cons_zero, List.set_cons_succ]
      refine take 7 _ rfl (by kernel_rfl) (by kernel_rfl) (by kernel_rfl) (fun _ _ _ h => h) (by rfl) hS (by intro w _; go_simp; with_reducible rfl) ?_
      try simp only [Act.put, List.setIfInBounds_toArray, List.set_cons_zero, List.set_cons_succ]
      refine take 8 _ rfl (by kernel_rfl) (by kernel_rfl) (by kernel_rfl) (fun _ _ _ h => h) (by rfl) hS (by intro w _; go_simp; with_reducible rfl) ?_
      try simp only [Act.put, List.setIfInBounds_toArray, List.set_cons_zero, List.set_cons_succ]
      refine take 9 _ rfl (by kernel_rfl) (by kernel_rfl) (by kernel_rfl) (fun _ _ _ h => h) (by rfl) hS (by intro w _; go_simp; with_reducible rfl) ?_
      try simp only [Act.put, List.setIfInBounds_toArray, List.set_cons_zero, List.set_cons_succ]
      refine take 10 _ rfl (by kernel_rfl) (by kernel_rfl) (by kernel_rfl) (fun _ _ _ h => h) (by rfl) hS (by intro w hw; have hcl := (hw.cell (p := ⟨b, off + k, none⟩) HBLK.out).trans HC.out; go_simp; with_reducible rfl) ?_
      try simp only [Act.put, List.setIfInBounds_toArray, List.set_cons_zero, List.set_cons_succ]
      refine take 11 _ rfl (by kernel_rfl) (by kernel_rfl) (by kernel_rfl) (fun _ _ _ h => h) (by rfl) hS (by intro w _; go_simp; with_reducible rfl) ?_
      try simp only [Act.put, List.setIfInBounds_toArray, List.set_cons_zero, List.set_cons_succ]
      refine alone 6 rfl (by kernel_rfl) (by rfl) ?_
      intro K hK
      go_simp
      rw [show ((f k : Nat) : Int) / 16 = ((f k / 16 : Nat) : Int) by omega]
      refine (digit_ref (f k / 16) (by omega) _).mono ?_
      rintro e w6 ⟨rfl, rfl⟩
      have hb := Below.refl wr.drew.heap.size wr.drew
      go_simp
      replace hS := below_trans hS hb
      refine hK.out _ _ hS ?_
      clear hK hb K
      try simp only [Act.put, List.setIfInBounds_toArray, List.set_cons_zero, List.set_cons_succ]
      refine alone 12 rfl (by kernel_rfl) (by rfl) ?_
      intro K hK
      go_simp
      rw [show (((f k : Nat) : Int)).tmod 16 = ((f k % 16 : Nat) : Int) by rw [Int.tmod_eq_emod_of_nonneg (by omega)]; omega]
      refine (digit_ref (f k % 16) (by omega) _).mono ?_
      rintro e w6 ⟨rfl, rfl⟩
      have hb := Below.refl wr.drew.heap.size wr.drew
      go_simp
      replace hS := below_trans hS hb
      refine hK.out _ _ hS ?_
      clear hK hb K
      try simp only [Act.put, List.setIfInBounds_toArray, List.set_cons_zero, List.set_cons_succ]
      refine alone 13 rfl (by kernel_rfl) (by rfl) ?_
      intro K hK
      go_simp
      replace hS := below_alloc hS (Obj.cells #[.int .u8 (hx (f k / 16) : Nat), .int .u8 (hx (f k % 16) : Nat)] 5)
      refine hK.out _ _ hS ?_
      clear hK K
      try simp only [Act.put, List.setIfInBounds_toArray, List.set_cons_zero, List.set_cons_succ]
      refine alone 14 rfl (by kernel_rfl) (by rfl) ?_
      intro K hK
      refine wp_push_two _ _ rfl rfl rfl (show Own wr.drew _ _ _ _ _ _ from HO.out) (Below.drew hS0) hS0.size (by rw [hexAt_even]) (by rw [hexAt_odd]) (by omega) ?_
      intro A2 c2 w7 ho7 hb7 hs7
      refine hK.out _ _ hb7 ?_
      clear hK K hS
      have hS := hb7
      have HO7 := Lib.hid ho7
      clear ho7 hb7
      try simp only [Act.put, List.setIfInBounds_toArray, List.set_cons_zero, List.set_cons_succ]
      refine take 15 _ rfl (by kernel_rfl) (by kernel_rfl) (by kernel_rfl) (fun _ _ _ h => h) (by rfl) hS (by intro w _; go_simp; with_reducible rfl) ?_
      try simp only [Act.put, List.setIfInBounds_toArray, List.set_cons_zero, List.set_cons_succ]
      refine region_end (by kernel_rfl) ?_
      have HS := Lib.hid hS
      clear hS hS0
      go_wp2
      go_roundw
      case rel => exact ⟨k + 1, A2, c2, by omega, by go_num, rfl, HO7.out, HS.out⟩
      case measure => simp [intOf]; omega
    · obtain rfl : k = n := by omega
      have HO := Lib.hid hown
      have HL := Lib.hid hbel
      have hcv := run_string_of (P := Try.prog) (c := c') 22 9 5 Try.underlying22 Try.underlying5 Try.underlying9 HO.out.rd
      clear hown hbel
      go_wp2
      go_ret
      exact ⟨rfl, HL.out⟩

end Ref
end Go.Proofs.Ytmhmcdldfpnmbaa
