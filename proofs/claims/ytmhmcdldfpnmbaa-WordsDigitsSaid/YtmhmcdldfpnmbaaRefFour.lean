/- The document's own answers of layer 1 (package aditref01), more: Unhex. -/
import Derived.Test.YtmhmcdldfpnmbaaRefThree
namespace Go.Proofs.Ytmhmcdldfpnmbaa
namespace Ref
open Go.ChangeShapes Go.WideShapes Go.ChangeAt Go.RowKit
open Num Mem Words Quiet

theorem value_yes (c : Nat) (hc : c < 256) (h : isDig c = true) (w : World) :
    Calls Try.prog 45 #[.int .u8 (c : Nat)] w fun e w' => e = .returned (.int .i64 (dv c : Nat)) ∧ w = w' := by
  have := value_any c hc w
  rwa [if_pos h] at this
theorem value_no (c : Nat) (hc : c < 256) (h : isDig c = false) (w : World) :
    Calls Try.prog 45 #[.int .u8 (c : Nat)] w fun e w' => e = .returned (.int .i64 (-1)) ∧ w = w' := by
  have := value_any c hc w
  rwa [if_neg (by rw [h]; simp)] at this

/-- 'append(out, x)' of one byte onto a row of the call's own, as a single operation -/
theorem wp_push_one {o : Oper} {a : Act} {K : Act → World → Prop} {Q : Exit → Act → World → Prop} {W w : World} {B B' k c : Nat} {A : Option Addr} {f : Nat → Nat} {x : Int} (s t : Operand)
    (ho : o.op = .call { callee := .builtin .append, args := #[s, t], argTypes := #[22, 22] })
    (hs : a.eval s = .slice A k c) (hx : a.eval t = .slice (some ⟨w.heap.size, 0, none⟩) 1 1)
    (own : Own w B 5 A k c f) (bel : Below B' W w) (hB : B ≤ w.heap.size ∧ B' ≤ B) (hb0 : x = (f k : Nat)) (hk : k < 1000000)
    (h : ∀ A' c' w', Own w' B 5 A' (k + 1) c' f → Below B' W w' → B ≤ w'.heap.size → K (a.put o.dst (.slice A' (k + 1) c')) w') :
    o.wp Try.prog a (w.alloc (.cells #[.int .u8 x] 5)) K Q := by
  obtain ⟨i0, hi, hz0, hz1, hz2⟩ := info_parts info_u8
  refine wp_append_own _ s t 22 ho B 5 i0 (.int .u8 0) 1 1 Try.underlying22 hi hz0 hz1 hz2 rfl (by decide) (.slice A k c) k (byteCells f k) hs (World.ownsRow.alloc own _) ⟨w.heap.size, 0, none⟩ 1 1 [.int .u8 x] hx rfl (one_at _ _ _)
    (by intro u hu; simp at hu; subst hu; rfl) (by simp only [maxLen]; omega) (by omega) (by simp; omega) ?_
  intro v' w' h1 h2 _
  obtain ⟨A', c', rfl, hown'⟩ := Own.of_append (f := f) h1 (by rw [byteCells_snoc, hb0])
  have hk2 : Below B w w' := own.keeps (Below.refl B w) _ h2 hB.1
  exact h A' c' w' hown' (bel.trans (hk2.mono hB.2)) (Nat.le_trans (by simp; omega) h2.size)

theorem ux_pair (ch : Nat → Nat) (n k : Nat) (hk : k < n) (h : k % 2 = 1) : ux ch n (k / 2) = dv (ch (k - 1)) * 16 + dv (ch k) := by
  unfold ux
  rw [if_pos (by omega), show 2 * (k / 2) = k - 1 from by omega, show k - 1 + 1 = k from by omega]

set_option maxHeartbeats 800000 in
theorem unhex_ref_core (s : ByteArray) (hn : s.size ≤ 131072) (m : Nat) (hm : m ≤ s.size) (hd : ∀ i, i < m → isDig (chr s i) = true) (N : Nat) (pl code : Int)
    (hcase : (m < s.size ∧ isDig (chr s m) = false ∧ N = 0 ∧ pl = m ∧ code = 11) ∨ (m = s.size ∧ s.size % 2 = 1 ∧ N = 0 ∧ pl = s.size ∧ code = 10) ∨ (m = s.size ∧ s.size % 2 = 0 ∧ N = s.size / 2 ∧ pl = 0 ∧ code = 0)) (w : World) :
    Calls Try.prog 28 #[.string s] w fun e w' => ∃ A c, e = .returned (.tuple #[.slice A N c, .agg #[.int .i64 pl, .int .i64 code]]) ∧ Rd w' A N (ux (chr s) s.size) ∧ Below w.heap.size w w' := by
  have hz : decide ((131072 : Int) < (s.size : Int)) = false := decide_eq_false (by omega)
  have HD := Lib.hid hd
  have HCASE := Lib.hid hcase
  clear hd hcase
  go_enter Try.func28, Try.ntmps28
  go_wp2
  clear hz
  go_loopw [4, 5] (fun o i wr => ∃ (k : Nat) (A' : Option Addr) (c' : Nat), k ≤ m ∧ i = .int .i64 k ∧ o = .slice A' (k / 2) c' ∧ Own wr (w.heap.size + 1) 5 A' (k / 2) c' (ux (chr s) s.size) ∧ Whole wr w.heap.size 43 #[.int .i64 0, .int .i64 0] ∧ Below w.heap.size w wr) (fun _ i _ => s.size - (intOf i).toNat)
  case atStart => exact ⟨0, none, 0, Nat.zero_le _, rfl, rfl, Own.nil _ _ _ _, Whole.new _ _ _, (Below.refl _ _).alloc (Nat.le_refl _) _⟩
  case round =>
    obtain ⟨k, A', c', hk, rfl, rfl, hown, hres, hbel⟩ := hrel
    have hszr := hres.lt
    have HO := Lib.hid hown
    have HS := Lib.hid hres
    by_cases hlt : k < m
    · have hks : k < s.size := by omega
      have hdk : isDig (s[k].toNat) = true := by rw [chr_get]; exact HD.out k hlt
      have hkc := chr_lt s k
      have hdv := dv_lt s[k].toNat
      have hdk' := HD.out k hlt
      by_cases hpar : k % 2 = 0
      · have e1 : (((k : Nat) : Int) % 2 == 1) = false := by simp; omega
        have HL := Lib.hid hbel
        clear hown hres hbel
        go_wp2_with (go_at_call 45; refine (value_yes _ (by rw [chr_get]; exact hkc) hdk _).mono ?_; rintro e w' ⟨rfl, rfl⟩)
        go_roundw
        case rel => exact ⟨k + 1, A', c', by omega, by go_num, by rw [show (k + 1) / 2 = k / 2 from by omega], by rw [show (k + 1) / 2 = k / 2 from by omega]; exact HO.out, HS.out, HL.out⟩
        case measure => simp [intOf]; omega
      · have e1 : (((k : Nat) : Int) % 2 == 1) = true := by simp; omega
        obtain ⟨j, rfl⟩ : ∃ j, k = j + 1 := ⟨k - 1, by omega⟩
        have hk1 : j < s.size := by omega
        have hdp := HD.out j (by omega)
        have hg1 : (s[j]'hk1).toNat = chr s j := chr_get s j hk1
        have hg2 : (s[j + 1]'hks).toNat = chr s (j + 1) := chr_get s (j + 1) hks
        have hp1 := dv_lt (chr s j)
        have hp2 := dv_lt (chr s (j + 1))
        have hi1 : (0 : Int) ≤ (j : Int) := by omega
        have hi2 : (j : Int) < (s.size : Int) := by omega
        have hi3 : (0 : Int) ≤ (j : Int) + 1 := by omega
        have hi4 : (j : Int) + 1 < (s.size : Int) := by omega
        have hi5 : ((j : Int) + 1).toNat = j + 1 := by omega
        have hi6 : IntKind.i64.wrap (j : Int) = (j : Int) := by rw [IntKind.wrap_i64]; omega
        have hS0 := hbel
        have hszB : w.heap.size + 1 ≤ wr.drew.heap.size ∧ w.heap.size + 1 ≤ w.heap.size + 1 := ⟨hszr, Nat.le_refl _⟩
        have hux := ux_pair (chr s) s.size (j + 1) hks (by omega)
        have hv1 : IntKind.i64.wrap (16 * ((dv (chr s j) : Nat) : Int)) = 16 * ((dv (chr s j) : Nat) : Int) := by rw [IntKind.wrap_i64]; omega
        have hv2 : IntKind.i64.wrap (16 * ((dv (chr s j) : Nat) : Int) + ((dv (chr s (j + 1)) : Nat) : Int)) = 16 * ((dv (chr s j) : Nat) : Int) + ((dv (chr s (j + 1)) : Nat) : Int) := by rw [IntKind.wrap_i64]; omega
        have hv3 : IntKind.u8.wrap (16 * ((dv (chr s j) : Nat) : Int) + ((dv (chr s (j + 1)) : Nat) : Int)) = ((ux (chr s) s.size ((j + 1) / 2) : Nat) : Int) := by rw [IntKind.wrap_u8', hux, Nat.add_sub_cancel]; omega
        have HUX := Lib.hid hux
        clear hux
        clear hown hres hbel
        go_wp2_with (go_at_call 45; refine (value_yes _ hkc hdk' _).mono ?_; rintro e w' ⟨rfl, rfl⟩)
        refine region_drew (fun w' => Below w.heap.size w w') (by kernel_rfl) (Below.drew hS0) ?_
        intro hS
        refine take 0 _ rfl (by kernel_rfl) (by kernel_rfl) (by kernel_rfl) (fun _ _ _ h => h) (by rfl) hS (by intro w _; go_simp; with_reducible rfl) ?_
        try simp only [Act.put, List.setIfInBounds_toArray, List.set_cons_zero, List.set_cons_succ]
        refine take 1 _ rfl (by kernel_rfl) (by kernel_rfl) (by kernel_rfl) (fun _ _ _ h => h) (by rfl) hS (by intro w _; go_simp; with_reducible rfl) ?_
        try simp only [Act.put, List.setIfInBounds_toArray, List.set_cons_zero, List.set_cons_succ]
        refine take 2 _ rfl (by kernel_rfl) (by kernel_rfl) (by kernel_rfl) (fun _ _ _ h => h) (by rfl) hS (by intro w _; go_simp; with_reducible rfl) ?_
        try simp only [Act.put, List.setIfInBounds_toArray, List.set_cons_zero, List.set_cons_succ]
        refine take 3 _ rfl (by kernel_rfl) (by kernel_rfl) (by kernel_rfl) (fun _ _ _ h => h) (by rfl) hS (by intro w _; go_simp; with_reducible rfl) ?_
        try simp only [Act.put, List.setIfInBounds_toArray, List.set_cons_zero, List.set_cons_succ]
        refine take 4 _ rfl (by kernel_rfl) (by kernel_rfl) (by kernel_rfl) (fun _ _ _ h => h) (by rfl) hS (by intro w _; go_simp; with_reducible rfl) ?_
        try simp only [Act.put, List.setIfInBounds_toArray, List.set_cons_zero, List.set_cons_succ]
        refine take 7 _ rfl (by kernel_rfl) (by kernel_rfl) (by kernel_rfl) (fun _ _ _ h => h) (by rfl) hS (by intro w _; go_simp; with_reducible rfl) ?_
        try simp only [Act.put, List.setIfInBounds_toArray, List.set_cons_zero, List.set_cons_succ]
        refine take 8 _ rfl (by kernel_rfl) (by kernel_rfl) (by kernel_rfl) (fun _ _ _ h => h) (by rfl) hS (by intro w _; go_simp; with_reducible rfl) ?_
        try simp only [Act.put, List.setIfInBounds_toArray, List.set_cons_zero, List.set_cons_succ]
        refine take 9 _ rfl (by kernel_rfl) (by kernel_rfl) (by kernel_rfl) (fun _ _ _ h => h) (by rfl) hS (by intro w _; go_simp; with_reducible rfl) ?_
        try simp only [Act.put, List.setIfInBounds_toArray, List.set_cons_zero, List.set_cons_succ]
        refine alone 5 rfl (by kernel_rfl) (by rfl) ?_
        intro K hK
        go_simp
        refine (value_yes _ (chr_lt s j) hdp _).mono ?_
        rintro e w6 ⟨rfl, rfl⟩
        have hb := Below.refl wr.drew.heap.size wr.drew
        go_simp
        replace hS := below_trans hS hb
        refine hK.out _ _ hS ?_
        clear hK hb K
        try simp only [Act.put, List.setIfInBounds_toArray, List.set_cons_zero, List.set_cons_succ]
        refine take 6 _ rfl (by kernel_rfl) (by kernel_rfl) (by kernel_rfl) (fun _ _ _ h => h) (by rfl) hS (by intro w _; go_simp; with_reducible rfl) ?_
        try simp only [Act.put, List.setIfInBounds_toArray, List.set_cons_zero, List.set_cons_succ]
        refine alone 10 rfl (by kernel_rfl) (by rfl) ?_
        intro K hK
        go_simp
        refine (value_yes _ (chr_lt s (j + 1)) hdk' _).mono ?_
        rintro e w6 ⟨rfl, rfl⟩
        have hb := Below.refl wr.drew.heap.size wr.drew
        go_simp
        replace hS := below_trans hS hb
        refine hK.out _ _ hS ?_
        clear hK hb K
        try simp only [Act.put, List.setIfInBounds_toArray, List.set_cons_zero, List.set_cons_succ]
        refine take 11 _ rfl (by kernel_rfl) (by kernel_rfl) (by kernel_rfl) (fun _ _ _ h => h) (by rfl) hS (by intro w _; go_simp; with_reducible rfl) ?_
        try simp only [Act.put, List.setIfInBounds_toArray, List.set_cons_zero, List.set_cons_succ]
        refine take 12 _ rfl (by kernel_rfl) (by kernel_rfl) (by kernel_rfl) (fun _ _ _ h => h) (by rfl) hS (by intro w _; go_simp; with_reducible rfl) ?_
        try simp only [Act.put, List.setIfInBounds_toArray, List.set_cons_zero, List.set_cons_succ]
        refine alone 13 rfl (by kernel_rfl) (by rfl) ?_
        intro K hK
        go_simp
        replace hS := below_alloc hS (Obj.cells #[.int .u8 (ux (chr s) s.size ((j + 1) / 2) : Nat)] 5)
        refine hK.out _ _ hS ?_
        clear hK K
        try simp only [Act.put, List.setIfInBounds_toArray, List.set_cons_zero, List.set_cons_succ]
        refine alone 14 rfl (by kernel_rfl) (by rfl) ?_
        intro K hK
        refine wp_push_one _ _ rfl rfl rfl (show Own wr.drew _ _ _ _ _ _ from HO.out) (Below.drew (Below.refl (w.heap.size + 1) wr)) hszB rfl (by omega) ?_
        intro A2 c2 w7 ho7 hb7 hs7
        have hS7 := hS0.trans (hb7.mono (Nat.le_succ _))
        refine hK.out _ _ hS7 ?_
        clear hK K hS
        have hS := hS7
        have HO7 := Lib.hid ho7
        have HB7 := Lib.hid hb7
        clear ho7 hb7 hS7
        try simp only [Act.put, List.setIfInBounds_toArray, List.set_cons_zero, List.set_cons_succ]
        refine take 15 _ rfl (by kernel_rfl) (by kernel_rfl) (by kernel_rfl) (fun _ _ _ h => h) (by rfl) hS (by intro w _; go_simp; with_reducible rfl) ?_
        try simp only [Act.put, List.setIfInBounds_toArray, List.set_cons_zero, List.set_cons_succ]
        refine region_end (by kernel_rfl) ?_
        have HS7 := Lib.hid hS
        clear hS hS0 hv1 hv2 hv3
        go_wp2
        go_roundw
        case rel => exact ⟨j + 1 + 1, A2, c2, by omega, by go_num, by rw [show (j + 1 + 1) / 2 = (j + 1) / 2 + 1 from by omega], by rw [show (j + 1 + 1) / 2 = (j + 1) / 2 + 1 from by omega]; exact HO7.out, HS.out.below HB7.out (Nat.lt_succ_self _), HS7.out⟩
        case measure => simp [intOf]; omega
    · obtain rfl : k = m := by omega
      have r0 := hres.cell 0
      have r1 := hres.cell 1
      have f0 := hres.free 0
      have f1 := hres.free 1
      simp at r0 r1
      have HL := Lib.hid hbel
      clear hown hres hbel
      rcases HCASE.out with ⟨h1, h2, rfl, rfl, rfl⟩ | ⟨h1, h2, rfl, rfl, rfl⟩ | ⟨h1, h2, rfl, rfl, rfl⟩
      · have hdk : isDig (s[k].toNat) = false := by rw [chr_get]; exact h2
        have hkc := chr_lt s k
        clear HCASE
        go_wp2_with (go_at_call 45; refine (value_no _ (by rw [chr_get]; exact hkc) hdk _).mono ?_; rintro e w' ⟨rfl, rfl⟩)
        refine bodyPost_ret (v := .tuple #[.slice none 0 0, .agg #[.int .i64 k, .int .i64 11]]) ?_ rfl ⟨none, 0, rfl, .inl rfl, (HL.out.setCell (by simp) _).setCell (by simp) _⟩
        simp [results, Try.results28, go_sem, r0, r1]
      · have e1 : (((s.size : Nat) : Int) % 2 == 1) = true := by simp; omega
        have hlt2 : ¬ k < s.size := by omega
        clear HCASE
        go_wp2
        refine bodyPost_ret (v := .tuple #[.slice none 0 0, .agg #[.int .i64 s.size, .int .i64 10]]) ?_ rfl ⟨none, 0, rfl, .inl rfl, (HL.out.setCell (by simp) _).setCell (by simp) _⟩
        simp [results, Try.results28, go_sem, r0, r1]
      · have e1 : (((s.size : Nat) : Int) % 2 == 1) = false := by simp; omega
        have hlt2 : ¬ k < s.size := by omega
        clear HCASE
        subst h1
        go_wp2
        refine bodyPost_ret (v := .tuple #[.slice A' (s.size / 2) c', .agg #[.int .i64 0, .int .i64 0]]) ?_ rfl ⟨A', c', rfl, ?_, (HL.out.setCell (by simp) _).setCell (by simp) _⟩
        · simp [results, Try.results28, go_sem, r0, r1]
        · exact Own.rd (show Own _ (w.heap.size + 1) 5 A' (s.size / 2) c' (ux (chr s) s.size) from ownsRow_setCell_below (ownsRow_setCell_below HO.out (Nat.lt_succ_self _) _) (Nat.lt_succ_self _) _)

theorem unhex_ref_all (s : ByteArray) (w : World) :
    Calls Try.prog 28 #[.string s] w fun e w' => ∃ A c, e = .returned (.tuple #[.slice A (uhN s) c, .agg #[.int .i64 (uhAt s), .int .i64 (uhC s)]]) ∧ Rd w' A (uhN s) (ux (chr s) s.size) ∧ Below w.heap.size w w' := by
  rcases uh_cases s with ⟨h, e1, e2, e3⟩ | ⟨hn, m, hm, hd, hno, e1, e2, e3⟩ | ⟨hn, h2, hd, e1, e2, e3⟩ | ⟨hn, h2, hd, e1, e2, e3⟩
  · rw [e1, e2, e3]
    have hz : decide ((131072 : Int) < (s.size : Int)) = true := decide_eq_true (by omega)
    clear e1 e2 e3
    go_enter Try.func28, Try.ntmps28
    go_wp2
    refine bodyPost_ret (v := .tuple #[.slice none 0 0, .agg #[.int .i64 0, .int .i64 2]]) ?_ rfl ⟨none, 0, rfl, .inl rfl, (Below.refl _ _).alloc (Nat.le_refl _) _⟩
    simp [results, Try.results28, go_sem]
  · exact unhex_ref_core s hn m (by omega) hd _ _ _ (.inl ⟨hm, hno, e1, e2, e3⟩) w
  · exact unhex_ref_core s hn s.size (Nat.le_refl _) hd _ _ _ (.inr (.inl ⟨rfl, h2, e1, e2, e3⟩)) w
  · exact unhex_ref_core s hn s.size (Nat.le_refl _) hd _ _ _ (.inr (.inr ⟨rfl, h2, e1, e2, e3⟩)) w

end Ref
end Go.Proofs.Ytmhmcdldfpnmbaa
