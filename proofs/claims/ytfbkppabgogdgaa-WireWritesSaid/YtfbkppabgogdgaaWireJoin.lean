/- join of the law's package of wire, and the document's Copy. -/
import Derived.Test.YtfbkppabgogdgaaWireNum
import Derived.Test.YtfbkppabgogdgaaPieces2
namespace Go.Proofs.Ytfbkppabgogdgaa
namespace RefW
open Go.ChangeShapes Go.WideShapes Go.ChangeAt Go.RowKit
open Num Mem Words Ref Cuts Chacha Quiet

set_option maxRecDepth 100000 in
set_option maxHeartbeats 4000000 in
theorem join_any (pb po cp : Nat) (l : List Part) (hN : lenAll l ≤ 1000000) (hl : l.length ≤ 1000) (hnil : ∀ (j : Nat) (p : Part), l[j]? = some p → p.A = none → p.m = 0 ∧ p.c = 0) (w : World) (hP : PartsAt w pb po l) :
    Calls Try.prog 56 #[.slice (some ⟨pb, po, none⟩) l.length cp] w fun e w' => ∃ A c, e = .returned (.slice A (lenAll l) c) ∧ Own w' w.heap.size 5 A (lenAll l) c (textOf l) ∧ Below w.heap.size w w' := by
  have HP := Lib.hid hP
  have HNI := Lib.hid hnil
  have HTA := Lib.hid (fun (j : Nat) (p : Part) (h : l[j]? = some p) => textOf_at h)
  have HLT := Lib.hid (fun (j : Nat) (p : Part) (h : l[j]? = some p) => lenAll_take h)
  have HLL := Lib.hid (lenAll_le l)
  have HTL := Lib.hid (List.take_length (l := l))
  have HN := Lib.hid hN
  have HPL := Lib.hid hP.lt
  generalize textOf l = T at HTA ⊢
  clear hP hN hnil
  go_enter Try.func56, Try.ntmps56
  go_wp2_with fail
  go_loopw [3, 4] (fun o i X => ∃ (j : Nat) (A : Option Addr) (c : Nat), i = .int .i64 j ∧ j ≤ l.length ∧ o = .slice A (lenAll (l.take j)) c ∧ Own X w.heap.size 5 A (lenAll (l.take j)) c T ∧ Below w.heap.size w X) (fun _ i _ => l.length - (intOf i).toNat)
  case atStart => exact ⟨0, none, 0, rfl, by omega, by simp [lenAll], by simpa [lenAll] using Own.nil w w.heap.size 5 T, Below.refl _ _⟩
  case round =>
    obtain ⟨j, A, c, rfl, hj, rfl, ho, hb⟩ := hrel
    have HO := Lib.hid ho
    have HB := Lib.hid hb
    have hsz := hb.size
    have hlI : (l.length : Int) ≤ 1000 := by omega
    clear ho hb
    by_cases hlt : j < l.length
    · obtain ⟨p, hp⟩ : ∃ p, l[j]? = some p := ⟨l[j], List.getElem?_eq_getElem hlt⟩
      have jl : (j : Int) < (l.length : Int) := by omega
      have hc := (HB.out.cell (p := ⟨pb, po + j, none⟩) HPL.out).trans (HP.out.cell j p hp)
      have HSR := Lib.hid (src_rd ((HP.out.rd j p hp).below HB.out (Nat.le_refl _)) (HNI.out j p hp))
      have HNX := Lib.hid (HLT.out j p hp)
      have HAT := Lib.hid (HTA.out j p hp)
      have hle := HLL.out (j + 1)
      rw [HNX.out] at hle
      have hNN := HN.out
      obtain ⟨A2, m, c2, f⟩ := p
      have hc2 : World.cell? _ ⟨pb, po + j, none⟩ = some (.slice A2 m c2) := hc
      clear hc hp
      generalize lenAll (l.take j) = R at HNX hle HAT HO ⊢
      simp only at hle
      go_wp2_with (first
        | (at_builtin; refine wpList_catFrom (T := T) rfl (.tmp 11) (.tmp 15) 36 5 (.int .u8 0) 1 Try.underlying36 info_u8 rfl rfl rfl HO.out HB.out hsz m c2 A2 rfl HSR.out (by omega) (by omega) (fun i hi => ?_) ?_))
      · intro h0
        have h1 := HAT.out (i - R) (by show i - R < m; omega)
        rw [show R + (i - R) = i by omega] at h1
        exact h1
      · intro A3 c3 w5 h1 h2 h3 _ _
        have HO5 := Lib.hid h1
        have HB5 := Lib.hid h2
        clear h1 h2 HO HB HSR HAT
        go_wp2_with fail
        go_roundw
        case rel => exact ⟨j + 1, A3, c3, by go_num, by omega, by rw [HNX.out], by rw [HNX.out]; exact HO5.out, HB5.out⟩
        case measure => simp [intOf]; omega
    · obtain rfl : j = l.length := by omega
      rw [HTL.out] at HO ⊢
      have hnl : ¬ ((l.length : Nat) : Int) < ((l.length : Nat) : Int) := by omega
      go_wp2_with fail
      go_ret
      exact ⟨A, c, rfl, HO.out, HB.out⟩

set_option maxRecDepth 100000 in
set_option maxHeartbeats 4000000 in
theorem copy_any (A : Option Addr) (n c : Nat) (f : Nat → Nat) (hn : n ≤ 1000000) (hnil : A = none → n = 0 ∧ c = 0) (w : World) (hr : Rd w A n f) :
    Calls Try.prog 24 #[.slice A n c] w fun e w' => ∃ A' c', e = .returned (.slice A' n c') ∧ Own w' w.heap.size 5 A' n c' f ∧ Below w.heap.size w w' := by
  have HSR := Lib.hid (src_rd (c := c) hr hnil)
  clear hr hnil
  go_enter Try.func24, Try.ntmps24
  go_wp2_with (at_builtin; refine wpList_catFrom (W := w) (T := f) (f := f) rfl (.tmp 4) (.tmp 5) 36 5 (.int .u8 0) 1 Try.underlying36 info_u8 rfl rfl rfl (Own.nil w w.heap.size 5 f) (Below.refl _ _) (Nat.le_refl _) n c A rfl HSR.out (by omega) (by omega) (fun i hi => by rw [if_neg (by omega)]; rfl) ?_; intro A3 c3 w5 h1 h2 h3 _ _; have H1 := Lib.hid h1; have H2 := Lib.hid h2; clear h1 h2)
  rw [Nat.zero_add] at H1
  go_ret
  exact ⟨A3, c3, rfl, H1.out, H2.out⟩

end RefW
end Go.Proofs.Ytfbkppabgogdgaa
