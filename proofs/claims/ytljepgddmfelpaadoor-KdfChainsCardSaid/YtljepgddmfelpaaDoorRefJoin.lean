/- The document's own answers of layer 8 (package aditref08): Sum, Join. -/
import Derived.Test.YtljepgddmfelpaaDoorRefTotal
import Derived.Test.YtljepgddmfelpaaDoorKdfMac
namespace Go.Proofs.YtljepgddmfelpaaDoor
namespace RefK
open Go.ChangeShapes Go.WideShapes Go.ChangeAt Go.RowKit
open Num Mem Words State Blake Ref Chacha Quiet RefB Kdf

theorem src_of_rd {w : World} {A : Option Addr} {n c : Nat} {f : Nat → Nat} (h : Rd w A n f) (hn : 0 < n) : Src w A n c f :=
  src_rd h fun e => by
    rcases h with h | ⟨b, off, e2, _⟩
    · omega
    · rw [e] at e2
      cases e2

set_option maxRecDepth 100000 in
theorem sum8_ref (A : Option Addr) (n c : Nat) (f : Nat → Nat) (hf : ∀ i, f i < 256) (hn : n ≤ 900000) (w : World) (hs : Src w A n c f) :
    Calls Tryd.prog 39 #[.slice A n c] w fun e w' => ∃ A' c', e = .returned (.slice A' 32 c') ∧ Rd w' A' 32 (sum32 f n) ∧ Below w.heap.size w w' ∧ Fresh w A' := by
  have HC := Lib.hid (sum_ref 32 none A 0 0 n c (fun _ => 0) f (by omega) (by omega) (by omega) (fun _ => by omega) hf hn w (.inl ⟨rfl, rfl, rfl⟩) hs)
  have HE := Lib.hid (show digest 32 (fun _ => 0) 0 f n = sum32 f n from rfl)
  rw [HE.out] at HC
  clear hs hf
  go_enter Tryd.func39, Tryd.ntmps39
  go_wp2_with fail
  refine HC.out.mono ?_
  rintro e w1 ⟨A', c', rfl, hr, hb, hfr⟩
  have HR := Lib.hid hr
  have HB := Lib.hid hb
  have HFR := Lib.hid hfr
  clear hr hb hfr
  go_wp2_with fail
  go_ret
  exact ⟨A', c', rfl, HR.out, HB.out, HFR.out⟩

set_option maxRecDepth 100000 in
theorem join_ref (A A2 : Option Addr) (m c n c2 : Nat) (a f : Nat → Nat) (ha : ∀ i, a i < 256) (hf : ∀ i, f i < 256) (hm : m ≤ 400000) (hn : n ≤ 400000) (w : World) (h1 : Src w A m c a) (h2 : Src w A2 n c2 f) :
    Calls Tryd.prog 24 #[.slice A m c, .slice A2 n c2] w fun e w' => ∃ A' c', e = .returned (.slice A' 32 c') ∧ Rd w' A' 32 (sum32 (catF a m f) (m + n)) ∧ Below w.heap.size w w' := by
  have H1 := Lib.hid h1
  have H2 := Lib.hid h2
  have HT := Lib.hid (show ∀ i, i < 0 + m → a i = if i < 0 then (fun _ => 0) i else a (i - 0) from fun i _ => by rw [if_neg (by omega), Nat.sub_zero])
  have HT2 := Lib.hid (show ∀ i, i < m + n → catF a m f i = if i < m then a i else f (i - m) from fun i _ => rfl)
  have HCF := Lib.hid (show ∀ i, catF a m f i < 256 from fun i => by unfold catF; split; exact ha i; exact hf _)
  clear h1 h2 ha hf
  go_enter Tryd.func24, Tryd.ntmps24
  go_wp2_with (first
    | (at_builtin; refine wpList_catFrom rfl _ _ 22 5 (.int .u8 0) 1 Tryd.underlying22 info_u8 rfl rfl rfl (Own.nil w w.heap.size 5 (fun _ => 0)) (Below.refl _ _) (Nat.le_refl _) m c A rfl H1.out (by omega) (by omega) HT.out ?_; intro A1 c1 w1 ho hb hsz1 _ _; rw [Nat.zero_add] at ho; rw [Nat.zero_add]; have HO := Lib.hid ho; have HB := Lib.hid hb; have HS2 := Lib.hid (src_below H2.out hb); clear ho hb H1)
    | (at_builtin; refine wpList_catFrom rfl _ _ 22 5 (.int .u8 0) 1 Tryd.underlying22 info_u8 rfl rfl rfl HO.out HB.out hsz1 n c2 A2 rfl HS2.out (by omega) (by omega) HT2.out ?_; intro A3 c3 w2 ho hb hsz2 _ _; have HO2 := Lib.hid ho; have HB2 := Lib.hid hb; clear ho hb HO HB HS2))
  refine (sum8_ref A3 (m + n) c3 (catF a m f) HCF.out (by omega) _ (src_own HO2.out)).mono ?_
  rintro e w3 ⟨A', c', rfl, hr, hb, _⟩
  have HR := Lib.hid hr
  have HB3 := Lib.hid (HB2.out.trans (hb.mono hsz2))
  clear hr hb
  go_wp2_with fail
  go_ret
  exact ⟨A', c', rfl, HR.out, HB3.out⟩

end RefK
end Go.Proofs.YtljepgddmfelpaaDoor
