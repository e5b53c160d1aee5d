/- The document's own Drop. -/
import Derived.Test.YtcpfchfhcfdcpaaTlCat
namespace Go.Proofs.Ytcpfchfhcfdcpaa
namespace Tri
open Go.ChangeShapes Go.WideShapes Go.ChangeAt Go.RowKit
open Num Mem Words Chacha Aead Poly Quiet Ops Adr RowS

set_option maxRecDepth 100000 in
set_option maxHeartbeats 4000000 in
theorem rDrop_any {w : World} {A : Option Addr} {L : List Rt} (c : Nat) (h : RdQ w A L) (hL : L.length ≤ 1000) (hLc : L.length ≤ c) (hc : c ≤ 9223372036854775807) (hU : ∀ (j k : Nat) (y x : Rt) (s : Bool) (g : Nat → Nat) (z : Int), L[j]? = some y → L[k]? = some x → isP s g z y = true → isP s g z x = true → j = k) (s : Bool) (g : Nat → Nat) (hg : ∀ i, g i < 256) (z : Int) :
    Calls Try.prog 26 #[.slice A L.length c, .agg (prefL s g z).toArray] w fun e w' => ∃ A' c', e = .returned (.tuple #[.slice A' (rDropL s g z L).length c', .int .i64 (rDropE s g z L : Nat)]) ∧ RdQ w' A' (rDropL s g z L) ∧ ((rDropL s g z L).length ≤ c' ∧ c' ≤ 9223372036854775807) ∧ Below w.heap.size w w' := by
  have HPA := Lib.hid (fun (X : World) (h : RdQ X A L) => place_any c h hL s g hg z)
  have HRP := Lib.hid (fun (X : World) => rRightP_any s g hg z X)
  have HUU := Lib.hid (fun (j k : Nat) (y x : Rt) => hU j k y x s g z)
  have HGB := Lib.hid (show ∀ r, PlR L (isP s g z) r → (getB L s g z = false ↔ r < 0) from fun r h => by
    rcases h with ⟨k, x, rfl, h1, h2, h3⟩ | ⟨rfl, h1⟩
    · rw [(plr_get h1 h2 h3).2]; simp
    · rw [(get_none h1).2]; simp)
  have HPL := Lib.hid (prefL_length s g z)
  have HPE := Lib.hid (show rDropE s g z L = if rightPB s g z = false then 41 else if getB L s g z = false then 4 else 0 from rfl)
  have HPV := Lib.hid (show rDropL s g z L = if rDropE s g z L = 0 then L.filter (fun y => !isP s g z y) else [] from rfl)
  obtain ⟨PG, hPG⟩ : ∃ P, prefL s g z = P := ⟨_, rfl⟩
  obtain ⟨F, hF⟩ : ∃ F, isP s g z = F := ⟨_, rfl⟩
  obtain ⟨RB, hRB⟩ : ∃ r, rightPB s g z = r := ⟨_, rfl⟩
  obtain ⟨GB, hGB⟩ : ∃ r, getB L s g z = r := ⟨_, rfl⟩
  obtain ⟨n, hn⟩ : ∃ n, L.length = n := ⟨_, rfl⟩
  generalize rDropL s g z L = RES at HPV ⊢
  generalize rDropE s g z L = PE at HPV HPE ⊢
  rw [hPG] at HPA HRP HPL ⊢
  rw [hF] at HPA HUU HGB HPV
  rw [hRB] at HRP HPE
  rw [hGB] at HGB HPE
  rw [hn] at HPA hL hLc ⊢
  have HN := Lib.hid hn
  have HR := Lib.hid h
  clear hPG hF hRB hGB hn h hg hU
  go_enter Try.func26, Try.ntmps26
  go_upto_region 1 with fail
  refine cut_world (fun X => PlW w w.heap.size PG A L X) ⟨Whole.new _ _ _, HR.out.below (below_alloc (Below.refl _ _) _) (Nat.le_refl _), below_alloc (Below.refl _ _) _⟩ ?_
  intro W hW
  generalize hB : w.heap.size = B at hW ⊢
  have HB := Lib.hid hB
  have HW := Lib.hid hW
  clear hB hW HR
  cases RB with
  | false =>
    have hE : PE = 41 := by rw [HPE.out, if_pos rfl]
    have hV : RES = [] := by rw [HPV.out, if_neg (by rw [hE]; decide)]
    have HEV := Lib.hid (And.intro hE hV)
    clear hE hV
    go_wp2_with (first
      | (refine Poly.wpList_load_row_if rfl 29 (.tmp 3) rfl B rfl 29 PG _ HW.out.p rfl rfl (by rw [HPL.out]; kernel_rfl) ?_)
      | (go_at_call 39; refine (HRP.out _).mono ?_; rintro e w1 ⟨rfl, hb1⟩; have HW1 := Lib.hid (HW.out.below hb1); clear hb1))
    go_ret2
    exact ⟨none, 0, by rw [HEV.out.1, HEV.out.2]; rfl, by rw [HEV.out.2]; exact ⟨fun k x h => by simp at h⟩, by rw [HEV.out.2]; exact ⟨Nat.le_refl _, Nat.zero_le _⟩, by rw [HB.out]; exact HW1.out.bel⟩
  | true =>
    go_upto_region 4 with (first
      | (refine Poly.wpList_load_row_if rfl 29 (.tmp 3) rfl B rfl 29 PG _ HW.out.p rfl rfl (by rw [HPL.out]; kernel_rfl) ?_)
      | (go_at_call 39; refine (HRP.out _).mono ?_; rintro e w1 ⟨rfl, hb1⟩; replace HW := Lib.hid (HW.out.below hb1); clear hb1)
      | (go_at_call 29; refine (HPA.out _ HW.out.rd).mono ?_; rintro e w2 ⟨r, rfl, hpl, hb1⟩; have HW2 := Lib.hid (HW.out.below hb1); clear hb1))
    have HGR := Lib.hid (HGB.out r hpl)
    rcases hpl with ⟨k, x, rfl, h1, h2, h3⟩ | ⟨rfl, h1⟩
    · have hE : PE = 0 := by rw [HPE.out, if_neg (by decide), if_neg (fun e => by have := HGR.out.1 e; omega)]
      have hcut := cut_is h1 h2 (fun j y hj hy => HUU.out j k y x hj h1 hy h2)
      have hV : RES = L.take k ++ L.drop (k + 1) := by rw [HPV.out, if_pos hE, hcut]
      have HEV := Lib.hid (And.intro hE hV)
      have hkn : k < n := by rw [← HN.out]; exact (List.getElem?_eq_some_iff.1 h1).1
      obtain ⟨b, rfl, hbl, _⟩ := HW2.out.rd.out k x h1
      have HP1 := Lib.hid (show RdP w2 b 0 (L.take k) from by have := rdp_of 0 k HW2.out.rd hbl; simpa using this)
      have HP2 := Lib.hid (show ∀ X, Below w2.heap.size w2 X → RdP X b ((k + 1) * 19) (L.drop (k + 1)) from fun X hX => by
        have := rdp_of (k + 1) n (HW2.out.rd.below hX (Nat.le_refl _)) (Nat.lt_of_lt_of_le hbl hX.size)
        rw [List.take_of_length_le (by rw [List.length_drop, HN.out]; omega)] at this
        exact this)
      have HM1 := Lib.hid (show (L.take k).length = k from by rw [List.length_take, HN.out]; omega)
      have HM2 := Lib.hid (show (L.drop (k + 1)).length = n - (k + 1) from by rw [List.length_drop, HN.out])
      have HLN := Lib.hid (show n = k + 1 → L.drop (k + 1) = [] from fun e => List.drop_of_length_le (by rw [HN.out]; omega))
      generalize L.take k = M1 at HP1 HM1 HEV
      generalize L.drop (k + 1) = M2 at HP2 HM2 HEV HLN
      clear hE hV hcut h1 h2 h3 hbl HGR HPE HPV
      have hd : decide ((k : Int) < 0) = false := decide_eq_false (by omega)
      by_cases hck : c = k + 1
      · have he : M2 = [] := HLN.out (by omega)
        have HP3 := Lib.hid (show ∀ X, Below w2.heap.size w2 X → RdP X b 0 M2 from fun X hX => ⟨(HP2.out X hX).1, fun j u hu => by rw [he] at hu; simp [flatR] at hu⟩)
        clear he
        go_wp2_with (at_builtin; (first
          | (refine wpList_catR (B := w2.heap.size) (G := []) (M := M1) rfl _ _ rfl rfl rfl rfl HM1.out (⟨rfl, .inl ⟨rfl, rfl⟩⟩ : w2.ownsRow w2.heap.size 41 19 (.slice none ([] : List Rt).length 0) ([] : List Rt).length (flatR [])) HP1.out (Nat.le_refl _) (by omega) ?_; intro A1 c1 w3 g1 b1; have H3 := Lib.hid (And.intro g1 b1); clear g1 b1)
          | (refine wpList_catR (B := w2.heap.size) (b := b) (off := 0) (G := M1) (M := M2) rfl _ _ rfl rfl rfl (by have := HM1.out; omega) HM2.out H3.out.1 (HP3.out _ H3.out.2) (H3.out.2.size) (by omega) ?_; intro A2 c2 w4 g2 b2; have H4 := Lib.hid (And.intro g2 b2); clear g2 b2)))
        go_ret2
        exact ⟨A2, c2, by rw [HEV.out.1, HEV.out.2, List.length_append, HM1.out, HM2.out]; simp, by rw [HEV.out.2]; exact rdQ_of (rdR_own H4.out.1), by rw [HEV.out.2]; exact own_caps H4.out.1, by rw [HB.out]; exact HW2.out.bel.trans ((H3.out.2.trans H4.out.2).mono (HB.out ▸ HW2.out.bel.size))⟩
      ·
        go_wp2_with (at_builtin; (first
          | (refine wpList_catR (B := w2.heap.size) (G := []) (M := M1) rfl _ _ rfl rfl rfl rfl HM1.out (⟨rfl, .inl ⟨rfl, rfl⟩⟩ : w2.ownsRow w2.heap.size 41 19 (.slice none ([] : List Rt).length 0) ([] : List Rt).length (flatR [])) HP1.out (Nat.le_refl _) (by omega) ?_; intro A1 c1 w3 g1 b1; have H3 := Lib.hid (And.intro g1 b1); clear g1 b1)
          | (refine wpList_catR (B := w2.heap.size) (b := b) (off := (k + 1) * 19) (G := M1) (M := M2) rfl _ _ rfl rfl rfl (by have := HM1.out; omega) HM2.out H3.out.1 (HP2.out _ H3.out.2) (H3.out.2.size) (by omega) ?_; intro A2 c2 w4 g2 b2; have H4 := Lib.hid (And.intro g2 b2); clear g2 b2)))
        go_ret2
        exact ⟨A2, c2, by rw [HEV.out.1, HEV.out.2, List.length_append, HM1.out, HM2.out]; simp, by rw [HEV.out.2]; exact rdQ_of (rdR_own H4.out.1), by rw [HEV.out.2]; exact own_caps H4.out.1, by rw [HB.out]; exact HW2.out.bel.trans ((H3.out.2.trans H4.out.2).mono (HB.out ▸ HW2.out.bel.size))⟩
    · have hE : PE = 4 := by rw [HPE.out, if_neg (by decide), if_pos (HGR.out.2 (by omega))]
      have hV : RES = [] := by rw [HPV.out, if_neg (by rw [hE]; decide)]
      have HEV := Lib.hid (And.intro hE hV)
      clear hE hV h1 HGR
      go_wp2_with fail
      go_ret2
      exact ⟨none, 0, by rw [HEV.out.1, HEV.out.2]; rfl, by rw [HEV.out.2]; exact ⟨fun k x h => by simp at h⟩, by rw [HEV.out.2]; exact ⟨Nat.le_refl _, Nat.zero_le _⟩, by rw [HB.out]; exact HW2.out.bel⟩
end Tri
end Go.Proofs.Ytcpfchfhcfdcpaa
