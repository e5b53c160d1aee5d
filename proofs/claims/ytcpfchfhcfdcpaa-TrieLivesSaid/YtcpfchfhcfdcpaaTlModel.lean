/- aditlaw14.Model. -/
import Derived.Test.YtcpfchfhcfdcpaaTlDrop
namespace Go.Proofs.Ytcpfchfhcfdcpaa
namespace Tri
open Go.ChangeShapes Go.WideShapes Go.ChangeAt Go.RowKit
open Num Mem Words Chacha Aead Poly Quiet Ops Adr RowS

/-- a row of routes with its room -/
structure RowQ (w : World) (A : Option Addr) (c : Nat) (L : List Rt) : Prop where
  rd : RdQ w A L
  c0 : L.length ≤ c
  c1 : c ≤ 9223372036854775807
theorem RowQ.below {w w' : World} {A : Option Addr} {c : Nat} {L : List Rt} {B : Nat} (h : RowQ w A c L) (hb : Below B w w') (hB : w.heap.size ≤ B) : RowQ w' A c L := ⟨h.rd.below hb hB, h.c0, h.c1⟩
theorem len_thousand {t : Tm} (h : t.Fit) : t.L.length ≤ 1000 := Nat.le_trans h.len (by decide)
theorem fit_fits {t : Tm} (h : t.Fit) : Fits t.L := fun x hx => (h.own x hx).1
theorem put_model {w : World} {t : Tm} {A : Option Addr} {c : Nat} (h : RowQ w A c t.L) (hf : t.Fit) {x : Opm} (hx : x.Ok) :
    Calls Try.prog 25 #[.slice A t.L.length c, .agg (prefL x.s x.g x.z).toArray, .int .i64 x.o] w fun e w' => ∃ A' m c', e = .returned (.tuple #[.slice A' m c', .int .i64 (putE x.s x.g x.z x.o t.a t.b : Nat)]) ∧ (putE x.s x.g x.z x.o t.a t.b = 0 → m = (Tm.mk (insA x.s (bs x.g x.z.toNat) x.o t.a) (insB x.s (bs x.g x.z.toNat) x.o t.b)).L.length ∧ RowQ w' A' c' (Tm.mk (insA x.s (bs x.g x.z.toNat) x.o t.a) (insB x.s (bs x.g x.z.toNat) x.o t.b)).L) ∧ Below w.heap.size w w' :=
  (rPut_any c h.rd (len_thousand hf) (fit_fits hf) (fun j k y u s g z => once hf j k y u s g z) x.s x.g hx.g x.z x.o).mono fun e w' ⟨A', c', h1, h2, h3, h4⟩ => ⟨A', _, c', by rw [putE_same hf hx.g] at h1; exact h1, fun e0 => by
    rw [put_L hf hx.g hx.o e0] at h2 h3 ⊢
    exact ⟨rfl, h2, h3.1, h3.2⟩, h4⟩
theorem drop_model {w : World} {t : Tm} {A : Option Addr} {c : Nat} (h : RowQ w A c t.L) (hf : t.Fit) {x : Opm} (hx : x.Ok) :
    Calls Try.prog 26 #[.slice A t.L.length c, .agg (prefL x.s x.g x.z).toArray] w fun e w' => ∃ A' m c', e = .returned (.tuple #[.slice A' m c', .int .i64 (dropE x.s x.g x.z t.a t.b : Nat)]) ∧ (dropE x.s x.g x.z t.a t.b = 0 → m = (Tm.mk (delA x.s (bs x.g x.z.toNat) t.a) (delB x.s (bs x.g x.z.toNat) t.b)).L.length ∧ RowQ w' A' c' (Tm.mk (delA x.s (bs x.g x.z.toNat) t.a) (delB x.s (bs x.g x.z.toNat) t.b)).L) ∧ Below w.heap.size w w' :=
  (rDrop_any c h.rd (len_thousand hf) h.c0 h.c1 (fun j k y u s g z => once hf j k y u s g z) x.s x.g hx.g x.z).mono fun e w' ⟨A', c', h1, h2, h3, h4⟩ => ⟨A', _, c', by rw [dropE_same hf hx.g] at h1; exact h1, fun e0 => by
    rw [drop_L' hf hx.g e0] at h2 h3 ⊢
    exact ⟨rfl, h2, h3.1, h3.2⟩, h4⟩
theorem all_model {w : World} {t : Tm} {A : Option Addr} {c : Nat} (h : RowQ w A c t.L) (hf : t.Fit) (o : Int) :
    Calls Try.prog 24 #[.slice A t.L.length c, .int .i64 o] w fun e w' => ∃ A' m c', e = .returned (.slice A' m c') ∧ (m = (Tm.mk (dels o false t.L t.a) (dels o true t.L t.b)).L.length ∧ RowQ w' A' c' (Tm.mk (dels o false t.L t.a) (dels o true t.L t.b)).L) ∧ Below w.heap.size w w' :=
  (rDropAll_any c h.rd (len_thousand hf) o).mono fun e w' ⟨A', c', h1, h2, h3, h4⟩ => ⟨A', _, c', h1, by
    have e := TrieOwners.drop_L hf o
    unfold TrieOwners.dropT at e
    rw [e]
    exact ⟨rfl, h2, h3.1, h3.2⟩, h4⟩
set_option maxRecDepth 100000 in
set_option maxHeartbeats 8000000 in
theorem model_any {w : World} {t : Tm} {A : Option Addr} {c : Nat} (h : RowQ w A c t.L) (hf : t.Fit) {x : Opm} (hx : x.Ok) : Calls Try.prog 9 #[.slice A t.L.length c, .agg x.cells.toArray] w fun e w' => ∃ A' c', e = .returned (.tuple #[.slice A' (doT t x).L.length c', .int .i64 (doE t x : Nat)]) ∧ RowQ w' A' c' (doT t x).L ∧ Below w.heap.size w w' := by
  have HQ := Lib.hid h
  have HPUT := Lib.hid (fun X (hX : Below w.heap.size w X) => put_model (h.below hX (Nat.le_refl _)) hf hx)
  have HDROP := Lib.hid (fun X (hX : Below w.heap.size w X) => drop_model (h.below hX (Nat.le_refl _)) hf hx)
  have HALL := Lib.hid (fun X (hX : Below w.heap.size w X) => all_model (h.below hX (Nat.le_refl _)) hf x.o)
  have HPL := Lib.hid (prefL_length x.s x.g x.z)
  have HCL := Lib.hid (show ∀ X, Whole X w.heap.size 31 x.cells.toArray → X.rangeAt w.heap.size 1 (prefL x.s x.g x.z) ∧ X.cell? ⟨w.heap.size, 0, none⟩ = some (.int .i64 x.k) ∧ X.cell? ⟨w.heap.size, 19, none⟩ = some (.int .i64 x.o) from fun X h => ⟨fun j v hj => by rw [h.cell, List.getElem?_toArray]; exact x.pref hj, by rw [h.cell]; rfl, by rw [h.cell, List.getElem?_toArray]; exact x.owner⟩)
  have HLN := Lib.hid x.len
  obtain ⟨PG, hPG⟩ : ∃ PG, prefL x.s x.g x.z = PG := ⟨_, rfl⟩
  obtain ⟨C, hC⟩ : ∃ C, x.cells = C := ⟨_, rfl⟩
  rw [hPG] at HPUT HDROP HPL HCL
  rw [hC] at HCL HLN ⊢
  clear hPG hC hx hf h
  obtain ⟨E, hE⟩ : ∃ E, doE t x = E := ⟨_, rfl⟩
  obtain ⟨T, hT⟩ : ∃ T, doT t x = T := ⟨_, rfl⟩
  have HE := Lib.hid (show E = doE t x ∧ T = doT t x from ⟨hE.symm, hT.symm⟩)
  unfold doE doT at HE
  rw [hE, hT]
  clear hE hT
  obtain ⟨n, hn⟩ : ∃ n, t.L.length = n := ⟨_, rfl⟩
  have HN := Lib.hid hn
  rw [hn] at HPUT HDROP HALL ⊢
  clear hn
  go_enter Try.func9, Try.ntmps9
  go_upto_region 3 with fail
  refine cut_world (fun X => DoW w C X) ⟨Whole.new _ _ _, below_alloc (Below.refl _ _) _⟩ ?_
  rintro X hX
  have HX := Lib.hid hX
  clear hX
  have c0 := (HCL.out X HX.out.op).2.1
  have c19 := (HCL.out X HX.out.op).2.2
  by_cases hk0 : x.k = 0
  · rw [hk0] at c0
    rw [if_pos hk0, if_pos hk0] at HE
    have hEE := HE.out.1
    have HT := Lib.hid HE.out.2
    rw [← hEE] at HPUT HT
    clear hk0 hEE HE
    rcases Nat.eq_zero_or_pos E with h0 | h0
    · subst h0
      rw [if_pos rfl] at HT
      go_wp2_with (first
        | (refine wpList_load_mid rfl 29 (.tmp 16) rfl w.heap.size 1 rfl PG _ (HCL.out _ HX.out.op).1 rfl rfl (by rw [HPL.out]; kernel_rfl) ?_)
        | (go_at_call 25; refine (HPUT.out _ HX.out.bel).mono ?_; rintro e X2 ⟨A2, m2, c2, rfl, hq, hb⟩; have HX2 := Lib.hid (And.intro hb hq); clear hb hq))
      go_ret2
      obtain ⟨hm, hr⟩ := HX2.out.2 (by trivial)
      exact ⟨A2, c2, by rw [hm, HT.out]; rfl, by rw [HT.out]; exact hr, HX.out.bel.trans (HX2.out.1.mono HX.out.bel.size)⟩
    · rw [if_neg (by omega)] at HT
      have hne : (((E : Nat) : Int) != 0) = true := by simp; omega
      go_wp2_with (first
        | (refine wpList_load_mid rfl 29 (.tmp 16) rfl w.heap.size 1 rfl PG _ (HCL.out _ HX.out.op).1 rfl rfl (by rw [HPL.out]; kernel_rfl) ?_)
        | (go_at_call 25; refine (HPUT.out _ HX.out.bel).mono ?_; rintro e X2 ⟨A2, m2, c2, rfl, hq, hb⟩; have HX2 := Lib.hid (And.intro hb hq); clear hb hq))
      go_ret2
      have hb := HX.out.bel.trans (HX2.out.1.mono HX.out.bel.size)
      exact ⟨A, c, by rw [HT.out, HN.out]; rfl, by rw [HT.out]; exact HQ.out.below hb (Nat.le_refl _), hb⟩
  · rw [if_neg hk0, if_neg hk0] at HE
    by_cases hk1 : x.k = 1
    · rw [hk1] at c0
      rw [if_pos hk1, if_pos hk1] at HE
      have hEE := HE.out.1
      have HT := Lib.hid HE.out.2
      rw [← hEE] at HDROP HT
      clear hk0 hk1 hEE HE
      rcases Nat.eq_zero_or_pos E with h0 | h0
      · subst h0
        rw [if_pos rfl] at HT
        go_wp2_with (first
          | (refine wpList_load_mid rfl 29 (.tmp 27) rfl w.heap.size 1 rfl PG _ (HCL.out _ HX.out.op).1 rfl rfl (by rw [HPL.out]; kernel_rfl) ?_)
          | (go_at_call 26; refine (HDROP.out _ HX.out.bel).mono ?_; rintro e X2 ⟨A2, m2, c2, rfl, hq, hb⟩; have HX2 := Lib.hid (And.intro hb hq); clear hb hq))
        go_ret2
        obtain ⟨hm, hr⟩ := HX2.out.2 (by trivial)
        exact ⟨A2, c2, by rw [hm, HT.out]; rfl, by rw [HT.out]; exact hr, HX.out.bel.trans (HX2.out.1.mono HX.out.bel.size)⟩
      · rw [if_neg (by omega)] at HT
        have hne : (((E : Nat) : Int) != 0) = true := by simp; omega
        go_wp2_with (first
          | (refine wpList_load_mid rfl 29 (.tmp 27) rfl w.heap.size 1 rfl PG _ (HCL.out _ HX.out.op).1 rfl rfl (by rw [HPL.out]; kernel_rfl) ?_)
          | (go_at_call 26; refine (HDROP.out _ HX.out.bel).mono ?_; rintro e X2 ⟨A2, m2, c2, rfl, hq, hb⟩; have HX2 := Lib.hid (And.intro hb hq); clear hb hq))
        go_ret2
        have hb := HX.out.bel.trans (HX2.out.1.mono HX.out.bel.size)
        exact ⟨A, c, by rw [HT.out, HN.out]; rfl, by rw [HT.out]; exact HQ.out.below hb (Nat.le_refl _), hb⟩
    · rw [if_neg hk1, if_neg hk1] at HE
      have hEE := HE.out.1
      subst hEE
      have n0 : (x.k == 0) = false := by simp [hk0]
      have n1 : (x.k == 1) = false := by simp [hk1]
      by_cases hk2 : x.k = 2
      · rw [hk2] at c0 n0 n1
        rw [if_pos hk2] at HE
        have HT := Lib.hid HE.out.2
        clear hk0 hk1 hk2 HE n0 n1
        go_wp2_with (go_at_call 24; refine (HALL.out _ HX.out.bel).mono ?_; rintro e X2 ⟨A2, m2, c2, rfl, hq, hb⟩; have HX2 := Lib.hid (And.intro hb hq); clear hb hq)
        go_ret2
        obtain ⟨hm, hr⟩ := HX2.out.2
        exact ⟨A2, c2, by rw [hm, HT.out]; rfl, by rw [HT.out]; exact hr, HX.out.bel.trans (HX2.out.1.mono HX.out.bel.size)⟩
      · rw [if_neg hk2] at HE
        have HT := Lib.hid HE.out.2
        have n2 : (x.k == 2) = false := by simp [hk2]
        clear hk0 hk1 hk2 HE
        generalize x.k = kk at *
        go_wp2_with fail
        go_ret2
        exact ⟨A, c, by rw [HT.out, HN.out]; rfl, by rw [HT.out]; exact HQ.out.below HX.out.bel (Nat.le_refl _), HX.out.bel⟩
end Tri
end Go.Proofs.Ytcpfchfhcfdcpaa
