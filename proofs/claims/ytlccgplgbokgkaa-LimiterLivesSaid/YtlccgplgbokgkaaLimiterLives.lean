/- The walk of LimiterLives. -/
import Derived.Test.YtlccgplgbokgkaaLimRTell
import Derived.Test.YtlccgplgbokgkaaLimAp
import Derived.Test.YtlccgplgbokgkaaArrAsk
namespace Go.Proofs.Ytlccgplgbokgkaa
namespace LimiterLives
open Go.ChangeShapes Go.WideShapes Go.ChangeAt Go.RowKit Go.Maps
open Num Mem Words Chacha Aead Poly Adr Ops Quiet Stamp RowV Lim

theorem cut_post {F : Exit → Act → World → Prop} {e : Exit} {a : Act} {w : World} (R : World → Prop) (hR : R w) (h : ∀ w', R w' → F e a w') : F e a w := h w hR
/-- what a region reads of the ask -/
structure RdA (bb off : Nat) (A : List Value) (t : Int) (X : World) : Prop where
  r : X.rangeAt bb off A
  c : X.cell? ⟨bb, off + 17, none⟩ = some (.int .i64 t)
theorem RdA.two {bb off : Nat} {A : List Value} {t : Int} {X Y : World} {g b : Nat} (h : RdA bb off A t X) (ht : Two g b X Y) (h1 : bb ≠ g ∧ bb ≠ b ∧ bb < X.heap.size) : RdA bb off A t Y := by
  have e : ∀ o, Y.cell? ⟨bb, o, none⟩ = X.cell? ⟨bb, o, none⟩ := fun o => by unfold World.cell?; rw [ht.block bb h1.2.2 h1.1 h1.2.1]
  exact ⟨fun j v hj => by rw [e]; exact h.r j v hj, by rw [e]; exact h.c⟩
theorem two_drewl {g b : Nat} {w w' : World} (h : Two g b w.drew w') : Two g b w w' := ⟨h.os, h.tape, h.output, h.size, h.block⟩
theorem RW.two {w w' : World} {Y B : Nat} {E : List Ent} {last : Int} {g b : Nat} (h : RW w Y B E last) (ht : Two g b w w') (hg : g < B) (hb : b < B) (h1 : Y ≠ g) (h2 : Y ≠ b) : RW w' Y B E last := by
  obtain ⟨A, c, hy, hr, hB⟩ := h
  exact ⟨A, c, ht.whole hy h1 h2, own_two' hr ht hg hb, hB⟩

/-- between the rounds -/
structure LvW (w : World) (B0 : Nat) (P : Array Value) (g b Y B : Nat) (wr : World) : Prop where
  bel : Below w.heap.size w wr
  p : Whole wr B0 25 P
  sz : B ≤ wr.heap.size
  st : ∃ E last D, okE E ∧ LW wr g b (bksE Try.prog 57 E) last D ∧ RW wr Y B E last

set_option maxRecDepth 100000 in
set_option maxHeartbeats 4000000 in
theorem walk (a : Option Addr) (n cp : Nat) (Q : Nat → Bool × (Nat → Nat) × Int) (s : Bool) (f : Nat → Nat) (t : Int) (w : World) (h0 : Arr.IsAsks w a n cp Q) (hf : ∀ i, f i < 256) (_ : (Lit.int .i64 t).wf = true) :
    Calls Try.prog 3 #[.slice a n cp, .agg (addrL s f).toArray, .int .i64 t] w fun e w' => e = .returned (.bool true) ∧ Below w.heap.size w w' := by
  have H0 := Lib.hid h0
  have hn63 : n ≤ 9223372036854775807 := Nat.le_trans h0.1 (by have := h0.2.1; simpa [maxLen] using this)
  have HF := Lib.hid hf
  have HCX := Lib.hid (fun g b L last D w (h : LW w g b L last D) => tell_any g b L last D s f hf t w h)
  have HCY := Lib.hid (fun Y B E last hE hG w (h : RW w Y B E last) => rtell_any Y B E last hE hG s f hf t w h)
  obtain ⟨pk, hpk⟩ : ∃ pk, placeO Try.prog 57 s f = pk := ⟨_, rfl⟩
  rw [hpk] at HCX HCY
  obtain ⟨P, hP⟩ : ∃ P : Array Value, (addrL s f).toArray = P := ⟨_, rfl⟩
  have HPS := Lib.hid (show P.size = 17 by rw [← hP, addr_size])
  rw [hP] at HCX HCY ⊢
  clear hP hf h0 hpk
  go_enter Try.func3, Try.ntmps3
  go_upto_region 1 with fail
  refine cut_world (fun X => Whole X w.heap.size 25 P ∧ Below w.heap.size w X) ⟨Whole.new _ _ _, below_alloc (Below.refl _ _) _⟩ ?_
  rintro W ⟨p1, p2⟩
  have P1 := Lib.hid p1
  have P2 := Lib.hid p2
  have HNW := Lib.hid (new_any W)
  clear p1 p2
  go_wp2_with fail
  refine HNW.out.mono ?_
  rintro e w1 ⟨g, b, hg, hb, rfl, hb1, D0, hl0⟩
  have HL0 := Lib.hid hl0
  have HP1 := Lib.hid (Whole.below P1.out hb1 P1.out.lt)
  have HB1 := Lib.hid (below_trans P2.out hb1)
  have hWg : w.heap.size < W.heap.size := P1.out.lt
  clear hl0 hb1 HNW P1 P2
  go_upto_region 3 with fail
  have hYB : w1.heap.size < w1.heap.size + 1 := Nat.lt_succ_self _
  obtain ⟨Y, hY⟩ : ∃ Y, w1.heap.size = Y := ⟨_, rfl⟩
  rw [hY]
  have hgY : g < Y ∧ b < Y ∧ b ≠ g := by have := HL0.out.lt; omega
  have hwY : w.heap.size < Y ∧ w.heap.size < g ∧ w.heap.size < b := by omega
  have hI : LvW w w.heap.size P g b Y (Y + 1) (w1.alloc (.cells #[.slice none 0 0, .int .i64 0] 31)) := by
    have hb2 := below_alloc (Below.refl w1.heap.size w1) (.cells #[.slice none 0 0, .int .i64 0] 31)
    refine ⟨below_trans HB1.out hb2, Whole.below HP1.out hb2 HP1.out.lt, by rw [← hY]; simp, [], 0, D0, fun e he => by simp at he, HL0.out.below hb2, none, 0, whole_new _ _ hY, World.ownsRow_nil _ _ _ _, by omega⟩
  have HI := Lib.hid hI
  obtain ⟨X0, hX0⟩ : ∃ X0, w1.alloc (.cells #[.slice none 0 0, .int .i64 0] 31) = X0 := ⟨_, rfl⟩
  rw [hX0] at HI ⊢
  clear hI hX0 HL0 HP1 HB1 hYB hY hg hb hWg
  go_wp2_with fail
  go_loopw [9, 10, 11, 12, 13, 14, 15, 16, 17] (fun i _ _ _ _ _ _ _ _ X => ∃ k : Nat, k ≤ n ∧ k ≤ 200 ∧ i = .int .i64 k ∧ LvW w w.heap.size P g b Y (Y + 1) X) (fun i _ _ _ _ _ _ _ _ _ => 200 - (intOf i).toNat)
  case atStart => exact ⟨0, Nat.zero_le _, by omega, rfl, HI.out⟩
  case round =>
    obtain ⟨k, hk, hk200, rfl, hI⟩ := hrel
    have HW := Lib.hid hI
    clear hI HI
    by_cases hgo : k < n ∧ k < 200
    · obtain ⟨hlt, hlt2⟩ := hgo
      have hlt2' : (k : Int) < 200 := by omega
      have hk2 : IntKind.i64.wrap ((k : Int) + 1) = (k : Int) + 1 := by rw [IntKind.wrap_i64]; omega
      obtain ⟨bb, off, rfl, hbb, hcells⟩ : ∃ b off, a = some ⟨b, off, none⟩ ∧ b < w.heap.size ∧ ∀ i, i < n → ∀ j v, (prefL (Q i).1 (Q i).2.1 (Q i).2.2)[j]? = some v → w.cell? ⟨b, off + (i * 18 + j), none⟩ = some v := by
        rcases H0.out.2.2.2 with h | h
        · omega
        · exact h
      have hq := H0.out.2.2.1 k
      have HRD := Lib.hid (show RdA bb (off + k * 18) (addrL (Q k).1 (Q k).2.1) (Q k).2.2 wr from by
        have hc : ∀ j v, (prefL (Q k).1 (Q k).2.1 (Q k).2.2)[j]? = some v → wr.cell? ⟨bb, off + k * 18 + j, none⟩ = some v := fun j v hv => by
          have h := hcells k hlt j v hv
          rw [← Nat.add_assoc] at h
          exact (HW.out.bel.cell (p := ⟨bb, off + k * 18 + j, none⟩) hbb).trans h
        refine ⟨fun j v hj => hc j v ?_, hc 17 _ (pref_bits _ _ _)⟩
        unfold prefL
        rw [List.getElem?_append_left (List.getElem?_eq_some_iff.1 hj).1]
        exact hj)
      obtain ⟨E, last, D, hE, hl, hr⟩ := HW.out.st
      have CX := Lib.hid (fun X (h : LW X g b (bksE Try.prog 57 E) last D) => allow_any g b _ last D (Q k).1 (Q k).2.1 hq.1 (Q k).2.2 X h)
      have CY := Lib.hid (fun X (h : RW X Y (Y + 1) E last) (hB : Y + 1 ≤ X.heap.size) => rallow_any Y (Y + 1) E last hE hl.good (Q k).1 (Q k).2.1 hq.1 (Q k).2.2 X h hB)
      have HAL := Lib.hid (addrL_length (Q k).1 (Q k).2.1)
      obtain ⟨A, hA⟩ : ∃ A, addrL (Q k).1 (Q k).2.1 = A := ⟨_, rfl⟩
      obtain ⟨u, hu⟩ : ∃ u, (Q k).2.2 = u := ⟨_, rfl⟩
      obtain ⟨pl, hpl⟩ : ∃ pl, placeO Try.prog 57 (Q k).1 (Q k).2.1 = pl := ⟨_, rfl⟩
      rw [hA, hu] at HRD CX CY
      rw [hA] at HAL
      rw [hpl] at CX CY
      have HGE := Lib.hid (show ∀ p, (∀ k', p = some k' → WideAt.IsKeyLit k') → True from fun _ _ => trivial)
      have HL := Lib.hid hl
      have HR := Lib.hid hr
      have hne : bb ≠ g ∧ bb ≠ b ∧ bb ≠ Y := by omega
      clear hcells hq hE hl hr hA hu hpl HGE
      obtain ⟨R, hR⟩ : ∃ R, Lim.ask (bksE Try.prog 57 E) last pl u = R := ⟨_, rfl⟩
      go_upto_region 6 with fail
      refine region_drew (RdA bb (off + k * 18) A u) (by kernel_rfl) ⟨HRD.out.r, HRD.out.c⟩ (fun hS => ?_)
      refine take 0 _ rfl (by kernel_rfl) (by kernel_rfl) (by kernel_rfl) (fun _ _ _ h => h) (by rfl) hS (by intro w _; go_simp; try with_reducible rfl) ?_
      try simp only [Act.put, List.setIfInBounds_toArray, List.set_cons_zero, List.set_cons_succ]
      refine take 1 _ rfl (by kernel_rfl) (by kernel_rfl) (by kernel_rfl) (fun _ _ _ h => h) (by rfl) hS (by intro w _; go_simp; try with_reducible rfl) ?_
      try simp only [Act.put, List.setIfInBounds_toArray, List.set_cons_zero, List.set_cons_succ]
      refine take 2 _ rfl (by kernel_rfl) (by kernel_rfl) (by kernel_rfl) (fun _ _ _ h => h) (by rfl) hS (by intro w _; go_simp; try with_reducible rfl) ?_
      try simp only [Act.put, List.setIfInBounds_toArray, List.set_cons_zero, List.set_cons_succ]
      refine take 3 _ rfl (by kernel_rfl) (by kernel_rfl) (by kernel_rfl) (fun _ _ _ h => h) (by rfl) hS (by intro w _; go_simp; try with_reducible rfl) ?_
      try simp only [Act.put, List.setIfInBounds_toArray, List.set_cons_zero, List.set_cons_succ]
      refine take 4 _ rfl (by kernel_rfl) (by kernel_rfl) (by kernel_rfl) (fun _ _ _ h => h) (by rfl) hS (by intro w _; go_simp; try with_reducible rfl) ?_
      try simp only [Act.put, List.setIfInBounds_toArray, List.set_cons_zero, List.set_cons_succ]
      refine take 5 (.agg A.toArray) rfl (by kernel_rfl) (by kernel_rfl) (by kernel_rfl) (fun _ _ _ h => h) (by rfl) hS (fun w hw => run_mid_in 25 (.tmp 36) rfl bb (off + k * 18) rfl A _ hw.r rfl rfl (by rw [HAL.out]; kernel_rfl)) ?_
      try simp only [Act.put, List.setIfInBounds_toArray, List.set_cons_zero, List.set_cons_succ]
      refine take 6 _ rfl (by kernel_rfl) (by kernel_rfl) (by kernel_rfl) (fun _ _ _ h => h) (by rfl) hS (by intro w _; go_simp; try with_reducible rfl) ?_
      try simp only [Act.put, List.setIfInBounds_toArray, List.set_cons_zero, List.set_cons_succ]
      refine take 7 _ rfl (by kernel_rfl) (by kernel_rfl) (by kernel_rfl) (fun _ _ _ h => h) (by rfl) hS (by intro w _; go_simp; try with_reducible rfl) ?_
      try simp only [Act.put, List.setIfInBounds_toArray, List.set_cons_zero, List.set_cons_succ]
      refine take 8 _ rfl (by kernel_rfl) (by kernel_rfl) (by kernel_rfl) (fun _ _ _ h => h) (by rfl) hS (by intro w _; go_simp; try with_reducible rfl) ?_
      try simp only [Act.put, List.setIfInBounds_toArray, List.set_cons_zero, List.set_cons_succ]
      refine take 9 _ rfl (by kernel_rfl) (by kernel_rfl) (by kernel_rfl) (fun _ _ _ h => h) (by rfl) hS (by intro w _; go_simp; try with_reducible rfl) ?_
      try simp only [Act.put, List.setIfInBounds_toArray, List.set_cons_zero, List.set_cons_succ]
      refine take 10 (.int .i64 u) rfl (by kernel_rfl) (by kernel_rfl) (by kernel_rfl) (fun _ _ _ h => h) (by rfl) hS (by intro w hw; have hcl := hw.c; go_simp; try with_reducible rfl) ?_
      try simp only [Act.put, List.setIfInBounds_toArray, List.set_cons_zero, List.set_cons_succ]
      refine alone 11 rfl (by kernel_rfl) (by rfl) ?_
      intro K hK
      go_simp
      refine (CX.out wr.drew (HL.out.below (Below.drew (Below.refl _ _)))).mono ?_
      rintro e X1 ⟨rfl, ⟨D1, hl1⟩, htw⟩
      rw [hR] at hl1 ⊢
      have hS1 := RdA.two hS htw ⟨hne.1, hne.2.1, by show bb < wr.heap.size; have := HW.out.bel.size; omega⟩
      dsimp only
      refine hK.out _ _ hS1 ?_
      clear hK K hS
      try simp only [Act.put, List.setIfInBounds_toArray, List.set_cons_zero, List.set_cons_succ]
      refine take 12 _ rfl (by kernel_rfl) (by kernel_rfl) (by kernel_rfl) (fun _ _ _ h => h) (by rfl) hS1 (by intro w _; go_simp; try with_reducible rfl) ?_
      try simp only [Act.put, List.setIfInBounds_toArray, List.set_cons_zero, List.set_cons_succ]
      refine take 13 _ rfl (by kernel_rfl) (by kernel_rfl) (by kernel_rfl) (fun _ _ _ h => h) (by rfl) hS1 (by intro w _; go_simp; try with_reducible rfl) ?_
      try simp only [Act.put, List.setIfInBounds_toArray, List.set_cons_zero, List.set_cons_succ]
      refine take 14 _ rfl (by kernel_rfl) (by kernel_rfl) (by kernel_rfl) (fun _ _ _ h => h) (by rfl) hS1 (by intro w _; go_simp; try with_reducible rfl) ?_
      try simp only [Act.put, List.setIfInBounds_toArray, List.set_cons_zero, List.set_cons_succ]
      refine alone 15 rfl (by kernel_rfl) (by rfl) ?_
      intro K hK
      go_simp
      refine hK.out _ _ hS1 ?_
      clear hK K
      try simp only [Act.put, List.setIfInBounds_toArray, List.set_cons_zero, List.set_cons_succ]
      refine alone 16 rfl (by kernel_rfl) (by rfl) ?_
      intro K hK
      go_simp
      refine hK.out _ _ hS1 ?_
      clear hK K
      try simp only [Act.put, List.setIfInBounds_toArray, List.set_cons_zero, List.set_cons_succ]
      refine region_end (by kernel_rfl) ?_
      refine cut_post (F := Exit.then _ _) (fun V => RdA bb (off + k * 18) A u V ∧ LW V g b R.2.2.1 R.2.2.2 D1 ∧ Two g b wr V) ⟨hS1, hl1, two_drewl htw⟩ ?_
      rintro V ⟨v1, v2, v3⟩
      clear HRD hS1 hl1 htw X1
      have HRD := Lib.hid v1
      have HL1 := Lib.hid v2
      have HT1 := Lib.hid v3
      clear v1 v2 v3
      have HRV := Lib.hid (show RW V Y (Y + 1) E last from RW.two HR.out HT1.out (by omega) (by omega) (by omega) (by omega))
      have hVs : Y + 1 ≤ V.heap.size := Nat.le_trans HW.out.sz HT1.out.size
      go_upto_region 7 with fail
      refine region_drew (RdA bb (off + k * 18) A u) (by kernel_rfl) ⟨HRD.out.r, HRD.out.c⟩ (fun hS => ?_)
      refine take 0 _ rfl (by kernel_rfl) (by kernel_rfl) (by kernel_rfl) (fun _ _ _ h => h) (by rfl) hS (by intro w _; go_simp; try with_reducible rfl) ?_
      try simp only [Act.put, List.setIfInBounds_toArray, List.set_cons_zero, List.set_cons_succ]
      refine take 1 _ rfl (by kernel_rfl) (by kernel_rfl) (by kernel_rfl) (fun _ _ _ h => h) (by rfl) hS (by intro w _; go_simp; try with_reducible rfl) ?_
      try simp only [Act.put, List.setIfInBounds_toArray, List.set_cons_zero, List.set_cons_succ]
      refine take 2 _ rfl (by kernel_rfl) (by kernel_rfl) (by kernel_rfl) (fun _ _ _ h => h) (by rfl) hS (by intro w _; go_simp; try with_reducible rfl) ?_
      try simp only [Act.put, List.setIfInBounds_toArray, List.set_cons_zero, List.set_cons_succ]
      refine take 3 _ rfl (by kernel_rfl) (by kernel_rfl) (by kernel_rfl) (fun _ _ _ h => h) (by rfl) hS (by intro w _; go_simp; try with_reducible rfl) ?_
      try simp only [Act.put, List.setIfInBounds_toArray, List.set_cons_zero, List.set_cons_succ]
      refine take 4 _ rfl (by kernel_rfl) (by kernel_rfl) (by kernel_rfl) (fun _ _ _ h => h) (by rfl) hS (by intro w _; go_simp; try with_reducible rfl) ?_
      try simp only [Act.put, List.setIfInBounds_toArray, List.set_cons_zero, List.set_cons_succ]
      refine take 5 (.agg A.toArray) rfl (by kernel_rfl) (by kernel_rfl) (by kernel_rfl) (fun _ _ _ h => h) (by rfl) hS (fun w hw => run_mid_in 25 (.tmp 51) rfl bb (off + k * 18) rfl A _ hw.r rfl rfl (by rw [HAL.out]; kernel_rfl)) ?_
      try simp only [Act.put, List.setIfInBounds_toArray, List.set_cons_zero, List.set_cons_succ]
      refine take 6 _ rfl (by kernel_rfl) (by kernel_rfl) (by kernel_rfl) (fun _ _ _ h => h) (by rfl) hS (by intro w _; go_simp; try with_reducible rfl) ?_
      try simp only [Act.put, List.setIfInBounds_toArray, List.set_cons_zero, List.set_cons_succ]
      refine take 7 _ rfl (by kernel_rfl) (by kernel_rfl) (by kernel_rfl) (fun _ _ _ h => h) (by rfl) hS (by intro w _; go_simp; try with_reducible rfl) ?_
      try simp only [Act.put, List.setIfInBounds_toArray, List.set_cons_zero, List.set_cons_succ]
      refine take 8 _ rfl (by kernel_rfl) (by kernel_rfl) (by kernel_rfl) (fun _ _ _ h => h) (by rfl) hS (by intro w _; go_simp; try with_reducible rfl) ?_
      try simp only [Act.put, List.setIfInBounds_toArray, List.set_cons_zero, List.set_cons_succ]
      refine take 9 _ rfl (by kernel_rfl) (by kernel_rfl) (by kernel_rfl) (fun _ _ _ h => h) (by rfl) hS (by intro w _; go_simp; try with_reducible rfl) ?_
      try simp only [Act.put, List.setIfInBounds_toArray, List.set_cons_zero, List.set_cons_succ]
      refine take 10 (.int .i64 u) rfl (by kernel_rfl) (by kernel_rfl) (by kernel_rfl) (fun _ _ _ h => h) (by rfl) hS (by intro w hw; have hcl := hw.c; go_simp; try with_reducible rfl) ?_
      try simp only [Act.put, List.setIfInBounds_toArray, List.set_cons_zero, List.set_cons_succ]
      refine alone 11 rfl (by kernel_rfl) (by rfl) ?_
      intro K hK
      go_simp
      refine (CY.out V.drew (HRV.out.keep (Below.drew (Below.refl _ _))) hVs).mono ?_
      rintro e X1 ⟨he, ⟨E1, hE1, hok1, hr1⟩, htw⟩
      rw [hR] at he hE1 hr1
      subst he
      have hS1 := RdA.two hS htw ⟨hne.2.2, hne.2.2, by show bb < V.heap.size; have h1 := HW.out.bel.size; have h2 := HT1.out.size; omega⟩
      dsimp only
      refine hK.out _ _ hS1 ?_
      clear hK K hS
      try simp only [Act.put, List.setIfInBounds_toArray, List.set_cons_zero, List.set_cons_succ]
      refine take 12 _ rfl (by kernel_rfl) (by kernel_rfl) (by kernel_rfl) (fun _ _ _ h => h) (by rfl) hS1 (by intro w _; go_simp; try with_reducible rfl) ?_
      try simp only [Act.put, List.setIfInBounds_toArray, List.set_cons_zero, List.set_cons_succ]
      refine take 13 _ rfl (by kernel_rfl) (by kernel_rfl) (by kernel_rfl) (fun _ _ _ h => h) (by rfl) hS1 (by intro w _; go_simp; try with_reducible rfl) ?_
      try simp only [Act.put, List.setIfInBounds_toArray, List.set_cons_zero, List.set_cons_succ]
      refine take 14 _ rfl (by kernel_rfl) (by kernel_rfl) (by kernel_rfl) (fun _ _ _ h => h) (by rfl) hS1 (by intro w _; go_simp; try with_reducible rfl) ?_
      try simp only [Act.put, List.setIfInBounds_toArray, List.set_cons_zero, List.set_cons_succ]
      refine alone 15 rfl (by kernel_rfl) (by rfl) ?_
      intro K hK
      go_simp
      refine hK.out _ _ hS1 ?_
      clear hK K
      try simp only [Act.put, List.setIfInBounds_toArray, List.set_cons_zero, List.set_cons_succ]
      refine alone 16 rfl (by kernel_rfl) (by rfl) ?_
      intro K hK
      go_simp
      refine hK.out _ _ hS1 ?_
      clear hK K
      try simp only [Act.put, List.setIfInBounds_toArray, List.set_cons_zero, List.set_cons_succ]
      refine region_end (by kernel_rfl) ?_
      refine cut_post (F := Exit.then _ _) (fun V' => LW V' g b (bksE Try.prog 57 E1) R.2.2.2 D1 ∧ RW V' Y (Y + 1) E1 R.2.2.2 ∧ Two Y Y V V') ⟨by rw [hE1]; exact HL1.out.two (two_drewl htw) (by omega) (by omega) (by omega) (by omega), hr1, two_drewl htw⟩ ?_
      rintro X ⟨v1, v2, v3⟩
      clear HRD hS1 htw HRV HL1
      have HL1 := Lib.hid v1
      have HR1 := Lib.hid v2
      have HT2 := Lib.hid v3
      have HO1 := Lib.hid hok1
      clear v1 v2 v3 hok1 hr1 X1 CX CY HR HL
      have HPX := Lib.hid (show Whole X w.heap.size 25 P from HT2.out.whole (HT1.out.whole HW.out.p (by omega) (by omega)) (by omega) (by omega))
      have HBX := Lib.hid (show Below w.heap.size w X from (HW.out.bel.trans (HT1.out.below HW.out.bel.size (by omega) (by omega))).trans (HT2.out.below (Nat.le_trans HW.out.bel.size HT1.out.size) (by omega) (by omega)))
      have hXs : Y + 1 ≤ X.heap.size := Nat.le_trans hVs HT2.out.size
      have hlenE : (bksE Try.prog 57 E1).length = E1.length := by simp [bksE]
      have HLEN := Lib.hid hlenE
      clear HT1 HT2 hVs HW hlenE hE1
      go_wp2_with (refine wpList_load_row rfl 25 (.tmp 4) rfl w.heap.size rfl 25 P (0, 0) _ HPX.out rfl rfl (by rw [HPS.out]; kernel_rfl) ?_)
      refine (HCX.out _ _ _ _ _ X HL1.out).mono ?_
      rintro e X2 ⟨rfl, hb2⟩
      have HL2 := Lib.hid (HL1.out.below hb2)
      have HR2 := Lib.hid (HR1.out.keep hb2)
      have HP2 := Lib.hid (Whole.below HPX.out hb2 HPX.out.lt)
      have HB2 := Lib.hid (below_trans HBX.out hb2)
      have hX2s : Y + 1 ≤ X2.heap.size := Nat.le_trans hXs hb2.size
      clear hb2 HL1 HR1 HPX HBX hXs
      go_wp2_with (refine wpList_load_row rfl 25 (.tmp 4) rfl w.heap.size rfl 25 P (0, 0) _ HP2.out rfl rfl (by rw [HPS.out]; kernel_rfl) ?_)
      refine (HCY.out _ _ _ _ HO1.out HL2.out.good X2 HR2.out).mono ?_
      rintro e X3 ⟨rfl, hb3⟩
      have HL3 := Lib.hid (HL2.out.below hb3)
      have HR3 := Lib.hid (HR2.out.keep hb3)
      have HP3 := Lib.hid (Whole.below HP2.out hb3 HP2.out.lt)
      have HB3 := Lib.hid (below_trans HB2.out hb3)
      have hX3s : Y + 1 ≤ X3.heap.size := Nat.le_trans hX2s hb3.size
      clear hb3 HL2 HR2 HP2 HB2 hX2s
      obtain ⟨T2, hT2⟩ : ∃ T2, tell (bksE Try.prog 57 E1) pk t = T2 := ⟨_, rfl⟩
      simp only [hT2]
      obtain ⟨r1, r2, r3, r4⟩ := R
      obtain ⟨t1, t2⟩ := T2
      dsimp only
      go_upto_region 10 with fail
      obtain ⟨A9, c9, hy9, _, _⟩ := HR3.out
      have HY9 := Lib.hid hy9
      clear hy9
      have HCN := Lib.hid (fun Z (h : LW Z g b (bksE Try.prog 57 E1) r4 D1) => count_any g b _ _ D1 Z h)
      rw [HLEN.out] at HCN
      obtain ⟨m, hm⟩ : ∃ m, E1.length = m := ⟨_, rfl⟩
      rw [hm] at HCN HY9
      clear hm
      refine q_start (by kernel_rfl) (by kernel_rfl) ?_
      refine q_take _ (by rfl) (fun x hx => by go_simp; try with_reducible rfl) ?_
      go_frame
      refine q_take _ (by rfl) (fun x hx => by go_simp; try with_reducible rfl) ?_
      go_frame
      refine q_take (.bool false) (by rfl) (fun x hx => by go_simp; try with_reducible rfl) ?_
      go_frame
      refine q_take (.bool false) (by rfl) (fun x hx => by go_simp; try with_reducible rfl) ?_
      go_frame
      refine q_take _ (by rfl) (fun x hx => by go_simp; try with_reducible rfl) ?_
      go_frame
      refine q_take _ (by rfl) (fun x hx => by go_simp; try with_reducible rfl) ?_
      go_frame
      refine q_take (.bool false) (by rfl) (fun x hx => by go_simp; try with_reducible rfl) ?_
      go_frame
      refine q_take (.bool false) (by rfl) (fun x hx => by go_simp; try with_reducible rfl) ?_
      go_frame
      refine q_take (.bool false) (by rfl) (fun x hx => by go_simp; try with_reducible rfl) ?_
      go_frame
      refine q_take _ (by rfl) (fun x hx => by go_simp; try with_reducible rfl) ?_
      go_frame
      refine q_take _ (by rfl) (fun x hx => by go_simp; try with_reducible rfl) ?_
      go_frame
      refine q_take (.bool false) (by rfl) (fun x hx => by go_simp; try with_reducible rfl) ?_
      go_frame
      refine q_take (.bool false) (by rfl) (fun x hx => by go_simp; try with_reducible rfl) ?_
      go_frame
      refine q_take (.bool false) (by rfl) (fun x hx => by go_simp; try with_reducible rfl) ?_
      go_frame
      refine q_take _ (by rfl) (fun x hx => by go_simp; try with_reducible rfl) ?_
      go_frame
      refine q_take _ (by rfl) (fun x hx => by go_simp; try with_reducible rfl) ?_
      go_frame
      refine q_take (.bool false) (by rfl) (fun x hx => by go_simp; try with_reducible rfl) ?_
      go_frame
      refine q_take (.bool false) (by rfl) (fun x hx => by go_simp; try with_reducible rfl) ?_
      go_frame
      refine q_take (.bool false) (by rfl) (fun x hx => by go_simp; try with_reducible rfl) ?_
      go_frame
      refine q_take _ (by rfl) (fun x hx => by go_simp; try with_reducible rfl) ?_
      go_frame
      refine q_call (.int .i64 (m : Nat)) 14 #[.pointer (some ⟨g, 0, none⟩)] (by rfl) (by intro w; go_simp; try with_reducible rfl) (fun x hx => (HCN.out x (HL3.out.below hx)).mono (fun e w' ⟨h1, h2⟩ => ⟨h1, h2 ▸ hx⟩)) ?_
      go_frame
      refine q_take _ (by rfl) (fun x hx => by go_simp; try with_reducible rfl) ?_
      go_frame
      refine q_take _ (by rfl) (fun x hx => by go_simp; try with_reducible rfl) ?_
      go_frame
      refine q_take _ (by rfl) (fun x hx => by go_simp; try with_reducible rfl) ?_
      go_frame
      refine q_take (.slice A9 m c9) (by rfl) (fun x hx => by have c := (Whole.below HY9.out hx HY9.out.lt).cell 0; go_simp; try with_reducible rfl) ?_
      go_frame
      refine q_take (.int .i64 (m : Nat)) (by rfl) (fun x hx => by go_simp; try with_reducible rfl) ?_
      go_frame
      refine q_take (.bool false) (by rfl) (fun x hx => by go_simp; try with_reducible rfl) ?_
      go_frame
      refine q_take (.bool false) (by rfl) (fun x hx => by go_simp; try with_reducible rfl) ?_
      go_frame
      refine wpQuiet_nil ?_
      intro X4 hb4
      have HZ := Lib.hid (show LvW w w.heap.size P g b Y (Y + 1) X4 from ⟨below_trans HB3.out hb4, Whole.below HP3.out hb4 HP3.out.lt, Nat.le_trans hX3s hb4.size, E1, r4, D1, HO1.out, HL3.out.below hb4, HR3.out.keep hb4⟩)
      clear hb4 HY9 HCN HL3 HR3 HP3 HB3
      go_wp2_with fail
      go_roundw
      case rel => exact ⟨k + 1, by omega, by omega, by go_num, HZ.out⟩
      case measure => simp [intOf]; omega
    · have hnot : decide (k < n) = false ∨ (k < n ∧ decide ((k : Int) < 200) = false) := by
        by_cases h1 : k < n
        · exact Or.inr ⟨h1, decide_eq_false (by omega)⟩
        · exact Or.inl (decide_eq_false h1)
      have HAV := Lib.hid (alive_ok wr)
      clear hgo
      rcases hnot with h1 | ⟨h0, h1⟩
      all_goals
        first | (have h2 : ¬ k < n := of_decide_eq_false h1) | (have h2 : ¬ (k : Int) < 200 := of_decide_eq_false h1)
        go_wp2_with fail
        refine HAV.out.mono ?_
        rintro e X1 ⟨rfl, hbx⟩
        have HB4 := Lib.hid (below_trans HW.out.bel hbx)
        clear hbx
        go_wp2_with fail
        go_ret
        exact ⟨rfl, HB4.out⟩
end LimiterLives
end Go.Proofs.Ytlccgplgbokgkaa
