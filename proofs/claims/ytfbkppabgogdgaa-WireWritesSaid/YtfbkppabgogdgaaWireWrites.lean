/- 'aditlaw13.WireWrites' returns true at every input and writes nothing that was there: the walk. No condition. -/
import Derived.Test.YtfbkppabgogdgaaWireBackLaw
import Derived.Test.YtfbkppabgogdgaaWireRest
import Derived.Test.YtfbkppabgogdgaaWireRefKind
import Derived.Test.YtfbkppabgogdgaaWireRefWrite
import Derived.Test.YtfbkppabgogdgaaWireWData
namespace Go.Proofs.Ytfbkppabgogdgaa
namespace WireWrites
open Go.ChangeShapes Go.WideShapes Go.ChangeAt Go.RowKit
open Num Mem Words Ref Cuts Chacha Quiet Wire RefW WireBack

/-- a rest that several orders of a region come to: it is laid out once. Its goal G is what the first order comes to. -/
theorem share {Φ G : Addr → Option Addr → Nat → Option Addr → Nat → World → Prop} {goal : Prop} (lead : (∀ h A c A' c' w, Φ h A c A' c' w → G h A c A' c' w) → goal) (rest : ∀ h A c A' c' w, Φ h A c A' c' w → G h A c A' c' w) : goal := lead rest

theorem data_out (x y : Nat) (f : Nat → Nat) : out1 4 x (fun i => if i < 8 then byteAt y i else f (i - 8)) = outD x y f := by
  funext i
  unfold out1 outD
  by_cases h4 : i < 4
  · rw [if_pos h4, if_pos h4]
  · rw [if_neg h4, if_neg h4]
    by_cases h8 : i < 8
    · rw [if_pos h8, if_pos h8]
    · rw [if_neg h8, if_neg h8]
      by_cases h16 : i < 16
      · rw [if_pos h16]
        show (if i - 8 < 8 then byteAt y (i - 8) else f (i - 8 - 8)) = _
        rw [if_pos (by omega)]
      · rw [if_neg h16]
        show (if i - 8 < 8 then byteAt y (i - 8) else f (i - 8 - 8)) = _
        rw [if_neg (by omega), Nat.sub_sub]
theorem box_unfit {n : Nat} (h : boxN n = false) : fitN 4 (16 + n) = false := by
  unfold boxN at h
  unfold fitN
  simp at h
  simp
  omega
theorem own_far {w : World} {B t n c g : Nat} {A : Option Addr} {f : Nat → Nat} (h : Own w B t A n c f) (hg : g < B) : ¬ (some g = (Value.slice A n c).ownBlock) := by
  intro e
  rcases own_at h with h0 | ⟨g2, e2, hB, _⟩
  · rw [h0] at e
    cases e
  · rw [e2] at e
    have e : some g = some g2 := e
    injection e with e
    omega
theorem own_near {w : World} {B t n c : Nat} {A : Option Addr} {f : Nat → Nat} (h : Own w B t A n c f) : ¬ (some w.heap.size = (Value.slice A n c).ownBlock) := by
  intro e
  rcases own_at h with h0 | ⟨g2, e2, _, hlt⟩
  · rw [h0] at e
    cases e
  · rw [e2] at e
    have e : some w.heap.size = some g2 := e
    injection e with e
    omega
theorem share7 {Φ : World → Prop} {G : Addr → Option Addr → Nat → Option Addr → Nat → Option Addr → Nat → World → Prop} {goal : Prop} (lead : (∀ h A c A' c' A2 c2 w, Φ w → G h A c A' c' A2 c2 w) → goal) (rest : ∀ h A c A' c' A2 c2 w, Φ w → G h A c A' c' A2 c2 w) : goal := lead rest
theorem wp_run {P : Program} {o : Oper} {a : Act} {w : World} {K : Act → World → Prop} {Q : Exit → Act → World → Prop} (v : Value) (hr : (execOp a.eval o).run P w = .ok (.value v) w) (h : K (a.put o.dst v) w) : o.wp P a w K Q := by
  unfold Oper.wp
  rw [hr]
  exact h
theorem wp_catFrom {P : Program} {o : Oper} {a : Act} {K : Act → World → Prop} {Q : Exit → Act → World → Prop} {W w : World} {B k c : Nat} {A : Option Addr} {f g T : Nat → Nat} (s x : Operand) (t e : TypeId) (z : Value) (by_ : Nat)
    (ht : P.underlying t = some (.slice e)) (hinfo : (P.info? e).map (fun i => (i.zero, i.size, i.bytes)) = some (some z, 1, by_)) (hz : z.cells.size = 1)
    (ho : o.op = .call { callee := .builtin .append, args := #[s, x], argTypes := #[t, t] })
    (hs : a.eval s = .slice A k c) (own : Own w B e A k c f) (bel : Below B W w) (hB : B ≤ w.heap.size)
    (m cx : Nat) (A2 : Option Addr) (hx : a.eval x = .slice A2 m cx) (src : Src w A2 m cx g) (hk : (k + m) * by_ ≤ 140737488355328) (hk2 : k + m ≤ 140737488355328)
    (hT : ∀ i, i < k + m → T i = if i < k then f i else g (i - k))
    (h : ∀ A' c' w', Own w' B e A' (k + m) c' T → Below B W w' → B ≤ w'.heap.size → w.grownBy w' (Value.slice A k c).ownBlock → K (a.put o.dst (.slice A' (k + m) c')) w') :
    o.wp P a w K Q := by
  rcases src with ⟨rfl, rfl, rfl⟩ | ⟨ad, rfl, hy⟩
  · obtain ⟨i0, hi, _⟩ := info_parts hinfo
    have hrun := run_append_owned_none (P := P) (w := w) B t o.type e i0 1 ht hi (.slice A k c) k (byteCells f k) own
    have hh := h A c w (Own.congr own fun i hi => by rw [hT i (by omega), if_pos (by omega)]) bel hB (World.grownBy.refl _ _)
    unfold Oper.wp
    simp [execOp, ho, resolve, invoke, builtin, hs, hx, hrun, Result.andThen]
    exact hh
  · exact wp_cat s x t e z by_ ht hinfo hz ho hs own bel hB ad m cx hx (byteCells g m) (byteCells_length _ _) hy (by
      intro u hu
      simp [byteCells] at hu
      obtain ⟨i, _, rfl⟩ := hu
      rfl) hk hk2 fun A' c' w' h1 h2 h3 h4 _ => h A' c' w' (by
      rw [byteCells_append, byteCells_congr (g := T) (fun i hi => (hT i hi).symm)] at h1
      exact h1) h2 h3 h4

set_option maxRecDepth 100000 in
set_option maxHeartbeats 8000000 in
theorem walk (s0 : Nat) (g0 : Nat → Nat) (s1 r1 : Nat) (g1 : Nat → Nat) (s2 : Nat) (g2 : Nat → Nat) (x y : Nat) (A : Option Addr) (n c : Nat) (zs : List Int) (w : World)
    (hs0 : s0 < 4294967296) (hg0 : ∀ i, g0 i < 256) (hs1 : s1 < 4294967296) (hr1 : r1 < 4294967296) (hg1 : ∀ i, g1 i < 256) (hs2 : s2 < 4294967296) (hg2 : ∀ i, g2 i < 256) (hx : x < 4294967296) (hy : y < 18446744073709551616) (hrow : IsRow .u8 w A n c zs) :
    Calls Try.prog 3 #[.agg (one s0 g0 140).toArray, .agg (two s1 r1 g1 80).toArray, .agg (one s2 g2 56).toArray, .agg #[.int .u32 (x : Nat), .int .u64 (y : Nat), .slice A n c]] w fun e w' => e = .returned (.bool true) ∧ Below w.heap.size w w' := by
  obtain ⟨f, hf, hrd, hnc, hcm⟩ := rd_of_row hrow
  have CA := Lib.hid alive_any
  have RH0 := Lib.hid (restHello_any s0 g0 hg0)
  have RH1 := Lib.hid (restAnswer_any s1 r1 g1 hg1)
  have RH2 := Lib.hid (restCookie_any s2 g2 hg2)
  have RW0 := Lib.hid (fun h A c w hh hc hsrc => write_ref1 1 (by omega) s0 hs0 h A 140 c g0 (by omega) w hh hc hsrc)
  have RW1 := Lib.hid (fun h A c w hh hc hd hsrc => write_ref2 2 (by omega) s1 r1 hs1 hr1 h A 80 c g1 (by omega) w hh hc hd hsrc)
  have RW2 := Lib.hid (fun h A c w hh hc hsrc => write_ref1 3 (by omega) s2 hs2 h A 56 c g2 (by omega) w hh hc hsrc)
  have HNIL := Lib.hid (show A = none → n = 0 ∧ c = 0 from fun e => by
    rcases hrow with ⟨_, h4, h5, _⟩ | ⟨x, h4, _⟩
    · exact ⟨h4, h5⟩
    · rw [e] at h4
      cases h4)
  have CW0 := Lib.hid (writeHello_any s0 g0 hs0 hg0)
  have CW1 := Lib.hid (writeAnswer_any s1 r1 g1 hs1 hr1 hg1)
  have CW2 := Lib.hid (writeCookie_any s2 g2 hs2 hg2)
  have HF := Lib.hid hf
  have HRD := Lib.hid hrd
  have HX := Lib.hid hx
  have HY := Lib.hid hy
  obtain ⟨O0, hO0⟩ : ∃ O, out1 1 s0 g0 = O := ⟨_, rfl⟩
  obtain ⟨O1, hO1⟩ : ∃ O, out2 2 s1 r1 g1 = O := ⟨_, rfl⟩
  obtain ⟨O2, hO2⟩ : ∃ O, out1 3 s2 g2 = O := ⟨_, rfl⟩
  rw [hO0] at CW0 RW0
  rw [hO1] at CW1 RW1
  rw [hO2] at CW2 RW2
  obtain ⟨L0, hL0⟩ : ∃ L, one s0 g0 140 = L := ⟨_, rfl⟩
  have H0S := Lib.hid (show L0.length = 141 by rw [← hL0, one_length])
  have H0Z := Lib.hid (show L0.toArray.size = 141 by rw [List.size_toArray, H0S.out])
  have H01 := Lib.hid (show L0.toArray.all (·.oneCell') = true by rw [← hL0]; exact one_one _ _ _)
  have HC00 := Lib.hid (show L0.toArray[0]? = some (.int .u32 (s0 : Nat)) by rw [← hL0]; rfl)
  rw [hL0] at CW0 RH0 ⊢
  obtain ⟨L1, hL1⟩ : ∃ L, two s1 r1 g1 80 = L := ⟨_, rfl⟩
  have H1S := Lib.hid (show L1.length = 82 by rw [← hL1, two_length])
  have H1Z := Lib.hid (show L1.toArray.size = 82 by rw [List.size_toArray, H1S.out])
  have H11 := Lib.hid (show L1.toArray.all (·.oneCell') = true by rw [← hL1]; exact two_one _ _ _ _)
  have HC10 := Lib.hid (show L1.toArray[0]? = some (.int .u32 (s1 : Nat)) by rw [← hL1]; rfl)
  have HC11 := Lib.hid (show L1.toArray[1]? = some (.int .u32 (r1 : Nat)) by rw [← hL1]; rfl)
  rw [hL1] at CW1 RH1 ⊢
  obtain ⟨L2, hL2⟩ : ∃ L, one s2 g2 56 = L := ⟨_, rfl⟩
  have H2S := Lib.hid (show L2.length = 57 by rw [← hL2, one_length])
  have H2Z := Lib.hid (show L2.toArray.size = 57 by rw [List.size_toArray, H2S.out])
  have H21 := Lib.hid (show L2.toArray.all (·.oneCell') = true by rw [← hL2]; exact one_one _ _ _)
  have HC20 := Lib.hid (show L2.toArray[0]? = some (.int .u32 (s2 : Nat)) by rw [← hL2]; rfl)
  rw [hL2] at CW2 RH2 ⊢
  clear hO0 hO1 hO2 hL0 hL1 hL2 hs0 hg0 hs1 hr1 hg1 hs2 hg2 hx hy hf hrd hrow
  obtain ⟨A0, hA0⟩ : ∃ A0, L0.toArray = A0 := ⟨_, rfl⟩
  obtain ⟨A1, hA1⟩ : ∃ A1, L1.toArray = A1 := ⟨_, rfl⟩
  obtain ⟨A2, hA2⟩ : ∃ A2, L2.toArray = A2 := ⟨_, rfl⟩
  have HA0 := Lib.hid hA0
  have HA1 := Lib.hid hA1
  have HA2 := Lib.hid hA2
  rw [hA0, hA1, hA2]
  clear hA0 hA1 hA2
  go_enter Try.func3, Try.ntmps3
  go_upto_region 1 with fail
  refine cut_world (fun X => Wh X [(w.heap.size + 1 + 1 + 1, 38, #[.int .u32 (x : Nat), .int .u64 (y : Nat), .slice A n c]), (w.heap.size + 1 + 1, 34, L2.toArray), (w.heap.size + 1, 31, L1.toArray), (w.heap.size, 29, L0.toArray)] ∧ Below w.heap.size w X) ⟨?_, ?_⟩ ?_
  · rw [HA0.out, HA1.out, HA2.out]
    exact ((((show Wh w [] from fun p hp => by cases hp).new _ _ _ rfl).new _ _ _ (by simp)).new _ _ _ (by simp)).new _ _ _ (by simp)
  · exact below_alloc' (below_alloc' (below_alloc' (below_alloc (Below.refl _ _) _) (by simp) _) (by simp; omega) _) (by simp; omega) _
  rintro W ⟨kw, kb⟩
  have KB := Lib.hid kb
  have hl0 : w.heap.size + 1 + 1 + 1 < W.heap.size := (kw (_, _, _) (List.mem_cons_self ..)).lt
  generalize w.heap.size + 1 + 1 + 1 = B3 at kw hl0 ⊢
  generalize w.heap.size + 1 + 1 = B2 at kw ⊢
  generalize w.heap.size + 1 = B1 at kw ⊢
  generalize w.heap.size = B0 at kw ⊢
  have hc2 : W.cell? ⟨B3, 2, none⟩ = some (.slice A n c) := (kw _ (List.mem_cons_self ..)).cell 2
  have HW := Lib.hid kw
  clear kw kb
  by_cases h1 : 2000 < n
  · have d1 : decide ((2000 : Int) < (n : Int)) = true := decide_eq_true (by omega)
    go_wp2_with (go_at_call 13; refine (CA.out _).mono ?_; rintro e w1 ⟨rfl, hb⟩)
    go_ret
    exact ⟨rfl, below_trans KB.out hb⟩
  have d1 : decide ((2000 : Int) < (n : Int)) = false := decide_eq_false (by omega)
  have K3 := Lib.hid (HW.out (B3, 38, #[.int .u32 (x : Nat), .int .u64 (y : Nat), .slice A n c]) (by simp))
  by_cases hbx : boxN n = true
  · have CWD := Lib.hid (fun w hrd => writeData_ok x y HX.out HY.out A n c f HF.out hnc hbx w hrd)
    go_upto_region 3 with fail
    go_upto_region 4 with (first
      | (refine wpList_load_row rfl 38 (.tmp 7) rfl B3 rfl 38 #[.int .u32 (x : Nat), .int .u64 (y : Nat), .slice A n c] (0, 0) _ K3.out rfl rfl (by kernel_rfl) ?_)
      | (go_at_call 14; refine (CWD.out _ (HRD.out.below KB.out (Nat.le_refl _))).mono ?_; rintro e w1 ⟨A', c', rfl, ho, hb1⟩; have HO := Lib.hid ho; have HB1 := Lib.hid hb1; clear ho hb1))
    have K3' := Lib.hid (K3.out.below HB1.out K3.out.lt)
    have HM0 := Lib.hid (fun (Y : World) (hw : Below w1.heap.size w1 Y) => (K3'.out.below hw K3'.out.lt).cell 0)
    have HM1 := Lib.hid (fun (Y : World) (hw : Below w1.heap.size w1 Y) => (K3'.out.below hw K3'.out.lt).cell 1)
    have HM2 := Lib.hid (fun (Y : World) (hw : Below w1.heap.size w1 Y) => (K3'.out.below hw K3'.out.lt).cell 2)
    have hrd1 : Rd w1 A n f := (HRD.out.below KB.out (Nat.le_refl _)).below HB1.out (Nat.le_refl _)
    have HSD := Lib.hid (src_rd (c := c) hrd1 HNIL.out)
    have CB := Lib.hid (fun X => bytes_any y 8 (by omega) HY.out X)
    have hBs : ∀ X, Below w1.heap.size w1 X → w1.heap.size ≤ X.heap.size := fun X h => h.size
    clear hrd1
    refine region_drew (fun Y => Below w1.heap.size w1 Y) (by kernel_rfl) (below_drewN (Below.refl _ _) 1) ?_
    intro hS
    refine take 0 _ rfl (by kernel_rfl) (by kernel_rfl) (by kernel_rfl) (fun _ _ _ h => h) (by rfl) hS (by intro w _; go_simp; with_reducible rfl) ?_
    try simp only [Act.put, List.setIfInBounds_toArray, List.set_cons_zero, List.set_cons_succ]
    refine take 1 _ rfl (by kernel_rfl) (by kernel_rfl) (by kernel_rfl) (fun _ _ _ h => h) (by rfl) hS (by intro w hw; have hcl := HM0.out w hw; go_simp; with_reducible rfl) ?_
    try simp only [Act.put, List.setIfInBounds_toArray, List.set_cons_zero, List.set_cons_succ]
    refine take 3 _ rfl (by kernel_rfl) (by kernel_rfl) (by kernel_rfl) (fun _ _ _ h => h) (by rfl) hS (by intro w _; go_simp; with_reducible rfl) ?_
    try simp only [Act.put, List.setIfInBounds_toArray, List.set_cons_zero, List.set_cons_succ]
    refine take 4 _ rfl (by kernel_rfl) (by kernel_rfl) (by kernel_rfl) (fun _ _ _ h => h) (by rfl) hS (by intro w hw; have hcl := HM1.out w hw; go_simp; with_reducible rfl) ?_
    try simp only [Act.put, List.setIfInBounds_toArray, List.set_cons_zero, List.set_cons_succ]
    refine take 6 _ rfl (by kernel_rfl) (by kernel_rfl) (by kernel_rfl) (fun _ _ _ h => h) (by rfl) hS (by intro w _; go_simp; with_reducible rfl) ?_
    try simp only [Act.put, List.setIfInBounds_toArray, List.set_cons_zero, List.set_cons_succ]
    refine take 7 _ rfl (by kernel_rfl) (by kernel_rfl) (by kernel_rfl) (fun _ _ _ h => h) (by rfl) hS (by intro w hw; have hcl := HM2.out w hw; go_simp; with_reducible rfl) ?_
    try simp only [Act.put, List.setIfInBounds_toArray, List.set_cons_zero, List.set_cons_succ]
    apply share (Φ := fun ad _ _ A5 c5 X => (∃ h, ad = ⟨h, 0, none⟩ ∧ X.cell? ⟨h, 0, none⟩ = some (.int .u32 (x : Nat)) ∧ h < X.heap.size) ∧ Own X w1.heap.size 5 A5 (8 + n) c5 (fun i => if i < 8 then byteAt y i else f (i - 8)) ∧ Below w1.heap.size w1 X)
    case lead =>
      intro REST
      refine ready_two 2 5 rfl rfl (by kernel_rfl) (by rfl) (by rfl) ?_ ?_
      · intro K hK
        go_simp
        have hS1 := hS.alloc (hBs _ hS) (.cells #[.int .u32 (x : Nat)] 22)
        refine hK.out _ _ hS1 ?_
        clear hK K
        try simp only [Act.put, List.setIfInBounds_toArray, List.set_cons_zero, List.set_cons_succ]
        refine cut_any (fun Y => Below w1.heap.size w1 Y ∧ Whole Y w1.heap.size 22 #[.int .u32 (x : Nat)]) ⟨hS1, Whole.new _ _ _⟩ ?_
        clear hS1
        rintro Xb ⟨hSb, hwb⟩
        generalize hva : (⟨w1.heap.size, 0, none⟩ : Addr) = ad
        refine alone 5 rfl (by kernel_rfl) (by rfl) ?_
        intro K hK
        go_simp
        refine (CB.out _).mono ?_
        rintro e Xc ⟨A4, c4, rfl, ho0, hb⟩
        have hwc := hwb.below hb hwb.lt
        have ho : Own Xc w1.heap.size 5 A4 8 c4 (byteAt y) := ho0.more (hBs _ hSb)
        have hne : ¬ (some w1.heap.size = (Value.slice A4 8 c4).ownBlock) := own_far ho0 hwb.lt
        have hSc := below_trans hSb hb
        go_simp
        refine hK.out _ _ hSc ?_
        clear hK K hb hwb ho0 hSb
        try simp only [Act.put, List.setIfInBounds_toArray, List.set_cons_zero, List.set_cons_succ]
        refine alone 8 rfl (by kernel_rfl) (by rfl) ?_
        intro K hK
        refine wp_catFrom (W := w1) (B := w1.heap.size) (T := fun i => if i < 8 then byteAt y i else f (i - 8)) (.tmp 27) (.tmp 29) 36 5 (.int .u8 0) 1 Try.underlying36 info_u8 rfl rfl rfl ho hSc (hBs _ hSc) n c A rfl (src_keep HSD.out hSc) (by omega) (by omega) (fun i _ => rfl) ?_
        intro A5 c5 w5 h5 hS5 _ hg5
        refine hK.out _ _ hS5 ?_
        clear hK K
        try simp only [Act.put, List.setIfInBounds_toArray, List.set_cons_zero, List.set_cons_succ]
        exact REST ad A4 c4 A5 c5 w5 ⟨⟨w1.heap.size, hva.symm, Whole.cell (w := w5) ((hg5.block _ hwc.lt hne).trans hwc) 0, Nat.lt_of_lt_of_le hwc.lt hg5.size⟩, h5, hS5⟩
      · intro K hK
        go_simp
        refine (CB.out _).mono ?_
        rintro e Xc ⟨A4, c4, rfl, ho0, hb⟩
        have ho : Own Xc w1.heap.size 5 A4 8 c4 (byteAt y) := ho0.more (hBs _ hS)
        have hSc := below_trans hS hb
        go_simp
        refine hK.out _ _ hSc ?_
        clear hK K hb ho0
        try simp only [Act.put, List.setIfInBounds_toArray, List.set_cons_zero, List.set_cons_succ]
        refine ready_two 2 8 rfl rfl (by kernel_rfl) (by rfl) (by rfl) ?_ ?_
        · intro K hK
          go_simp
          have hS1 := hSc.alloc (hBs _ hSc) (.cells #[.int .u32 (x : Nat)] 22)
          refine hK.out _ _ hS1 ?_
          clear hK K
          try simp only [Act.put, List.setIfInBounds_toArray, List.set_cons_zero, List.set_cons_succ]
          refine cut_any (fun Y => Below w1.heap.size w1 Y ∧ Whole Y Xc.heap.size 22 #[.int .u32 (x : Nat)] ∧ Own Y w1.heap.size 5 A4 8 c4 (byteAt y)) ⟨hS1, Whole.new _ _ _, ho.alloc _⟩ ?_
          clear hS1
          rintro Xb ⟨hSb, hwc, hob⟩
          have hne : ¬ (some Xc.heap.size = (Value.slice A4 8 c4).ownBlock) := own_near ho
          generalize hva : (⟨Xc.heap.size, 0, none⟩ : Addr) = ad
          refine alone 8 rfl (by kernel_rfl) (by rfl) ?_
          intro K hK
          refine wp_catFrom (W := w1) (B := w1.heap.size) (T := fun i => if i < 8 then byteAt y i else f (i - 8)) (.tmp 27) (.tmp 29) 36 5 (.int .u8 0) 1 Try.underlying36 info_u8 rfl rfl rfl hob hSb (hBs _ hSb) n c A rfl (src_keep HSD.out hSb) (by omega) (by omega) (fun i _ => rfl) ?_
          intro A5 c5 w5 h5 hS5 _ hg5
          refine hK.out _ _ hS5 ?_
          clear hK K
          try simp only [Act.put, List.setIfInBounds_toArray, List.set_cons_zero, List.set_cons_succ]
          exact REST ad A4 c4 A5 c5 w5 ⟨⟨Xc.heap.size, hva.symm, Whole.cell (w := w5) ((hg5.block _ hwc.lt hne).trans hwc) 0, Nat.lt_of_lt_of_le hwc.lt hg5.size⟩, h5, hS5⟩
        · intro K hK
          refine wp_catFrom (W := w1) (B := w1.heap.size) (T := fun i => if i < 8 then byteAt y i else f (i - 8)) (.tmp 27) (.tmp 29) 36 5 (.int .u8 0) 1 Try.underlying36 info_u8 rfl rfl rfl ho hSc (hBs _ hSc) n c A rfl (src_keep HSD.out hSc) (by omega) (by omega) (fun i _ => rfl) ?_
          intro A5 c5 w5 h5 hS5 _ hg5
          refine hK.out _ _ hS5 ?_
          clear hK K
          try simp only [Act.put, List.setIfInBounds_toArray, List.set_cons_zero, List.set_cons_succ]
          refine alone 2 rfl (by kernel_rfl) (by rfl) ?_
          intro K hK
          go_simp
          have hS1 := hS5.alloc (hBs _ hS5) (.cells #[.int .u32 (x : Nat)] 22)
          refine hK.out _ _ hS1 ?_
          clear hK K
          try simp only [Act.put, List.setIfInBounds_toArray, List.set_cons_zero, List.set_cons_succ]
          refine cut_any (fun Y => Below w1.heap.size w1 Y ∧ Whole Y w5.heap.size 22 #[.int .u32 (x : Nat)] ∧ Own Y w1.heap.size 5 A5 (8 + n) c5 (fun i => if i < 8 then byteAt y i else f (i - 8))) ⟨hS1, Whole.new _ _ _, h5.alloc _⟩ ?_
          clear hS1
          rintro Xb ⟨hSb, hwc, hob⟩
          generalize hva : (⟨w5.heap.size, 0, none⟩ : Addr) = ad
          exact REST ad A4 c4 A5 c5 Xb ⟨⟨w5.heap.size, hva.symm, hwc.cell 0, hwc.lt⟩, hob, hSb⟩
    case rest =>
      rintro ad A4 c4 A5 c5 X5 ⟨⟨h, rfl, hc0, hh⟩, h5, hS5⟩
      have CW := Lib.hid (write_ref1 4 (by omega) x HX.out h A5 (8 + n) c5 (fun i => if i < 8 then byteAt y i else f (i - 8)) (by omega) X5 hh hc0 (src_own h5))
      rw [data_out x y f] at CW
      refine alone 9 rfl (by kernel_rfl) (by rfl) ?_
      intro K hK
      go_simp
      refine CW.out.mono ?_
      rintro e X6 ⟨A6, c6, rfl, h6, hb6⟩
      have hS := below_trans hS5 hb6
      go_simp
      refine hK.out _ _ hS ?_
      clear hK K hb6 CW hS5 h5 hc0 hh
      try simp only [Act.put, List.setIfInBounds_toArray, List.set_cons_zero, List.set_cons_succ]
      refine take 10 _ rfl (by kernel_rfl) (by kernel_rfl) (by kernel_rfl) (fun _ _ _ h => h) (by rfl) hS (by intro w _; go_simp; with_reducible rfl) ?_
      try simp only [Act.put, List.setIfInBounds_toArray, List.set_cons_zero, List.set_cons_succ]
      refine region_end (by kernel_rfl) ?_
      rw [show 8 + (8 + n) = 16 + n by omega] at h6
      have H6 := Lib.hid h6.rd
      have HO6 := Lib.hid (HO.out.below hS (Nat.le_refl _)).rd
      have KB6 := Lib.hid (below_trans KB.out (below_trans HB1.out hS))
      have HW6 := Lib.hid ((HW.out.below HB1.out).below hS)
      clear hS h6 HO HB1 KB HW K3 K3' HM0 HM1 HM2 CB HSD hBs
      generalize outD x y f = OD at H6 HO6
      have CS : Hid (∀ X, Calls Try.prog 17 #[.int .u8 4, .int .i64 (16 + (n : Int))] X fun e w' => e = .returned (.bool true) ∧ w' = X) := Lib.hid (fun X => by
        have h := RefW.sizes_any 4 (16 + n) (by omega) (by omega) (by omega) X
        rw [box_fit hbx, Int.natCast_add] at h
        exact h)
      rw [show 8 + (8 + n) = 16 + n by omega]
      have y1 := run_string_of (P := Try.prog) (c := c') 36 9 5 Try.underlying36 Try.underlying5 Try.underlying9 HO6.out
      have y2 := run_string_of (P := Try.prog) (c := c6) 36 9 5 Try.underlying36 Try.underlying5 Try.underlying9 H6.out
      generalize strOf OD (16 + n) = SD at y1 y2
      go_upto_region 7 with (go_at_call 17; refine (CS.out _).mono ?_; rintro e X7 ⟨rfl, rfl⟩)
      have F0 := Lib.hid (HW6.out (B0, 29, L0.toArray) (by simp))
      have F1 := Lib.hid (HW6.out (B1, 31, L1.toArray) (by simp))
      have F2 := Lib.hid (HW6.out (B2, 34, L2.toArray) (by simp))
      have hBs : ∀ X, Below X7.heap.size X7 X → X7.heap.size ≤ X.heap.size := fun X h => h.size
      clear HW6 y1 y2 CS
      refine region_drew (fun Y => Below X7.heap.size X7 Y) (by kernel_rfl) (below_drewN (Below.refl _ _) 1) ?_
      intro hS
      refine alone 0 rfl (by kernel_rfl) (by rfl) ?_
      intro K hK
      go_simp
      refine (CA.out _).mono ?_
      rintro e v1 ⟨rfl, hb⟩
      go_simp
      replace hS := below_trans hS hb
      refine hK.out _ _ hS ?_
      clear hK hb K
      try simp only [Act.put, List.setIfInBounds_toArray, List.set_cons_zero, List.set_cons_succ]
      refine take 1 _ rfl (by kernel_rfl) (by kernel_rfl) (by kernel_rfl) (fun _ _ _ h => h) (by rfl) hS (by intro w _; go_simp; with_reducible rfl) ?_
      try simp only [Act.put, List.setIfInBounds_toArray, List.set_cons_zero, List.set_cons_succ]
      refine take 2 _ rfl (by kernel_rfl) (by kernel_rfl) (by kernel_rfl) (fun _ _ _ h => h) (by rfl) hS (fun w hw => run_load_op 29 (.tmp 4) rfl (B0) rfl (F0.out.below hw F0.out.lt) rfl rfl (by rw [H0Z.out]; kernel_rfl)) ?_
      try simp only [Act.put, List.setIfInBounds_toArray, List.set_cons_zero, List.set_cons_succ]
      refine take 5 _ rfl (by kernel_rfl) (by kernel_rfl) (by kernel_rfl) (fun _ _ _ h => h) (by rfl) hS (by intro w _; go_simp; with_reducible rfl) ?_
      try simp only [Act.put, List.setIfInBounds_toArray, List.set_cons_zero, List.set_cons_succ]
      refine take 6 _ rfl (by kernel_rfl) (by kernel_rfl) (by kernel_rfl) (fun _ _ _ h => h) (by rfl) hS (by intro w hw; have hcl := ((F0.out.below hw F0.out.lt).cell 0).trans HC00.out; go_simp; with_reducible rfl) ?_
      try simp only [Act.put, List.setIfInBounds_toArray, List.set_cons_zero, List.set_cons_succ]
      refine take 8 _ rfl (by kernel_rfl) (by kernel_rfl) (by kernel_rfl) (fun _ _ _ h => h) (by rfl) hS (fun w hw => run_load_op 29 (.tmp 4) rfl (B0) rfl (F0.out.below hw F0.out.lt) rfl rfl (by rw [H0Z.out]; kernel_rfl)) ?_
      try simp only [Act.put, List.setIfInBounds_toArray, List.set_cons_zero, List.set_cons_succ]
      apply share7 (Φ := fun X => Below X7.heap.size X7 X)
      case lead =>
        intro REST
        refine ready_two 3 7 rfl rfl (by kernel_rfl) (by rfl) (by rfl) ?_ ?_
        · skip
          intro K hK
          go_simp
          refine (CW0.out _).mono ?_
          rintro e Z1 ⟨A1, c1, rfl, ho1, hb1⟩
          have ra1 := ho1.rd
          have hS1 := below_trans hS hb1
          go_simp
          refine hK.out _ _ hS1 ?_
          clear hK K
          try simp only [Act.put, List.setIfInBounds_toArray, List.set_cons_zero, List.set_cons_succ]
          refine ready_three 4 7 9 rfl rfl rfl (by kernel_rfl) (by rfl) (by rfl) (by rfl) ?_ ?_ ?_
          · skip
            intro K hK
            refine wp_run _ (run_string_op 36 9 5 _ rfl rfl Try.underlying36 Try.underlying5 Try.underlying9 ra1) ?_
            refine hK.out _ _ hS1 ?_
            clear hK K
            try simp only [Act.put, List.setIfInBounds_toArray, List.set_cons_zero, List.set_cons_succ]
            refine ready_two 7 9 rfl rfl (by kernel_rfl) (by rfl) (by rfl) ?_ ?_
            · skip
              intro K hK
              go_simp
              have hx3 := hS1.alloc (hBs _ hS1) (.cells #[.int .u32 (s0 : Nat)] 22)
              have hb3 := below_alloc (Below.refl _ Z1) (.cells #[.int .u32 (s0 : Nat)] 22)
              refine hK.out _ _ hx3 ?_
              clear hK K
              try simp only [Act.put, List.setIfInBounds_toArray, List.set_cons_zero, List.set_cons_succ]
              refine cut_any (fun Y => Below Z1.heap.size Z1 Y ∧ Whole Y Z1.heap.size 22 #[.int .u32 (s0 : Nat)]) ⟨hb3, Whole.new _ _ _⟩ ?_
              clear hx3 hb3
              rintro Z3 ⟨hb3, rb3⟩
              have hS3 := below_trans hS1 hb3
              generalize hva : (⟨Z1.heap.size, 0, none⟩ : Addr) = ad
              refine alone 9 rfl (by kernel_rfl) (by rfl) ?_
              intro K hK
              go_simp
              refine (RH0.out _).mono ?_
              rintro e Z4 ⟨A2, c2, rfl, ho4, hb4⟩
              have rb4 := rb3.below hb4 rb3.lt
              have rc4 := src_own ho4
              have hS4 := below_trans hS3 hb4
              go_simp
              refine hK.out _ _ hS4 ?_
              clear hK K
              try simp only [Act.put, List.setIfInBounds_toArray, List.set_cons_zero, List.set_cons_succ]
              refine alone 10 rfl (by kernel_rfl) (by rfl) ?_
              intro K hK
              go_simp
              subst hva
              refine (RW0.out _ A2 c2 _ rb4.lt (rb4.cell 0) rc4).mono ?_
              rintro e Z5 ⟨A3, c3, rfl, ho5, hb5⟩
              have rb5 := rb4.below hb5 rb4.lt
              have rc5 := src_keep rc4 hb5
              have rd5 := ho5.rd
              have hS5 := below_trans hS4 hb5
              go_simp
              refine hK.out _ _ hS5 ?_
              clear hK K
              try simp only [Act.put, List.setIfInBounds_toArray, List.set_cons_zero, List.set_cons_succ]
              generalize hva : (⟨Z1.heap.size, 0, none⟩ : Addr) = ad
              refine alone 11 rfl (by kernel_rfl) (by rfl) ?_
              intro K hK
              refine wp_run _ (run_string_op 36 9 5 _ rfl rfl Try.underlying36 Try.underlying5 Try.underlying9 rd5) ?_
              refine hK.out _ _ hS5 ?_
              clear hK K
              try simp only [Act.put, List.setIfInBounds_toArray, List.set_cons_zero, List.set_cons_succ]
              exact REST ad A1 c1 A2 c2 A3 c3 Z5 hS5
            · skip
              intro K hK
              go_simp
              refine (RH0.out _).mono ?_
              rintro e Z7 ⟨A2, c2, rfl, ho7, hb7⟩
              have rc7 := src_own ho7
              have hS7 := below_trans hS1 hb7
              go_simp
              refine hK.out _ _ hS7 ?_
              clear hK K
              try simp only [Act.put, List.setIfInBounds_toArray, List.set_cons_zero, List.set_cons_succ]
              refine alone 7 rfl (by kernel_rfl) (by rfl) ?_
              intro K hK
              go_simp
              have hx8 := hS7.alloc (hBs _ hS7) (.cells #[.int .u32 (s0 : Nat)] 22)
              have hb8 := below_alloc (Below.refl _ Z7) (.cells #[.int .u32 (s0 : Nat)] 22)
              refine hK.out _ _ hx8 ?_
              clear hK K
              try simp only [Act.put, List.setIfInBounds_toArray, List.set_cons_zero, List.set_cons_succ]
              refine cut_any (fun Y => Below Z7.heap.size Z7 Y ∧ Whole Y Z7.heap.size 22 #[.int .u32 (s0 : Nat)]) ⟨hb8, Whole.new _ _ _⟩ ?_
              clear hx8 hb8
              rintro Z8 ⟨hb8, rb8⟩
              have rc8 := src_keep rc7 hb8
              have hS8 := below_trans hS7 hb8
              generalize hva : (⟨Z7.heap.size, 0, none⟩ : Addr) = ad
              refine alone 10 rfl (by kernel_rfl) (by rfl) ?_
              intro K hK
              go_simp
              subst hva
              refine (RW0.out _ A2 c2 _ rb8.lt (rb8.cell 0) rc8).mono ?_
              rintro e Z9 ⟨A3, c3, rfl, ho9, hb9⟩
              have rb9 := rb8.below hb9 rb8.lt
              have rc9 := src_keep rc8 hb9
              have rd9 := ho9.rd
              have hS9 := below_trans hS8 hb9
              go_simp
              refine hK.out _ _ hS9 ?_
              clear hK K
              try simp only [Act.put, List.setIfInBounds_toArray, List.set_cons_zero, List.set_cons_succ]
              generalize hva : (⟨Z7.heap.size, 0, none⟩ : Addr) = ad
              refine alone 11 rfl (by kernel_rfl) (by rfl) ?_
              intro K hK
              refine wp_run _ (run_string_op 36 9 5 _ rfl rfl Try.underlying36 Try.underlying5 Try.underlying9 rd9) ?_
              refine hK.out _ _ hS9 ?_
              clear hK K
              try simp only [Act.put, List.setIfInBounds_toArray, List.set_cons_zero, List.set_cons_succ]
              exact REST ad A1 c1 A2 c2 A3 c3 Z9 hS9
          · skip
            intro K hK
            go_simp
            have hx11 := hS1.alloc (hBs _ hS1) (.cells #[.int .u32 (s0 : Nat)] 22)
            have hb11 := below_alloc (Below.refl _ Z1) (.cells #[.int .u32 (s0 : Nat)] 22)
            refine hK.out _ _ hx11 ?_
            clear hK K
            try simp only [Act.put, List.setIfInBounds_toArray, List.set_cons_zero, List.set_cons_succ]
            refine cut_any (fun Y => Below Z1.heap.size Z1 Y ∧ Whole Y Z1.heap.size 22 #[.int .u32 (s0 : Nat)]) ⟨hb11, Whole.new _ _ _⟩ ?_
            clear hx11 hb11
            rintro Z11 ⟨hb11, rb11⟩
            have ra11 := ra1.below hb11 (Nat.le_refl _)
            have hS11 := below_trans hS1 hb11
            generalize hva : (⟨Z1.heap.size, 0, none⟩ : Addr) = ad
            refine ready_two 4 9 rfl rfl (by kernel_rfl) (by rfl) (by rfl) ?_ ?_
            · skip
              intro K hK
              refine wp_run _ (run_string_op 36 9 5 _ rfl rfl Try.underlying36 Try.underlying5 Try.underlying9 ra11) ?_
              refine hK.out _ _ hS11 ?_
              clear hK K
              try simp only [Act.put, List.setIfInBounds_toArray, List.set_cons_zero, List.set_cons_succ]
              refine alone 9 rfl (by kernel_rfl) (by rfl) ?_
              intro K hK
              go_simp
              refine (RH0.out _).mono ?_
              rintro e Z13 ⟨A2, c2, rfl, ho13, hb13⟩
              have rb13 := rb11.below hb13 rb11.lt
              have rc13 := src_own ho13
              have hS13 := below_trans hS11 hb13
              go_simp
              refine hK.out _ _ hS13 ?_
              clear hK K
              try simp only [Act.put, List.setIfInBounds_toArray, List.set_cons_zero, List.set_cons_succ]
              refine alone 10 rfl (by kernel_rfl) (by rfl) ?_
              intro K hK
              go_simp
              subst hva
              refine (RW0.out _ A2 c2 _ rb13.lt (rb13.cell 0) rc13).mono ?_
              rintro e Z14 ⟨A3, c3, rfl, ho14, hb14⟩
              have rb14 := rb13.below hb14 rb13.lt
              have rc14 := src_keep rc13 hb14
              have rd14 := ho14.rd
              have hS14 := below_trans hS13 hb14
              go_simp
              refine hK.out _ _ hS14 ?_
              clear hK K
              try simp only [Act.put, List.setIfInBounds_toArray, List.set_cons_zero, List.set_cons_succ]
              generalize hva : (⟨Z1.heap.size, 0, none⟩ : Addr) = ad
              refine alone 11 rfl (by kernel_rfl) (by rfl) ?_
              intro K hK
              refine wp_run _ (run_string_op 36 9 5 _ rfl rfl Try.underlying36 Try.underlying5 Try.underlying9 rd14) ?_
              refine hK.out _ _ hS14 ?_
              clear hK K
              try simp only [Act.put, List.setIfInBounds_toArray, List.set_cons_zero, List.set_cons_succ]
              exact REST ad A1 c1 A2 c2 A3 c3 Z14 hS14
            · skip
              intro K hK
              go_simp
              refine (RH0.out _).mono ?_
              rintro e Z16 ⟨A2, c2, rfl, ho16, hb16⟩
              have ra16 := ra11.below hb16 (Nat.le_refl _)
              have rb16 := rb11.below hb16 rb11.lt
              have rc16 := src_own ho16
              have hS16 := below_trans hS11 hb16
              go_simp
              refine hK.out _ _ hS16 ?_
              clear hK K
              try simp only [Act.put, List.setIfInBounds_toArray, List.set_cons_zero, List.set_cons_succ]
              refine ready_two 4 10 rfl rfl (by kernel_rfl) (by rfl) (by rfl) ?_ ?_
              · skip
                intro K hK
                refine wp_run _ (run_string_op 36 9 5 _ rfl rfl Try.underlying36 Try.underlying5 Try.underlying9 ra16) ?_
                refine hK.out _ _ hS16 ?_
                clear hK K
                try simp only [Act.put, List.setIfInBounds_toArray, List.set_cons_zero, List.set_cons_succ]
                refine alone 10 rfl (by kernel_rfl) (by rfl) ?_
                intro K hK
                go_simp
                subst hva
                refine (RW0.out _ A2 c2 _ rb16.lt (rb16.cell 0) rc16).mono ?_
                rintro e Z18 ⟨A3, c3, rfl, ho18, hb18⟩
                have rb18 := rb16.below hb18 rb16.lt
                have rc18 := src_keep rc16 hb18
                have rd18 := ho18.rd
                have hS18 := below_trans hS16 hb18
                go_simp
                refine hK.out _ _ hS18 ?_
                clear hK K
                try simp only [Act.put, List.setIfInBounds_toArray, List.set_cons_zero, List.set_cons_succ]
                generalize hva : (⟨Z1.heap.size, 0, none⟩ : Addr) = ad
                refine alone 11 rfl (by kernel_rfl) (by rfl) ?_
                intro K hK
                refine wp_run _ (run_string_op 36 9 5 _ rfl rfl Try.underlying36 Try.underlying5 Try.underlying9 rd18) ?_
                refine hK.out _ _ hS18 ?_
                clear hK K
                try simp only [Act.put, List.setIfInBounds_toArray, List.set_cons_zero, List.set_cons_succ]
                exact REST ad A1 c1 A2 c2 A3 c3 Z18 hS18
              · skip
                intro K hK
                go_simp
                subst hva
                refine (RW0.out _ A2 c2 _ rb16.lt (rb16.cell 0) rc16).mono ?_
                rintro e Z20 ⟨A3, c3, rfl, ho20, hb20⟩
                have ra20 := ra16.below hb20 (Nat.le_refl _)
                have rb20 := rb16.below hb20 rb16.lt
                have rc20 := src_keep rc16 hb20
                have rd20 := ho20.rd
                have hS20 := below_trans hS16 hb20
                go_simp
                refine hK.out _ _ hS20 ?_
                clear hK K
                try simp only [Act.put, List.setIfInBounds_toArray, List.set_cons_zero, List.set_cons_succ]
                generalize hva : (⟨Z1.heap.size, 0, none⟩ : Addr) = ad
                refine ready_two 4 11 rfl rfl (by kernel_rfl) (by rfl) (by rfl) ?_ ?_
                · skip
                  intro K hK
                  refine wp_run _ (run_string_op 36 9 5 _ rfl rfl Try.underlying36 Try.underlying5 Try.underlying9 ra20) ?_
                  refine hK.out _ _ hS20 ?_
                  clear hK K
                  try simp only [Act.put, List.setIfInBounds_toArray, List.set_cons_zero, List.set_cons_succ]
                  refine alone 11 rfl (by kernel_rfl) (by rfl) ?_
                  intro K hK
                  refine wp_run _ (run_string_op 36 9 5 _ rfl rfl Try.underlying36 Try.underlying5 Try.underlying9 rd20) ?_
                  refine hK.out _ _ hS20 ?_
                  clear hK K
                  try simp only [Act.put, List.setIfInBounds_toArray, List.set_cons_zero, List.set_cons_succ]
                  exact REST ad A1 c1 A2 c2 A3 c3 Z20 hS20
                · skip
                  intro K hK
                  refine wp_run _ (run_string_op 36 9 5 _ rfl rfl Try.underlying36 Try.underlying5 Try.underlying9 rd20) ?_
                  refine hK.out _ _ hS20 ?_
                  clear hK K
                  try simp only [Act.put, List.setIfInBounds_toArray, List.set_cons_zero, List.set_cons_succ]
                  refine alone 4 rfl (by kernel_rfl) (by rfl) ?_
                  intro K hK
                  refine wp_run _ (run_string_op 36 9 5 _ rfl rfl Try.underlying36 Try.underlying5 Try.underlying9 ra20) ?_
                  refine hK.out _ _ hS20 ?_
                  clear hK K
                  try simp only [Act.put, List.setIfInBounds_toArray, List.set_cons_zero, List.set_cons_succ]
                  exact REST ad A1 c1 A2 c2 A3 c3 Z20 hS20
          · skip
            intro K hK
            go_simp
            refine (RH0.out _).mono ?_
            rintro e Z25 ⟨A2, c2, rfl, ho25, hb25⟩
            have ra25 := ra1.below hb25 (Nat.le_refl _)
            have rc25 := src_own ho25
            have hS25 := below_trans hS1 hb25
            go_simp
            refine hK.out _ _ hS25 ?_
            clear hK K
            try simp only [Act.put, List.setIfInBounds_toArray, List.set_cons_zero, List.set_cons_succ]
            refine ready_two 4 7 rfl rfl (by kernel_rfl) (by rfl) (by rfl) ?_ ?_
            · skip
              intro K hK
              refine wp_run _ (run_string_op 36 9 5 _ rfl rfl Try.underlying36 Try.underlying5 Try.underlying9 ra25) ?_
              refine hK.out _ _ hS25 ?_
              clear hK K
              try simp only [Act.put, List.setIfInBounds_toArray, List.set_cons_zero, List.set_cons_succ]
              refine alone 7 rfl (by kernel_rfl) (by rfl) ?_
              intro K hK
              go_simp
              have hx27 := hS25.alloc (hBs _ hS25) (.cells #[.int .u32 (s0 : Nat)] 22)
              have hb27 := below_alloc (Below.refl _ Z25) (.cells #[.int .u32 (s0 : Nat)] 22)
              refine hK.out _ _ hx27 ?_
              clear hK K
              try simp only [Act.put, List.setIfInBounds_toArray, List.set_cons_zero, List.set_cons_succ]
              refine cut_any (fun Y => Below Z25.heap.size Z25 Y ∧ Whole Y Z25.heap.size 22 #[.int .u32 (s0 : Nat)]) ⟨hb27, Whole.new _ _ _⟩ ?_
              clear hx27 hb27
              rintro Z27 ⟨hb27, rb27⟩
              have rc27 := src_keep rc25 hb27
              have hS27 := below_trans hS25 hb27
              generalize hva : (⟨Z25.heap.size, 0, none⟩ : Addr) = ad
              refine alone 10 rfl (by kernel_rfl) (by rfl) ?_
              intro K hK
              go_simp
              subst hva
              refine (RW0.out _ A2 c2 _ rb27.lt (rb27.cell 0) rc27).mono ?_
              rintro e Z28 ⟨A3, c3, rfl, ho28, hb28⟩
              have rb28 := rb27.below hb28 rb27.lt
              have rc28 := src_keep rc27 hb28
              have rd28 := ho28.rd
              have hS28 := below_trans hS27 hb28
              go_simp
              refine hK.out _ _ hS28 ?_
              clear hK K
              try simp only [Act.put, List.setIfInBounds_toArray, List.set_cons_zero, List.set_cons_succ]
              generalize hva : (⟨Z25.heap.size, 0, none⟩ : Addr) = ad
              refine alone 11 rfl (by kernel_rfl) (by rfl) ?_
              intro K hK
              refine wp_run _ (run_string_op 36 9 5 _ rfl rfl Try.underlying36 Try.underlying5 Try.underlying9 rd28) ?_
              refine hK.out _ _ hS28 ?_
              clear hK K
              try simp only [Act.put, List.setIfInBounds_toArray, List.set_cons_zero, List.set_cons_succ]
              exact REST ad A1 c1 A2 c2 A3 c3 Z28 hS28
            · skip
              intro K hK
              go_simp
              have hx30 := hS25.alloc (hBs _ hS25) (.cells #[.int .u32 (s0 : Nat)] 22)
              have hb30 := below_alloc (Below.refl _ Z25) (.cells #[.int .u32 (s0 : Nat)] 22)
              refine hK.out _ _ hx30 ?_
              clear hK K
              try simp only [Act.put, List.setIfInBounds_toArray, List.set_cons_zero, List.set_cons_succ]
              refine cut_any (fun Y => Below Z25.heap.size Z25 Y ∧ Whole Y Z25.heap.size 22 #[.int .u32 (s0 : Nat)]) ⟨hb30, Whole.new _ _ _⟩ ?_
              clear hx30 hb30
              rintro Z30 ⟨hb30, rb30⟩
              have ra30 := ra25.below hb30 (Nat.le_refl _)
              have rc30 := src_keep rc25 hb30
              have hS30 := below_trans hS25 hb30
              generalize hva : (⟨Z25.heap.size, 0, none⟩ : Addr) = ad
              refine ready_two 4 10 rfl rfl (by kernel_rfl) (by rfl) (by rfl) ?_ ?_
              · skip
                intro K hK
                refine wp_run _ (run_string_op 36 9 5 _ rfl rfl Try.underlying36 Try.underlying5 Try.underlying9 ra30) ?_
                refine hK.out _ _ hS30 ?_
                clear hK K
                try simp only [Act.put, List.setIfInBounds_toArray, List.set_cons_zero, List.set_cons_succ]
                refine alone 10 rfl (by kernel_rfl) (by rfl) ?_
                intro K hK
                go_simp
                subst hva
                refine (RW0.out _ A2 c2 _ rb30.lt (rb30.cell 0) rc30).mono ?_
                rintro e Z32 ⟨A3, c3, rfl, ho32, hb32⟩
                have rb32 := rb30.below hb32 rb30.lt
                have rc32 := src_keep rc30 hb32
                have rd32 := ho32.rd
                have hS32 := below_trans hS30 hb32
                go_simp
                refine hK.out _ _ hS32 ?_
                clear hK K
                try simp only [Act.put, List.setIfInBounds_toArray, List.set_cons_zero, List.set_cons_succ]
                generalize hva : (⟨Z25.heap.size, 0, none⟩ : Addr) = ad
                refine alone 11 rfl (by kernel_rfl) (by rfl) ?_
                intro K hK
                refine wp_run _ (run_string_op 36 9 5 _ rfl rfl Try.underlying36 Try.underlying5 Try.underlying9 rd32) ?_
                refine hK.out _ _ hS32 ?_
                clear hK K
                try simp only [Act.put, List.setIfInBounds_toArray, List.set_cons_zero, List.set_cons_succ]
                exact REST ad A1 c1 A2 c2 A3 c3 Z32 hS32
              · skip
                intro K hK
                go_simp
                subst hva
                refine (RW0.out _ A2 c2 _ rb30.lt (rb30.cell 0) rc30).mono ?_
                rintro e Z34 ⟨A3, c3, rfl, ho34, hb34⟩
                have ra34 := ra30.below hb34 (Nat.le_refl _)
                have rb34 := rb30.below hb34 rb30.lt
                have rc34 := src_keep rc30 hb34
                have rd34 := ho34.rd
                have hS34 := below_trans hS30 hb34
                go_simp
                refine hK.out _ _ hS34 ?_
                clear hK K
                try simp only [Act.put, List.setIfInBounds_toArray, List.set_cons_zero, List.set_cons_succ]
                generalize hva : (⟨Z25.heap.size, 0, none⟩ : Addr) = ad
                refine ready_two 4 11 rfl rfl (by kernel_rfl) (by rfl) (by rfl) ?_ ?_
                · skip
                  intro K hK
                  refine wp_run _ (run_string_op 36 9 5 _ rfl rfl Try.underlying36 Try.underlying5 Try.underlying9 ra34) ?_
                  refine hK.out _ _ hS34 ?_
                  clear hK K
                  try simp only [Act.put, List.setIfInBounds_toArray, List.set_cons_zero, List.set_cons_succ]
                  refine alone 11 rfl (by kernel_rfl) (by rfl) ?_
                  intro K hK
                  refine wp_run _ (run_string_op 36 9 5 _ rfl rfl Try.underlying36 Try.underlying5 Try.underlying9 rd34) ?_
                  refine hK.out _ _ hS34 ?_
                  clear hK K
                  try simp only [Act.put, List.setIfInBounds_toArray, List.set_cons_zero, List.set_cons_succ]
                  exact REST ad A1 c1 A2 c2 A3 c3 Z34 hS34
                · skip
                  intro K hK
                  refine wp_run _ (run_string_op 36 9 5 _ rfl rfl Try.underlying36 Try.underlying5 Try.underlying9 rd34) ?_
                  refine hK.out _ _ hS34 ?_
                  clear hK K
                  try simp only [Act.put, List.setIfInBounds_toArray, List.set_cons_zero, List.set_cons_succ]
                  refine alone 4 rfl (by kernel_rfl) (by rfl) ?_
                  intro K hK
                  refine wp_run _ (run_string_op 36 9 5 _ rfl rfl Try.underlying36 Try.underlying5 Try.underlying9 ra34) ?_
                  refine hK.out _ _ hS34 ?_
                  clear hK K
                  try simp only [Act.put, List.setIfInBounds_toArray, List.set_cons_zero, List.set_cons_succ]
                  exact REST ad A1 c1 A2 c2 A3 c3 Z34 hS34
        · skip
          intro K hK
          go_simp
          have hx39 := hS.alloc (hBs _ hS) (.cells #[.int .u32 (s0 : Nat)] 22)
          have hb39 := below_alloc (Below.refl _ v1) (.cells #[.int .u32 (s0 : Nat)] 22)
          refine hK.out _ _ hx39 ?_
          clear hK K
          try simp only [Act.put, List.setIfInBounds_toArray, List.set_cons_zero, List.set_cons_succ]
          refine cut_any (fun Y => Below v1.heap.size v1 Y ∧ Whole Y v1.heap.size 22 #[.int .u32 (s0 : Nat)]) ⟨hb39, Whole.new _ _ _⟩ ?_
          clear hx39 hb39
          rintro Z39 ⟨hb39, rb39⟩
          have hS39 := below_trans hS hb39
          generalize hva : (⟨v1.heap.size, 0, none⟩ : Addr) = ad
          refine alone 3 rfl (by kernel_rfl) (by rfl) ?_
          intro K hK
          go_simp
          refine (CW0.out _).mono ?_
          rintro e Z40 ⟨A1, c1, rfl, ho40, hb40⟩
          have rb40 := rb39.below hb40 rb39.lt
          have ra40 := ho40.rd
          have hS40 := below_trans hS39 hb40
          go_simp
          refine hK.out _ _ hS40 ?_
          clear hK K
          try simp only [Act.put, List.setIfInBounds_toArray, List.set_cons_zero, List.set_cons_succ]
          refine ready_two 4 9 rfl rfl (by kernel_rfl) (by rfl) (by rfl) ?_ ?_
          · skip
            intro K hK
            refine wp_run _ (run_string_op 36 9 5 _ rfl rfl Try.underlying36 Try.underlying5 Try.underlying9 ra40) ?_
            refine hK.out _ _ hS40 ?_
            clear hK K
            try simp only [Act.put, List.setIfInBounds_toArray, List.set_cons_zero, List.set_cons_succ]
            refine alone 9 rfl (by kernel_rfl) (by rfl) ?_
            intro K hK
            go_simp
            refine (RH0.out _).mono ?_
            rintro e Z42 ⟨A2, c2, rfl, ho42, hb42⟩
            have rb42 := rb40.below hb42 rb40.lt
            have rc42 := src_own ho42
            have hS42 := below_trans hS40 hb42
            go_simp
            refine hK.out _ _ hS42 ?_
            clear hK K
            try simp only [Act.put, List.setIfInBounds_toArray, List.set_cons_zero, List.set_cons_succ]
            refine alone 10 rfl (by kernel_rfl) (by rfl) ?_
            intro K hK
            go_simp
            subst hva
            refine (RW0.out _ A2 c2 _ rb42.lt (rb42.cell 0) rc42).mono ?_
            rintro e Z43 ⟨A3, c3, rfl, ho43, hb43⟩
            have rb43 := rb42.below hb43 rb42.lt
            have rc43 := src_keep rc42 hb43
            have rd43 := ho43.rd
            have hS43 := below_trans hS42 hb43
            go_simp
            refine hK.out _ _ hS43 ?_
            clear hK K
            try simp only [Act.put, List.setIfInBounds_toArray, List.set_cons_zero, List.set_cons_succ]
            generalize hva : (⟨v1.heap.size, 0, none⟩ : Addr) = ad
            refine alone 11 rfl (by kernel_rfl) (by rfl) ?_
            intro K hK
            refine wp_run _ (run_string_op 36 9 5 _ rfl rfl Try.underlying36 Try.underlying5 Try.underlying9 rd43) ?_
            refine hK.out _ _ hS43 ?_
            clear hK K
            try simp only [Act.put, List.setIfInBounds_toArray, List.set_cons_zero, List.set_cons_succ]
            exact REST ad A1 c1 A2 c2 A3 c3 Z43 hS43
          · skip
            intro K hK
            go_simp
            refine (RH0.out _).mono ?_
            rintro e Z45 ⟨A2, c2, rfl, ho45, hb45⟩
            have ra45 := ra40.below hb45 (Nat.le_refl _)
            have rb45 := rb40.below hb45 rb40.lt
            have rc45 := src_own ho45
            have hS45 := below_trans hS40 hb45
            go_simp
            refine hK.out _ _ hS45 ?_
            clear hK K
            try simp only [Act.put, List.setIfInBounds_toArray, List.set_cons_zero, List.set_cons_succ]
            refine ready_two 4 10 rfl rfl (by kernel_rfl) (by rfl) (by rfl) ?_ ?_
            · skip
              intro K hK
              refine wp_run _ (run_string_op 36 9 5 _ rfl rfl Try.underlying36 Try.underlying5 Try.underlying9 ra45) ?_
              refine hK.out _ _ hS45 ?_
              clear hK K
              try simp only [Act.put, List.setIfInBounds_toArray, List.set_cons_zero, List.set_cons_succ]
              refine alone 10 rfl (by kernel_rfl) (by rfl) ?_
              intro K hK
              go_simp
              subst hva
              refine (RW0.out _ A2 c2 _ rb45.lt (rb45.cell 0) rc45).mono ?_
              rintro e Z47 ⟨A3, c3, rfl, ho47, hb47⟩
              have rb47 := rb45.below hb47 rb45.lt
              have rc47 := src_keep rc45 hb47
              have rd47 := ho47.rd
              have hS47 := below_trans hS45 hb47
              go_simp
              refine hK.out _ _ hS47 ?_
              clear hK K
              try simp only [Act.put, List.setIfInBounds_toArray, List.set_cons_zero, List.set_cons_succ]
              generalize hva : (⟨v1.heap.size, 0, none⟩ : Addr) = ad
              refine alone 11 rfl (by kernel_rfl) (by rfl) ?_
              intro K hK
              refine wp_run _ (run_string_op 36 9 5 _ rfl rfl Try.underlying36 Try.underlying5 Try.underlying9 rd47) ?_
              refine hK.out _ _ hS47 ?_
              clear hK K
              try simp only [Act.put, List.setIfInBounds_toArray, List.set_cons_zero, List.set_cons_succ]
              exact REST ad A1 c1 A2 c2 A3 c3 Z47 hS47
            · skip
              intro K hK
              go_simp
              subst hva
              refine (RW0.out _ A2 c2 _ rb45.lt (rb45.cell 0) rc45).mono ?_
              rintro e Z49 ⟨A3, c3, rfl, ho49, hb49⟩
              have ra49 := ra45.below hb49 (Nat.le_refl _)
              have rb49 := rb45.below hb49 rb45.lt
              have rc49 := src_keep rc45 hb49
              have rd49 := ho49.rd
              have hS49 := below_trans hS45 hb49
              go_simp
              refine hK.out _ _ hS49 ?_
              clear hK K
              try simp only [Act.put, List.setIfInBounds_toArray, List.set_cons_zero, List.set_cons_succ]
              generalize hva : (⟨v1.heap.size, 0, none⟩ : Addr) = ad
              refine ready_two 4 11 rfl rfl (by kernel_rfl) (by rfl) (by rfl) ?_ ?_
              · skip
                intro K hK
                refine wp_run _ (run_string_op 36 9 5 _ rfl rfl Try.underlying36 Try.underlying5 Try.underlying9 ra49) ?_
                refine hK.out _ _ hS49 ?_
                clear hK K
                try simp only [Act.put, List.setIfInBounds_toArray, List.set_cons_zero, List.set_cons_succ]
                refine alone 11 rfl (by kernel_rfl) (by rfl) ?_
                intro K hK
                refine wp_run _ (run_string_op 36 9 5 _ rfl rfl Try.underlying36 Try.underlying5 Try.underlying9 rd49) ?_
                refine hK.out _ _ hS49 ?_
                clear hK K
                try simp only [Act.put, List.setIfInBounds_toArray, List.set_cons_zero, List.set_cons_succ]
                exact REST ad A1 c1 A2 c2 A3 c3 Z49 hS49
              · skip
                intro K hK
                refine wp_run _ (run_string_op 36 9 5 _ rfl rfl Try.underlying36 Try.underlying5 Try.underlying9 rd49) ?_
                refine hK.out _ _ hS49 ?_
                clear hK K
                try simp only [Act.put, List.setIfInBounds_toArray, List.set_cons_zero, List.set_cons_succ]
                refine alone 4 rfl (by kernel_rfl) (by rfl) ?_
                intro K hK
                refine wp_run _ (run_string_op 36 9 5 _ rfl rfl Try.underlying36 Try.underlying5 Try.underlying9 ra49) ?_
                refine hK.out _ _ hS49 ?_
                clear hK K
                try simp only [Act.put, List.setIfInBounds_toArray, List.set_cons_zero, List.set_cons_succ]
                exact REST ad A1 c1 A2 c2 A3 c3 Z49 hS49
      case rest =>
        intro ad A1 c1 A2 c2 A3 c3 Z hS
        refine take 12 _ rfl (by kernel_rfl) (by kernel_rfl) (by kernel_rfl) (fun _ _ _ h => h) (by rfl) hS (by intro w _; go_simp; with_reducible rfl) ?_
        try simp only [Act.put, List.setIfInBounds_toArray, List.set_cons_zero, List.set_cons_succ]
        refine take 13 _ rfl (by kernel_rfl) (by kernel_rfl) (by kernel_rfl) (fun _ _ _ h => h) (by rfl) hS (by intro w _; go_simp; with_reducible rfl) ?_
        try simp only [Act.put, List.setIfInBounds_toArray, List.set_cons_zero, List.set_cons_succ]
        refine take 14 _ rfl (by kernel_rfl) (by kernel_rfl) (by kernel_rfl) (fun _ _ _ h => h) (by rfl) hS (by intro w _; go_simp; with_reducible rfl) ?_
        try simp only [Act.put, List.setIfInBounds_toArray, List.set_cons_zero, List.set_cons_succ]
        refine take 15 _ rfl (by kernel_rfl) (by kernel_rfl) (by kernel_rfl) (fun _ _ _ h => h) (by rfl) hS (fun w hw => run_load_op 31 (.tmp 5) rfl (B1) rfl (F1.out.below hw F1.out.lt) rfl rfl (by rw [H1Z.out]; kernel_rfl)) ?_
        try simp only [Act.put, List.setIfInBounds_toArray, List.set_cons_zero, List.set_cons_succ]
        refine take 18 _ rfl (by kernel_rfl) (by kernel_rfl) (by kernel_rfl) (fun _ _ _ h => h) (by rfl) hS (by intro w _; go_simp; with_reducible rfl) ?_
        try simp only [Act.put, List.setIfInBounds_toArray, List.set_cons_zero, List.set_cons_succ]
        refine take 19 _ rfl (by kernel_rfl) (by kernel_rfl) (by kernel_rfl) (fun _ _ _ h => h) (by rfl) hS (by intro w hw; have hcl := ((F1.out.below hw F1.out.lt).cell 0).trans HC10.out; go_simp; with_reducible rfl) ?_
        try simp only [Act.put, List.setIfInBounds_toArray, List.set_cons_zero, List.set_cons_succ]
        refine take 20 _ rfl (by kernel_rfl) (by kernel_rfl) (by kernel_rfl) (fun _ _ _ h => h) (by rfl) hS (by intro w _; go_simp; with_reducible rfl) ?_
        try simp only [Act.put, List.setIfInBounds_toArray, List.set_cons_zero, List.set_cons_succ]
        refine take 21 _ rfl (by kernel_rfl) (by kernel_rfl) (by kernel_rfl) (fun _ _ _ h => h) (by rfl) hS (by intro w hw; have hcl := ((F1.out.below hw F1.out.lt).cell 1).trans HC11.out; go_simp; with_reducible rfl) ?_
        try simp only [Act.put, List.setIfInBounds_toArray, List.set_cons_zero, List.set_cons_succ]
        refine take 23 _ rfl (by kernel_rfl) (by kernel_rfl) (by kernel_rfl) (fun _ _ _ h => h) (by rfl) hS (fun w hw => run_load_op 31 (.tmp 5) rfl (B1) rfl (F1.out.below hw F1.out.lt) rfl rfl (by rw [H1Z.out]; kernel_rfl)) ?_
        try simp only [Act.put, List.setIfInBounds_toArray, List.set_cons_zero, List.set_cons_succ]
        apply share7 (Φ := fun X => Below X7.heap.size X7 X)
        case lead =>
          intro REST
          refine ready_two 16 22 rfl rfl (by kernel_rfl) (by rfl) (by rfl) ?_ ?_
          · skip
            intro K hK
            go_simp
            refine (CW1.out _).mono ?_
            rintro e Z1 ⟨A1, c1, rfl, ho1, hb1⟩
            have ra1 := ho1.rd
            have hS1 := below_trans hS hb1
            go_simp
            refine hK.out _ _ hS1 ?_
            clear hK K
            try simp only [Act.put, List.setIfInBounds_toArray, List.set_cons_zero, List.set_cons_succ]
            refine ready_three 17 22 24 rfl rfl rfl (by kernel_rfl) (by rfl) (by rfl) (by rfl) ?_ ?_ ?_
            · skip
              intro K hK
              refine wp_run _ (run_string_op 36 9 5 _ rfl rfl Try.underlying36 Try.underlying5 Try.underlying9 ra1) ?_
              refine hK.out _ _ hS1 ?_
              clear hK K
              try simp only [Act.put, List.setIfInBounds_toArray, List.set_cons_zero, List.set_cons_succ]
              refine ready_two 22 24 rfl rfl (by kernel_rfl) (by rfl) (by rfl) ?_ ?_
              · skip
                intro K hK
                go_simp
                have hx3 := hS1.alloc (hBs _ hS1) (.cells #[.int .u32 (s1 : Nat), .int .u32 (r1 : Nat)] 22)
                have hb3 := below_alloc (Below.refl _ Z1) (.cells #[.int .u32 (s1 : Nat), .int .u32 (r1 : Nat)] 22)
                refine hK.out _ _ hx3 ?_
                clear hK K
                try simp only [Act.put, List.setIfInBounds_toArray, List.set_cons_zero, List.set_cons_succ]
                refine cut_any (fun Y => Below Z1.heap.size Z1 Y ∧ Whole Y Z1.heap.size 22 #[.int .u32 (s1 : Nat), .int .u32 (r1 : Nat)]) ⟨hb3, Whole.new _ _ _⟩ ?_
                clear hx3 hb3
                rintro Z3 ⟨hb3, rb3⟩
                have hS3 := below_trans hS1 hb3
                generalize hva : (⟨Z1.heap.size, 0, none⟩ : Addr) = ad
                refine alone 24 rfl (by kernel_rfl) (by rfl) ?_
                intro K hK
                go_simp
                refine (RH1.out _).mono ?_
                rintro e Z4 ⟨A2, c2, rfl, ho4, hb4⟩
                have rb4 := rb3.below hb4 rb3.lt
                have rc4 := src_own ho4
                have hS4 := below_trans hS3 hb4
                go_simp
                refine hK.out _ _ hS4 ?_
                clear hK K
                try simp only [Act.put, List.setIfInBounds_toArray, List.set_cons_zero, List.set_cons_succ]
                refine alone 25 rfl (by kernel_rfl) (by rfl) ?_
                intro K hK
                go_simp
                subst hva
                refine (RW1.out _ A2 c2 _ rb4.lt (rb4.cell 0) (rb4.cell 1) rc4).mono ?_
                rintro e Z5 ⟨A3, c3, rfl, ho5, hb5⟩
                have rb5 := rb4.below hb5 rb4.lt
                have rc5 := src_keep rc4 hb5
                have rd5 := ho5.rd
                have hS5 := below_trans hS4 hb5
                go_simp
                refine hK.out _ _ hS5 ?_
                clear hK K
                try simp only [Act.put, List.setIfInBounds_toArray, List.set_cons_zero, List.set_cons_succ]
                generalize hva : (⟨Z1.heap.size, 0, none⟩ : Addr) = ad
                refine alone 26 rfl (by kernel_rfl) (by rfl) ?_
                intro K hK
                refine wp_run _ (run_string_op 36 9 5 _ rfl rfl Try.underlying36 Try.underlying5 Try.underlying9 rd5) ?_
                refine hK.out _ _ hS5 ?_
                clear hK K
                try simp only [Act.put, List.setIfInBounds_toArray, List.set_cons_zero, List.set_cons_succ]
                exact REST ad A1 c1 A2 c2 A3 c3 Z5 hS5
              · skip
                intro K hK
                go_simp
                refine (RH1.out _).mono ?_
                rintro e Z7 ⟨A2, c2, rfl, ho7, hb7⟩
                have rc7 := src_own ho7
                have hS7 := below_trans hS1 hb7
                go_simp
                refine hK.out _ _ hS7 ?_
                clear hK K
                try simp only [Act.put, List.setIfInBounds_toArray, List.set_cons_zero, List.set_cons_succ]
                refine alone 22 rfl (by kernel_rfl) (by rfl) ?_
                intro K hK
                go_simp
                have hx8 := hS7.alloc (hBs _ hS7) (.cells #[.int .u32 (s1 : Nat), .int .u32 (r1 : Nat)] 22)
                have hb8 := below_alloc (Below.refl _ Z7) (.cells #[.int .u32 (s1 : Nat), .int .u32 (r1 : Nat)] 22)
                refine hK.out _ _ hx8 ?_
                clear hK K
                try simp only [Act.put, List.setIfInBounds_toArray, List.set_cons_zero, List.set_cons_succ]
                refine cut_any (fun Y => Below Z7.heap.size Z7 Y ∧ Whole Y Z7.heap.size 22 #[.int .u32 (s1 : Nat), .int .u32 (r1 : Nat)]) ⟨hb8, Whole.new _ _ _⟩ ?_
                clear hx8 hb8
                rintro Z8 ⟨hb8, rb8⟩
                have rc8 := src_keep rc7 hb8
                have hS8 := below_trans hS7 hb8
                generalize hva : (⟨Z7.heap.size, 0, none⟩ : Addr) = ad
                refine alone 25 rfl (by kernel_rfl) (by rfl) ?_
                intro K hK
                go_simp
                subst hva
                refine (RW1.out _ A2 c2 _ rb8.lt (rb8.cell 0) (rb8.cell 1) rc8).mono ?_
                rintro e Z9 ⟨A3, c3, rfl, ho9, hb9⟩
                have rb9 := rb8.below hb9 rb8.lt
                have rc9 := src_keep rc8 hb9
                have rd9 := ho9.rd
                have hS9 := below_trans hS8 hb9
                go_simp
                refine hK.out _ _ hS9 ?_
                clear hK K
                try simp only [Act.put, List.setIfInBounds_toArray, List.set_cons_zero, List.set_cons_succ]
                generalize hva : (⟨Z7.heap.size, 0, none⟩ : Addr) = ad
                refine alone 26 rfl (by kernel_rfl) (by rfl) ?_
                intro K hK
                refine wp_run _ (run_string_op 36 9 5 _ rfl rfl Try.underlying36 Try.underlying5 Try.underlying9 rd9) ?_
                refine hK.out _ _ hS9 ?_
                clear hK K
                try simp only [Act.put, List.setIfInBounds_toArray, List.set_cons_zero, List.set_cons_succ]
                exact REST ad A1 c1 A2 c2 A3 c3 Z9 hS9
            · skip
              intro K hK
              go_simp
              have hx11 := hS1.alloc (hBs _ hS1) (.cells #[.int .u32 (s1 : Nat), .int .u32 (r1 : Nat)] 22)
              have hb11 := below_alloc (Below.refl _ Z1) (.cells #[.int .u32 (s1 : Nat), .int .u32 (r1 : Nat)] 22)
              refine hK.out _ _ hx11 ?_
              clear hK K
              try simp only [Act.put, List.setIfInBounds_toArray, List.set_cons_zero, List.set_cons_succ]
              refine cut_any (fun Y => Below Z1.heap.size Z1 Y ∧ Whole Y Z1.heap.size 22 #[.int .u32 (s1 : Nat), .int .u32 (r1 : Nat)]) ⟨hb11, Whole.new _ _ _⟩ ?_
              clear hx11 hb11
              rintro Z11 ⟨hb11, rb11⟩
              have ra11 := ra1.below hb11 (Nat.le_refl _)
              have hS11 := below_trans hS1 hb11
              generalize hva : (⟨Z1.heap.size, 0, none⟩ : Addr) = ad
              refine ready_two 17 24 rfl rfl (by kernel_rfl) (by rfl) (by rfl) ?_ ?_
              · skip
                intro K hK
                refine wp_run _ (run_string_op 36 9 5 _ rfl rfl Try.underlying36 Try.underlying5 Try.underlying9 ra11) ?_
                refine hK.out _ _ hS11 ?_
                clear hK K
                try simp only [Act.put, List.setIfInBounds_toArray, List.set_cons_zero, List.set_cons_succ]
                refine alone 24 rfl (by kernel_rfl) (by rfl) ?_
                intro K hK
                go_simp
                refine (RH1.out _).mono ?_
                rintro e Z13 ⟨A2, c2, rfl, ho13, hb13⟩
                have rb13 := rb11.below hb13 rb11.lt
                have rc13 := src_own ho13
                have hS13 := below_trans hS11 hb13
                go_simp
                refine hK.out _ _ hS13 ?_
                clear hK K
                try simp only [Act.put, List.setIfInBounds_toArray, List.set_cons_zero, List.set_cons_succ]
                refine alone 25 rfl (by kernel_rfl) (by rfl) ?_
                intro K hK
                go_simp
                subst hva
                refine (RW1.out _ A2 c2 _ rb13.lt (rb13.cell 0) (rb13.cell 1) rc13).mono ?_
                rintro e Z14 ⟨A3, c3, rfl, ho14, hb14⟩
                have rb14 := rb13.below hb14 rb13.lt
                have rc14 := src_keep rc13 hb14
                have rd14 := ho14.rd
                have hS14 := below_trans hS13 hb14
                go_simp
                refine hK.out _ _ hS14 ?_
                clear hK K
                try simp only [Act.put, List.setIfInBounds_toArray, List.set_cons_zero, List.set_cons_succ]
                generalize hva : (⟨Z1.heap.size, 0, none⟩ : Addr) = ad
                refine alone 26 rfl (by kernel_rfl) (by rfl) ?_
                intro K hK
                refine wp_run _ (run_string_op 36 9 5 _ rfl rfl Try.underlying36 Try.underlying5 Try.underlying9 rd14) ?_
                refine hK.out _ _ hS14 ?_
                clear hK K
                try simp only [Act.put, List.setIfInBounds_toArray, List.set_cons_zero, List.set_cons_succ]
                exact REST ad A1 c1 A2 c2 A3 c3 Z14 hS14
              · skip
                intro K hK
                go_simp
                refine (RH1.out _).mono ?_
                rintro e Z16 ⟨A2, c2, rfl, ho16, hb16⟩
                have ra16 := ra11.below hb16 (Nat.le_refl _)
                have rb16 := rb11.below hb16 rb11.lt
                have rc16 := src_own ho16
                have hS16 := below_trans hS11 hb16
                go_simp
                refine hK.out _ _ hS16 ?_
                clear hK K
                try simp only [Act.put, List.setIfInBounds_toArray, List.set_cons_zero, List.set_cons_succ]
                refine ready_two 17 25 rfl rfl (by kernel_rfl) (by rfl) (by rfl) ?_ ?_
                · skip
                  intro K hK
                  refine wp_run _ (run_string_op 36 9 5 _ rfl rfl Try.underlying36 Try.underlying5 Try.underlying9 ra16) ?_
                  refine hK.out _ _ hS16 ?_
                  clear hK K
                  try simp only [Act.put, List.setIfInBounds_toArray, List.set_cons_zero, List.set_cons_succ]
                  refine alone 25 rfl (by kernel_rfl) (by rfl) ?_
                  intro K hK
                  go_simp
                  subst hva
                  refine (RW1.out _ A2 c2 _ rb16.lt (rb16.cell 0) (rb16.cell 1) rc16).mono ?_
                  rintro e Z18 ⟨A3, c3, rfl, ho18, hb18⟩
                  have rb18 := rb16.below hb18 rb16.lt
                  have rc18 := src_keep rc16 hb18
                  have rd18 := ho18.rd
                  have hS18 := below_trans hS16 hb18
                  go_simp
                  refine hK.out _ _ hS18 ?_
                  clear hK K
                  try simp only [Act.put, List.setIfInBounds_toArray, List.set_cons_zero, List.set_cons_succ]
                  generalize hva : (⟨Z1.heap.size, 0, none⟩ : Addr) = ad
                  refine alone 26 rfl (by kernel_rfl) (by rfl) ?_
                  intro K hK
                  refine wp_run _ (run_string_op 36 9 5 _ rfl rfl Try.underlying36 Try.underlying5 Try.underlying9 rd18) ?_
                  refine hK.out _ _ hS18 ?_
                  clear hK K
                  try simp only [Act.put, List.setIfInBounds_toArray, List.set_cons_zero, List.set_cons_succ]
                  exact REST ad A1 c1 A2 c2 A3 c3 Z18 hS18
                · skip
                  intro K hK
                  go_simp
                  subst hva
                  refine (RW1.out _ A2 c2 _ rb16.lt (rb16.cell 0) (rb16.cell 1) rc16).mono ?_
                  rintro e Z20 ⟨A3, c3, rfl, ho20, hb20⟩
                  have ra20 := ra16.below hb20 (Nat.le_refl _)
                  have rb20 := rb16.below hb20 rb16.lt
                  have rc20 := src_keep rc16 hb20
                  have rd20 := ho20.rd
                  have hS20 := below_trans hS16 hb20
                  go_simp
                  refine hK.out _ _ hS20 ?_
                  clear hK K
                  try simp only [Act.put, List.setIfInBounds_toArray, List.set_cons_zero, List.set_cons_succ]
                  generalize hva : (⟨Z1.heap.size, 0, none⟩ : Addr) = ad
                  refine ready_two 17 26 rfl rfl (by kernel_rfl) (by rfl) (by rfl) ?_ ?_
                  · skip
                    intro K hK
                    refine wp_run _ (run_string_op 36 9 5 _ rfl rfl Try.underlying36 Try.underlying5 Try.underlying9 ra20) ?_
                    refine hK.out _ _ hS20 ?_
                    clear hK K
                    try simp only [Act.put, List.setIfInBounds_toArray, List.set_cons_zero, List.set_cons_succ]
                    refine alone 26 rfl (by kernel_rfl) (by rfl) ?_
                    intro K hK
                    refine wp_run _ (run_string_op 36 9 5 _ rfl rfl Try.underlying36 Try.underlying5 Try.underlying9 rd20) ?_
                    refine hK.out _ _ hS20 ?_
                    clear hK K
                    try simp only [Act.put, List.setIfInBounds_toArray, List.set_cons_zero, List.set_cons_succ]
                    exact REST ad A1 c1 A2 c2 A3 c3 Z20 hS20
                  · skip
                    intro K hK
                    refine wp_run _ (run_string_op 36 9 5 _ rfl rfl Try.underlying36 Try.underlying5 Try.underlying9 rd20) ?_
                    refine hK.out _ _ hS20 ?_
                    clear hK K
                    try simp only [Act.put, List.setIfInBounds_toArray, List.set_cons_zero, List.set_cons_succ]
                    refine alone 17 rfl (by kernel_rfl) (by rfl) ?_
                    intro K hK
                    refine wp_run _ (run_string_op 36 9 5 _ rfl rfl Try.underlying36 Try.underlying5 Try.underlying9 ra20) ?_
                    refine hK.out _ _ hS20 ?_
                    clear hK K
                    try simp only [Act.put, List.setIfInBounds_toArray, List.set_cons_zero, List.set_cons_succ]
                    exact REST ad A1 c1 A2 c2 A3 c3 Z20 hS20
            · skip
              intro K hK
              go_simp
              refine (RH1.out _).mono ?_
              rintro e Z25 ⟨A2, c2, rfl, ho25, hb25⟩
              have ra25 := ra1.below hb25 (Nat.le_refl _)
              have rc25 := src_own ho25
              have hS25 := below_trans hS1 hb25
              go_simp
              refine hK.out _ _ hS25 ?_
              clear hK K
              try simp only [Act.put, List.setIfInBounds_toArray, List.set_cons_zero, List.set_cons_succ]
              refine ready_two 17 22 rfl rfl (by kernel_rfl) (by rfl) (by rfl) ?_ ?_
              · skip
                intro K hK
                refine wp_run _ (run_string_op 36 9 5 _ rfl rfl Try.underlying36 Try.underlying5 Try.underlying9 ra25) ?_
                refine hK.out _ _ hS25 ?_
                clear hK K
                try simp only [Act.put, List.setIfInBounds_toArray, List.set_cons_zero, List.set_cons_succ]
                refine alone 22 rfl (by kernel_rfl) (by rfl) ?_
                intro K hK
                go_simp
                have hx27 := hS25.alloc (hBs _ hS25) (.cells #[.int .u32 (s1 : Nat), .int .u32 (r1 : Nat)] 22)
                have hb27 := below_alloc (Below.refl _ Z25) (.cells #[.int .u32 (s1 : Nat), .int .u32 (r1 : Nat)] 22)
                refine hK.out _ _ hx27 ?_
                clear hK K
                try simp only [Act.put, List.setIfInBounds_toArray, List.set_cons_zero, List.set_cons_succ]
                refine cut_any (fun Y => Below Z25.heap.size Z25 Y ∧ Whole Y Z25.heap.size 22 #[.int .u32 (s1 : Nat), .int .u32 (r1 : Nat)]) ⟨hb27, Whole.new _ _ _⟩ ?_
                clear hx27 hb27
                rintro Z27 ⟨hb27, rb27⟩
                have rc27 := src_keep rc25 hb27
                have hS27 := below_trans hS25 hb27
                generalize hva : (⟨Z25.heap.size, 0, none⟩ : Addr) = ad
                refine alone 25 rfl (by kernel_rfl) (by rfl) ?_
                intro K hK
                go_simp
                subst hva
                refine (RW1.out _ A2 c2 _ rb27.lt (rb27.cell 0) (rb27.cell 1) rc27).mono ?_
                rintro e Z28 ⟨A3, c3, rfl, ho28, hb28⟩
                have rb28 := rb27.below hb28 rb27.lt
                have rc28 := src_keep rc27 hb28
                have rd28 := ho28.rd
                have hS28 := below_trans hS27 hb28
                go_simp
                refine hK.out _ _ hS28 ?_
                clear hK K
                try simp only [Act.put, List.setIfInBounds_toArray, List.set_cons_zero, List.set_cons_succ]
                generalize hva : (⟨Z25.heap.size, 0, none⟩ : Addr) = ad
                refine alone 26 rfl (by kernel_rfl) (by rfl) ?_
                intro K hK
                refine wp_run _ (run_string_op 36 9 5 _ rfl rfl Try.underlying36 Try.underlying5 Try.underlying9 rd28) ?_
                refine hK.out _ _ hS28 ?_
                clear hK K
                try simp only [Act.put, List.setIfInBounds_toArray, List.set_cons_zero, List.set_cons_succ]
                exact REST ad A1 c1 A2 c2 A3 c3 Z28 hS28
              · skip
                intro K hK
                go_simp
                have hx30 := hS25.alloc (hBs _ hS25) (.cells #[.int .u32 (s1 : Nat), .int .u32 (r1 : Nat)] 22)
                have hb30 := below_alloc (Below.refl _ Z25) (.cells #[.int .u32 (s1 : Nat), .int .u32 (r1 : Nat)] 22)
                refine hK.out _ _ hx30 ?_
                clear hK K
                try simp only [Act.put, List.setIfInBounds_toArray, List.set_cons_zero, List.set_cons_succ]
                refine cut_any (fun Y => Below Z25.heap.size Z25 Y ∧ Whole Y Z25.heap.size 22 #[.int .u32 (s1 : Nat), .int .u32 (r1 : Nat)]) ⟨hb30, Whole.new _ _ _⟩ ?_
                clear hx30 hb30
                rintro Z30 ⟨hb30, rb30⟩
                have ra30 := ra25.below hb30 (Nat.le_refl _)
                have rc30 := src_keep rc25 hb30
                have hS30 := below_trans hS25 hb30
                generalize hva : (⟨Z25.heap.size, 0, none⟩ : Addr) = ad
                refine ready_two 17 25 rfl rfl (by kernel_rfl) (by rfl) (by rfl) ?_ ?_
                · skip
                  intro K hK
                  refine wp_run _ (run_string_op 36 9 5 _ rfl rfl Try.underlying36 Try.underlying5 Try.underlying9 ra30) ?_
                  refine hK.out _ _ hS30 ?_
                  clear hK K
                  try simp only [Act.put, List.setIfInBounds_toArray, List.set_cons_zero, List.set_cons_succ]
                  refine alone 25 rfl (by kernel_rfl) (by rfl) ?_
                  intro K hK
                  go_simp
                  subst hva
                  refine (RW1.out _ A2 c2 _ rb30.lt (rb30.cell 0) (rb30.cell 1) rc30).mono ?_
                  rintro e Z32 ⟨A3, c3, rfl, ho32, hb32⟩
                  have rb32 := rb30.below hb32 rb30.lt
                  have rc32 := src_keep rc30 hb32
                  have rd32 := ho32.rd
                  have hS32 := below_trans hS30 hb32
                  go_simp
                  refine hK.out _ _ hS32 ?_
                  clear hK K
                  try simp only [Act.put, List.setIfInBounds_toArray, List.set_cons_zero, List.set_cons_succ]
                  generalize hva : (⟨Z25.heap.size, 0, none⟩ : Addr) = ad
                  refine alone 26 rfl (by kernel_rfl) (by rfl) ?_
                  intro K hK
                  refine wp_run _ (run_string_op 36 9 5 _ rfl rfl Try.underlying36 Try.underlying5 Try.underlying9 rd32) ?_
                  refine hK.out _ _ hS32 ?_
                  clear hK K
                  try simp only [Act.put, List.setIfInBounds_toArray, List.set_cons_zero, List.set_cons_succ]
                  exact REST ad A1 c1 A2 c2 A3 c3 Z32 hS32
                · skip
                  intro K hK
                  go_simp
                  subst hva
                  refine (RW1.out _ A2 c2 _ rb30.lt (rb30.cell 0) (rb30.cell 1) rc30).mono ?_
                  rintro e Z34 ⟨A3, c3, rfl, ho34, hb34⟩
                  have ra34 := ra30.below hb34 (Nat.le_refl _)
                  have rb34 := rb30.below hb34 rb30.lt
                  have rc34 := src_keep rc30 hb34
                  have rd34 := ho34.rd
                  have hS34 := below_trans hS30 hb34
                  go_simp
                  refine hK.out _ _ hS34 ?_
                  clear hK K
                  try simp only [Act.put, List.setIfInBounds_toArray, List.set_cons_zero, List.set_cons_succ]
                  generalize hva : (⟨Z25.heap.size, 0, none⟩ : Addr) = ad
                  refine ready_two 17 26 rfl rfl (by kernel_rfl) (by rfl) (by rfl) ?_ ?_
                  · skip
                    intro K hK
                    refine wp_run _ (run_string_op 36 9 5 _ rfl rfl Try.underlying36 Try.underlying5 Try.underlying9 ra34) ?_
                    refine hK.out _ _ hS34 ?_
                    clear hK K
                    try simp only [Act.put, List.setIfInBounds_toArray, List.set_cons_zero, List.set_cons_succ]
                    refine alone 26 rfl (by kernel_rfl) (by rfl) ?_
                    intro K hK
                    refine wp_run _ (run_string_op 36 9 5 _ rfl rfl Try.underlying36 Try.underlying5 Try.underlying9 rd34) ?_
                    refine hK.out _ _ hS34 ?_
                    clear hK K
                    try simp only [Act.put, List.setIfInBounds_toArray, List.set_cons_zero, List.set_cons_succ]
                    exact REST ad A1 c1 A2 c2 A3 c3 Z34 hS34
                  · skip
                    intro K hK
                    refine wp_run _ (run_string_op 36 9 5 _ rfl rfl Try.underlying36 Try.underlying5 Try.underlying9 rd34) ?_
                    refine hK.out _ _ hS34 ?_
                    clear hK K
                    try simp only [Act.put, List.setIfInBounds_toArray, List.set_cons_zero, List.set_cons_succ]
                    refine alone 17 rfl (by kernel_rfl) (by rfl) ?_
                    intro K hK
                    refine wp_run _ (run_string_op 36 9 5 _ rfl rfl Try.underlying36 Try.underlying5 Try.underlying9 ra34) ?_
                    refine hK.out _ _ hS34 ?_
                    clear hK K
                    try simp only [Act.put, List.setIfInBounds_toArray, List.set_cons_zero, List.set_cons_succ]
                    exact REST ad A1 c1 A2 c2 A3 c3 Z34 hS34
          · skip
            intro K hK
            go_simp
            have hx39 := hS.alloc (hBs _ hS) (.cells #[.int .u32 (s1 : Nat), .int .u32 (r1 : Nat)] 22)
            have hb39 := below_alloc (Below.refl _ Z) (.cells #[.int .u32 (s1 : Nat), .int .u32 (r1 : Nat)] 22)
            refine hK.out _ _ hx39 ?_
            clear hK K
            try simp only [Act.put, List.setIfInBounds_toArray, List.set_cons_zero, List.set_cons_succ]
            refine cut_any (fun Y => Below Z.heap.size Z Y ∧ Whole Y Z.heap.size 22 #[.int .u32 (s1 : Nat), .int .u32 (r1 : Nat)]) ⟨hb39, Whole.new _ _ _⟩ ?_
            clear hx39 hb39
            rintro Z39 ⟨hb39, rb39⟩
            have hS39 := below_trans hS hb39
            generalize hva : (⟨Z.heap.size, 0, none⟩ : Addr) = ad
            refine alone 16 rfl (by kernel_rfl) (by rfl) ?_
            intro K hK
            go_simp
            refine (CW1.out _).mono ?_
            rintro e Z40 ⟨A1, c1, rfl, ho40, hb40⟩
            have rb40 := rb39.below hb40 rb39.lt
            have ra40 := ho40.rd
            have hS40 := below_trans hS39 hb40
            go_simp
            refine hK.out _ _ hS40 ?_
            clear hK K
            try simp only [Act.put, List.setIfInBounds_toArray, List.set_cons_zero, List.set_cons_succ]
            refine ready_two 17 24 rfl rfl (by kernel_rfl) (by rfl) (by rfl) ?_ ?_
            · skip
              intro K hK
              refine wp_run _ (run_string_op 36 9 5 _ rfl rfl Try.underlying36 Try.underlying5 Try.underlying9 ra40) ?_
              refine hK.out _ _ hS40 ?_
              clear hK K
              try simp only [Act.put, List.setIfInBounds_toArray, List.set_cons_zero, List.set_cons_succ]
              refine alone 24 rfl (by kernel_rfl) (by rfl) ?_
              intro K hK
              go_simp
              refine (RH1.out _).mono ?_
              rintro e Z42 ⟨A2, c2, rfl, ho42, hb42⟩
              have rb42 := rb40.below hb42 rb40.lt
              have rc42 := src_own ho42
              have hS42 := below_trans hS40 hb42
              go_simp
              refine hK.out _ _ hS42 ?_
              clear hK K
              try simp only [Act.put, List.setIfInBounds_toArray, List.set_cons_zero, List.set_cons_succ]
              refine alone 25 rfl (by kernel_rfl) (by rfl) ?_
              intro K hK
              go_simp
              subst hva
              refine (RW1.out _ A2 c2 _ rb42.lt (rb42.cell 0) (rb42.cell 1) rc42).mono ?_
              rintro e Z43 ⟨A3, c3, rfl, ho43, hb43⟩
              have rb43 := rb42.below hb43 rb42.lt
              have rc43 := src_keep rc42 hb43
              have rd43 := ho43.rd
              have hS43 := below_trans hS42 hb43
              go_simp
              refine hK.out _ _ hS43 ?_
              clear hK K
              try simp only [Act.put, List.setIfInBounds_toArray, List.set_cons_zero, List.set_cons_succ]
              generalize hva : (⟨Z.heap.size, 0, none⟩ : Addr) = ad
              refine alone 26 rfl (by kernel_rfl) (by rfl) ?_
              intro K hK
              refine wp_run _ (run_string_op 36 9 5 _ rfl rfl Try.underlying36 Try.underlying5 Try.underlying9 rd43) ?_
              refine hK.out _ _ hS43 ?_
              clear hK K
              try simp only [Act.put, List.setIfInBounds_toArray, List.set_cons_zero, List.set_cons_succ]
              exact REST ad A1 c1 A2 c2 A3 c3 Z43 hS43
            · skip
              intro K hK
              go_simp
              refine (RH1.out _).mono ?_
              rintro e Z45 ⟨A2, c2, rfl, ho45, hb45⟩
              have ra45 := ra40.below hb45 (Nat.le_refl _)
              have rb45 := rb40.below hb45 rb40.lt
              have rc45 := src_own ho45
              have hS45 := below_trans hS40 hb45
              go_simp
              refine hK.out _ _ hS45 ?_
              clear hK K
              try simp only [Act.put, List.setIfInBounds_toArray, List.set_cons_zero, List.set_cons_succ]
              refine ready_two 17 25 rfl rfl (by kernel_rfl) (by rfl) (by rfl) ?_ ?_
              · skip
                intro K hK
                refine wp_run _ (run_string_op 36 9 5 _ rfl rfl Try.underlying36 Try.underlying5 Try.underlying9 ra45) ?_
                refine hK.out _ _ hS45 ?_
                clear hK K
                try simp only [Act.put, List.setIfInBounds_toArray, List.set_cons_zero, List.set_cons_succ]
                refine alone 25 rfl (by kernel_rfl) (by rfl) ?_
                intro K hK
                go_simp
                subst hva
                refine (RW1.out _ A2 c2 _ rb45.lt (rb45.cell 0) (rb45.cell 1) rc45).mono ?_
                rintro e Z47 ⟨A3, c3, rfl, ho47, hb47⟩
                have rb47 := rb45.below hb47 rb45.lt
                have rc47 := src_keep rc45 hb47
                have rd47 := ho47.rd
                have hS47 := below_trans hS45 hb47
                go_simp
                refine hK.out _ _ hS47 ?_
                clear hK K
                try simp only [Act.put, List.setIfInBounds_toArray, List.set_cons_zero, List.set_cons_succ]
                generalize hva : (⟨Z.heap.size, 0, none⟩ : Addr) = ad
                refine alone 26 rfl (by kernel_rfl) (by rfl) ?_
                intro K hK
                refine wp_run _ (run_string_op 36 9 5 _ rfl rfl Try.underlying36 Try.underlying5 Try.underlying9 rd47) ?_
                refine hK.out _ _ hS47 ?_
                clear hK K
                try simp only [Act.put, List.setIfInBounds_toArray, List.set_cons_zero, List.set_cons_succ]
                exact REST ad A1 c1 A2 c2 A3 c3 Z47 hS47
              · skip
                intro K hK
                go_simp
                subst hva
                refine (RW1.out _ A2 c2 _ rb45.lt (rb45.cell 0) (rb45.cell 1) rc45).mono ?_
                rintro e Z49 ⟨A3, c3, rfl, ho49, hb49⟩
                have ra49 := ra45.below hb49 (Nat.le_refl _)
                have rb49 := rb45.below hb49 rb45.lt
                have rc49 := src_keep rc45 hb49
                have rd49 := ho49.rd
                have hS49 := below_trans hS45 hb49
                go_simp
                refine hK.out _ _ hS49 ?_
                clear hK K
                try simp only [Act.put, List.setIfInBounds_toArray, List.set_cons_zero, List.set_cons_succ]
                generalize hva : (⟨Z.heap.size, 0, none⟩ : Addr) = ad
                refine ready_two 17 26 rfl rfl (by kernel_rfl) (by rfl) (by rfl) ?_ ?_
                · skip
                  intro K hK
                  refine wp_run _ (run_string_op 36 9 5 _ rfl rfl Try.underlying36 Try.underlying5 Try.underlying9 ra49) ?_
                  refine hK.out _ _ hS49 ?_
                  clear hK K
                  try simp only [Act.put, List.setIfInBounds_toArray, List.set_cons_zero, List.set_cons_succ]
                  refine alone 26 rfl (by kernel_rfl) (by rfl) ?_
                  intro K hK
                  refine wp_run _ (run_string_op 36 9 5 _ rfl rfl Try.underlying36 Try.underlying5 Try.underlying9 rd49) ?_
                  refine hK.out _ _ hS49 ?_
                  clear hK K
                  try simp only [Act.put, List.setIfInBounds_toArray, List.set_cons_zero, List.set_cons_succ]
                  exact REST ad A1 c1 A2 c2 A3 c3 Z49 hS49
                · skip
                  intro K hK
                  refine wp_run _ (run_string_op 36 9 5 _ rfl rfl Try.underlying36 Try.underlying5 Try.underlying9 rd49) ?_
                  refine hK.out _ _ hS49 ?_
                  clear hK K
                  try simp only [Act.put, List.setIfInBounds_toArray, List.set_cons_zero, List.set_cons_succ]
                  refine alone 17 rfl (by kernel_rfl) (by rfl) ?_
                  intro K hK
                  refine wp_run _ (run_string_op 36 9 5 _ rfl rfl Try.underlying36 Try.underlying5 Try.underlying9 ra49) ?_
                  refine hK.out _ _ hS49 ?_
                  clear hK K
                  try simp only [Act.put, List.setIfInBounds_toArray, List.set_cons_zero, List.set_cons_succ]
                  exact REST ad A1 c1 A2 c2 A3 c3 Z49 hS49
        case rest =>
          intro ad A1 c1 A2 c2 A3 c3 Zb hS
          refine take 27 _ rfl (by kernel_rfl) (by kernel_rfl) (by kernel_rfl) (fun _ _ _ h => h) (by rfl) hS (by intro w _; go_simp; with_reducible rfl) ?_
          try simp only [Act.put, List.setIfInBounds_toArray, List.set_cons_zero, List.set_cons_succ]
          refine take 28 _ rfl (by kernel_rfl) (by kernel_rfl) (by kernel_rfl) (fun _ _ _ h => h) (by rfl) hS (by intro w _; go_simp; with_reducible rfl) ?_
          try simp only [Act.put, List.setIfInBounds_toArray, List.set_cons_zero, List.set_cons_succ]
          refine take 29 _ rfl (by kernel_rfl) (by kernel_rfl) (by kernel_rfl) (fun _ _ _ h => h) (by rfl) hS (by intro w _; go_simp; with_reducible rfl) ?_
          try simp only [Act.put, List.setIfInBounds_toArray, List.set_cons_zero, List.set_cons_succ]
          refine take 30 _ rfl (by kernel_rfl) (by kernel_rfl) (by kernel_rfl) (fun _ _ _ h => h) (by rfl) hS (fun w hw => run_load_op 34 (.tmp 6) rfl (B2) rfl (F2.out.below hw F2.out.lt) rfl rfl (by rw [H2Z.out]; kernel_rfl)) ?_
          try simp only [Act.put, List.setIfInBounds_toArray, List.set_cons_zero, List.set_cons_succ]
          refine take 33 _ rfl (by kernel_rfl) (by kernel_rfl) (by kernel_rfl) (fun _ _ _ h => h) (by rfl) hS (by intro w _; go_simp; with_reducible rfl) ?_
          try simp only [Act.put, List.setIfInBounds_toArray, List.set_cons_zero, List.set_cons_succ]
          refine take 34 _ rfl (by kernel_rfl) (by kernel_rfl) (by kernel_rfl) (fun _ _ _ h => h) (by rfl) hS (by intro w hw; have hcl := ((F2.out.below hw F2.out.lt).cell 0).trans HC20.out; go_simp; with_reducible rfl) ?_
          try simp only [Act.put, List.setIfInBounds_toArray, List.set_cons_zero, List.set_cons_succ]
          refine take 36 _ rfl (by kernel_rfl) (by kernel_rfl) (by kernel_rfl) (fun _ _ _ h => h) (by rfl) hS (fun w hw => run_load_op 34 (.tmp 6) rfl (B2) rfl (F2.out.below hw F2.out.lt) rfl rfl (by rw [H2Z.out]; kernel_rfl)) ?_
          try simp only [Act.put, List.setIfInBounds_toArray, List.set_cons_zero, List.set_cons_succ]
          apply share7 (Φ := fun X => Below X7.heap.size X7 X)
          case lead =>
            intro REST
            refine ready_two 31 35 rfl rfl (by kernel_rfl) (by rfl) (by rfl) ?_ ?_
            · skip
              intro K hK
              go_simp
              refine (CW2.out _).mono ?_
              rintro e Z1 ⟨A1, c1, rfl, ho1, hb1⟩
              have ra1 := ho1.rd
              have hS1 := below_trans hS hb1
              go_simp
              refine hK.out _ _ hS1 ?_
              clear hK K
              try simp only [Act.put, List.setIfInBounds_toArray, List.set_cons_zero, List.set_cons_succ]
              refine ready_three 32 35 37 rfl rfl rfl (by kernel_rfl) (by rfl) (by rfl) (by rfl) ?_ ?_ ?_
              · skip
                intro K hK
                refine wp_run _ (run_string_op 36 9 5 _ rfl rfl Try.underlying36 Try.underlying5 Try.underlying9 ra1) ?_
                refine hK.out _ _ hS1 ?_
                clear hK K
                try simp only [Act.put, List.setIfInBounds_toArray, List.set_cons_zero, List.set_cons_succ]
                refine ready_two 35 37 rfl rfl (by kernel_rfl) (by rfl) (by rfl) ?_ ?_
                · skip
                  intro K hK
                  go_simp
                  have hx3 := hS1.alloc (hBs _ hS1) (.cells #[.int .u32 (s2 : Nat)] 22)
                  have hb3 := below_alloc (Below.refl _ Z1) (.cells #[.int .u32 (s2 : Nat)] 22)
                  refine hK.out _ _ hx3 ?_
                  clear hK K
                  try simp only [Act.put, List.setIfInBounds_toArray, List.set_cons_zero, List.set_cons_succ]
                  refine cut_any (fun Y => Below Z1.heap.size Z1 Y ∧ Whole Y Z1.heap.size 22 #[.int .u32 (s2 : Nat)]) ⟨hb3, Whole.new _ _ _⟩ ?_
                  clear hx3 hb3
                  rintro Z3 ⟨hb3, rb3⟩
                  have hS3 := below_trans hS1 hb3
                  generalize hva : (⟨Z1.heap.size, 0, none⟩ : Addr) = ad
                  refine alone 37 rfl (by kernel_rfl) (by rfl) ?_
                  intro K hK
                  go_simp
                  refine (RH2.out _).mono ?_
                  rintro e Z4 ⟨A2, c2, rfl, ho4, hb4⟩
                  have rb4 := rb3.below hb4 rb3.lt
                  have rc4 := src_own ho4
                  have hS4 := below_trans hS3 hb4
                  go_simp
                  refine hK.out _ _ hS4 ?_
                  clear hK K
                  try simp only [Act.put, List.setIfInBounds_toArray, List.set_cons_zero, List.set_cons_succ]
                  refine alone 38 rfl (by kernel_rfl) (by rfl) ?_
                  intro K hK
                  go_simp
                  subst hva
                  refine (RW2.out _ A2 c2 _ rb4.lt (rb4.cell 0) rc4).mono ?_
                  rintro e Z5 ⟨A3, c3, rfl, ho5, hb5⟩
                  have rb5 := rb4.below hb5 rb4.lt
                  have rc5 := src_keep rc4 hb5
                  have rd5 := ho5.rd
                  have hS5 := below_trans hS4 hb5
                  go_simp
                  refine hK.out _ _ hS5 ?_
                  clear hK K
                  try simp only [Act.put, List.setIfInBounds_toArray, List.set_cons_zero, List.set_cons_succ]
                  generalize hva : (⟨Z1.heap.size, 0, none⟩ : Addr) = ad
                  refine alone 39 rfl (by kernel_rfl) (by rfl) ?_
                  intro K hK
                  refine wp_run _ (run_string_op 36 9 5 _ rfl rfl Try.underlying36 Try.underlying5 Try.underlying9 rd5) ?_
                  refine hK.out _ _ hS5 ?_
                  clear hK K
                  try simp only [Act.put, List.setIfInBounds_toArray, List.set_cons_zero, List.set_cons_succ]
                  exact REST ad A1 c1 A2 c2 A3 c3 Z5 hS5
                · skip
                  intro K hK
                  go_simp
                  refine (RH2.out _).mono ?_
                  rintro e Z7 ⟨A2, c2, rfl, ho7, hb7⟩
                  have rc7 := src_own ho7
                  have hS7 := below_trans hS1 hb7
                  go_simp
                  refine hK.out _ _ hS7 ?_
                  clear hK K
                  try simp only [Act.put, List.setIfInBounds_toArray, List.set_cons_zero, List.set_cons_succ]
                  refine alone 35 rfl (by kernel_rfl) (by rfl) ?_
                  intro K hK
                  go_simp
                  have hx8 := hS7.alloc (hBs _ hS7) (.cells #[.int .u32 (s2 : Nat)] 22)
                  have hb8 := below_alloc (Below.refl _ Z7) (.cells #[.int .u32 (s2 : Nat)] 22)
                  refine hK.out _ _ hx8 ?_
                  clear hK K
                  try simp only [Act.put, List.setIfInBounds_toArray, List.set_cons_zero, List.set_cons_succ]
                  refine cut_any (fun Y => Below Z7.heap.size Z7 Y ∧ Whole Y Z7.heap.size 22 #[.int .u32 (s2 : Nat)]) ⟨hb8, Whole.new _ _ _⟩ ?_
                  clear hx8 hb8
                  rintro Z8 ⟨hb8, rb8⟩
                  have rc8 := src_keep rc7 hb8
                  have hS8 := below_trans hS7 hb8
                  generalize hva : (⟨Z7.heap.size, 0, none⟩ : Addr) = ad
                  refine alone 38 rfl (by kernel_rfl) (by rfl) ?_
                  intro K hK
                  go_simp
                  subst hva
                  refine (RW2.out _ A2 c2 _ rb8.lt (rb8.cell 0) rc8).mono ?_
                  rintro e Z9 ⟨A3, c3, rfl, ho9, hb9⟩
                  have rb9 := rb8.below hb9 rb8.lt
                  have rc9 := src_keep rc8 hb9
                  have rd9 := ho9.rd
                  have hS9 := below_trans hS8 hb9
                  go_simp
                  refine hK.out _ _ hS9 ?_
                  clear hK K
                  try simp only [Act.put, List.setIfInBounds_toArray, List.set_cons_zero, List.set_cons_succ]
                  generalize hva : (⟨Z7.heap.size, 0, none⟩ : Addr) = ad
                  refine alone 39 rfl (by kernel_rfl) (by rfl) ?_
                  intro K hK
                  refine wp_run _ (run_string_op 36 9 5 _ rfl rfl Try.underlying36 Try.underlying5 Try.underlying9 rd9) ?_
                  refine hK.out _ _ hS9 ?_
                  clear hK K
                  try simp only [Act.put, List.setIfInBounds_toArray, List.set_cons_zero, List.set_cons_succ]
                  exact REST ad A1 c1 A2 c2 A3 c3 Z9 hS9
              · skip
                intro K hK
                go_simp
                have hx11 := hS1.alloc (hBs _ hS1) (.cells #[.int .u32 (s2 : Nat)] 22)
                have hb11 := below_alloc (Below.refl _ Z1) (.cells #[.int .u32 (s2 : Nat)] 22)
                refine hK.out _ _ hx11 ?_
                clear hK K
                try simp only [Act.put, List.setIfInBounds_toArray, List.set_cons_zero, List.set_cons_succ]
                refine cut_any (fun Y => Below Z1.heap.size Z1 Y ∧ Whole Y Z1.heap.size 22 #[.int .u32 (s2 : Nat)]) ⟨hb11, Whole.new _ _ _⟩ ?_
                clear hx11 hb11
                rintro Z11 ⟨hb11, rb11⟩
                have ra11 := ra1.below hb11 (Nat.le_refl _)
                have hS11 := below_trans hS1 hb11
                generalize hva : (⟨Z1.heap.size, 0, none⟩ : Addr) = ad
                refine ready_two 32 37 rfl rfl (by kernel_rfl) (by rfl) (by rfl) ?_ ?_
                · skip
                  intro K hK
                  refine wp_run _ (run_string_op 36 9 5 _ rfl rfl Try.underlying36 Try.underlying5 Try.underlying9 ra11) ?_
                  refine hK.out _ _ hS11 ?_
                  clear hK K
                  try simp only [Act.put, List.setIfInBounds_toArray, List.set_cons_zero, List.set_cons_succ]
                  refine alone 37 rfl (by kernel_rfl) (by rfl) ?_
                  intro K hK
                  go_simp
                  refine (RH2.out _).mono ?_
                  rintro e Z13 ⟨A2, c2, rfl, ho13, hb13⟩
                  have rb13 := rb11.below hb13 rb11.lt
                  have rc13 := src_own ho13
                  have hS13 := below_trans hS11 hb13
                  go_simp
                  refine hK.out _ _ hS13 ?_
                  clear hK K
                  try simp only [Act.put, List.setIfInBounds_toArray, List.set_cons_zero, List.set_cons_succ]
                  refine alone 38 rfl (by kernel_rfl) (by rfl) ?_
                  intro K hK
                  go_simp
                  subst hva
                  refine (RW2.out _ A2 c2 _ rb13.lt (rb13.cell 0) rc13).mono ?_
                  rintro e Z14 ⟨A3, c3, rfl, ho14, hb14⟩
                  have rb14 := rb13.below hb14 rb13.lt
                  have rc14 := src_keep rc13 hb14
                  have rd14 := ho14.rd
                  have hS14 := below_trans hS13 hb14
                  go_simp
                  refine hK.out _ _ hS14 ?_
                  clear hK K
                  try simp only [Act.put, List.setIfInBounds_toArray, List.set_cons_zero, List.set_cons_succ]
                  generalize hva : (⟨Z1.heap.size, 0, none⟩ : Addr) = ad
                  refine alone 39 rfl (by kernel_rfl) (by rfl) ?_
                  intro K hK
                  refine wp_run _ (run_string_op 36 9 5 _ rfl rfl Try.underlying36 Try.underlying5 Try.underlying9 rd14) ?_
                  refine hK.out _ _ hS14 ?_
                  clear hK K
                  try simp only [Act.put, List.setIfInBounds_toArray, List.set_cons_zero, List.set_cons_succ]
                  exact REST ad A1 c1 A2 c2 A3 c3 Z14 hS14
                · skip
                  intro K hK
                  go_simp
                  refine (RH2.out _).mono ?_
                  rintro e Z16 ⟨A2, c2, rfl, ho16, hb16⟩
                  have ra16 := ra11.below hb16 (Nat.le_refl _)
                  have rb16 := rb11.below hb16 rb11.lt
                  have rc16 := src_own ho16
                  have hS16 := below_trans hS11 hb16
                  go_simp
                  refine hK.out _ _ hS16 ?_
                  clear hK K
                  try simp only [Act.put, List.setIfInBounds_toArray, List.set_cons_zero, List.set_cons_succ]
                  refine ready_two 32 38 rfl rfl (by kernel_rfl) (by rfl) (by rfl) ?_ ?_
                  · skip
                    intro K hK
                    refine wp_run _ (run_string_op 36 9 5 _ rfl rfl Try.underlying36 Try.underlying5 Try.underlying9 ra16) ?_
                    refine hK.out _ _ hS16 ?_
                    clear hK K
                    try simp only [Act.put, List.setIfInBounds_toArray, List.set_cons_zero, List.set_cons_succ]
                    refine alone 38 rfl (by kernel_rfl) (by rfl) ?_
                    intro K hK
                    go_simp
                    subst hva
                    refine (RW2.out _ A2 c2 _ rb16.lt (rb16.cell 0) rc16).mono ?_
                    rintro e Z18 ⟨A3, c3, rfl, ho18, hb18⟩
                    have rb18 := rb16.below hb18 rb16.lt
                    have rc18 := src_keep rc16 hb18
                    have rd18 := ho18.rd
                    have hS18 := below_trans hS16 hb18
                    go_simp
                    refine hK.out _ _ hS18 ?_
                    clear hK K
                    try simp only [Act.put, List.setIfInBounds_toArray, List.set_cons_zero, List.set_cons_succ]
                    generalize hva : (⟨Z1.heap.size, 0, none⟩ : Addr) = ad
                    refine alone 39 rfl (by kernel_rfl) (by rfl) ?_
                    intro K hK
                    refine wp_run _ (run_string_op 36 9 5 _ rfl rfl Try.underlying36 Try.underlying5 Try.underlying9 rd18) ?_
                    refine hK.out _ _ hS18 ?_
                    clear hK K
                    try simp only [Act.put, List.setIfInBounds_toArray, List.set_cons_zero, List.set_cons_succ]
                    exact REST ad A1 c1 A2 c2 A3 c3 Z18 hS18
                  · skip
                    intro K hK
                    go_simp
                    subst hva
                    refine (RW2.out _ A2 c2 _ rb16.lt (rb16.cell 0) rc16).mono ?_
                    rintro e Z20 ⟨A3, c3, rfl, ho20, hb20⟩
                    have ra20 := ra16.below hb20 (Nat.le_refl _)
                    have rb20 := rb16.below hb20 rb16.lt
                    have rc20 := src_keep rc16 hb20
                    have rd20 := ho20.rd
                    have hS20 := below_trans hS16 hb20
                    go_simp
                    refine hK.out _ _ hS20 ?_
                    clear hK K
                    try simp only [Act.put, List.setIfInBounds_toArray, List.set_cons_zero, List.set_cons_succ]
                    generalize hva : (⟨Z1.heap.size, 0, none⟩ : Addr) = ad
                    refine ready_two 32 39 rfl rfl (by kernel_rfl) (by rfl) (by rfl) ?_ ?_
                    · skip
                      intro K hK
                      refine wp_run _ (run_string_op 36 9 5 _ rfl rfl Try.underlying36 Try.underlying5 Try.underlying9 ra20) ?_
                      refine hK.out _ _ hS20 ?_
                      clear hK K
                      try simp only [Act.put, List.setIfInBounds_toArray, List.set_cons_zero, List.set_cons_succ]
                      refine alone 39 rfl (by kernel_rfl) (by rfl) ?_
                      intro K hK
                      refine wp_run _ (run_string_op 36 9 5 _ rfl rfl Try.underlying36 Try.underlying5 Try.underlying9 rd20) ?_
                      refine hK.out _ _ hS20 ?_
                      clear hK K
                      try simp only [Act.put, List.setIfInBounds_toArray, List.set_cons_zero, List.set_cons_succ]
                      exact REST ad A1 c1 A2 c2 A3 c3 Z20 hS20
                    · skip
                      intro K hK
                      refine wp_run _ (run_string_op 36 9 5 _ rfl rfl Try.underlying36 Try.underlying5 Try.underlying9 rd20) ?_
                      refine hK.out _ _ hS20 ?_
                      clear hK K
                      try simp only [Act.put, List.setIfInBounds_toArray, List.set_cons_zero, List.set_cons_succ]
                      refine alone 32 rfl (by kernel_rfl) (by rfl) ?_
                      intro K hK
                      refine wp_run _ (run_string_op 36 9 5 _ rfl rfl Try.underlying36 Try.underlying5 Try.underlying9 ra20) ?_
                      refine hK.out _ _ hS20 ?_
                      clear hK K
                      try simp only [Act.put, List.setIfInBounds_toArray, List.set_cons_zero, List.set_cons_succ]
                      exact REST ad A1 c1 A2 c2 A3 c3 Z20 hS20
              · skip
                intro K hK
                go_simp
                refine (RH2.out _).mono ?_
                rintro e Z25 ⟨A2, c2, rfl, ho25, hb25⟩
                have ra25 := ra1.below hb25 (Nat.le_refl _)
                have rc25 := src_own ho25
                have hS25 := below_trans hS1 hb25
                go_simp
                refine hK.out _ _ hS25 ?_
                clear hK K
                try simp only [Act.put, List.setIfInBounds_toArray, List.set_cons_zero, List.set_cons_succ]
                refine ready_two 32 35 rfl rfl (by kernel_rfl) (by rfl) (by rfl) ?_ ?_
                · skip
                  intro K hK
                  refine wp_run _ (run_string_op 36 9 5 _ rfl rfl Try.underlying36 Try.underlying5 Try.underlying9 ra25) ?_
                  refine hK.out _ _ hS25 ?_
                  clear hK K
                  try simp only [Act.put, List.setIfInBounds_toArray, List.set_cons_zero, List.set_cons_succ]
                  refine alone 35 rfl (by kernel_rfl) (by rfl) ?_
                  intro K hK
                  go_simp
                  have hx27 := hS25.alloc (hBs _ hS25) (.cells #[.int .u32 (s2 : Nat)] 22)
                  have hb27 := below_alloc (Below.refl _ Z25) (.cells #[.int .u32 (s2 : Nat)] 22)
                  refine hK.out _ _ hx27 ?_
                  clear hK K
                  try simp only [Act.put, List.setIfInBounds_toArray, List.set_cons_zero, List.set_cons_succ]
                  refine cut_any (fun Y => Below Z25.heap.size Z25 Y ∧ Whole Y Z25.heap.size 22 #[.int .u32 (s2 : Nat)]) ⟨hb27, Whole.new _ _ _⟩ ?_
                  clear hx27 hb27
                  rintro Z27 ⟨hb27, rb27⟩
                  have rc27 := src_keep rc25 hb27
                  have hS27 := below_trans hS25 hb27
                  generalize hva : (⟨Z25.heap.size, 0, none⟩ : Addr) = ad
                  refine alone 38 rfl (by kernel_rfl) (by rfl) ?_
                  intro K hK
                  go_simp
                  subst hva
                  refine (RW2.out _ A2 c2 _ rb27.lt (rb27.cell 0) rc27).mono ?_
                  rintro e Z28 ⟨A3, c3, rfl, ho28, hb28⟩
                  have rb28 := rb27.below hb28 rb27.lt
                  have rc28 := src_keep rc27 hb28
                  have rd28 := ho28.rd
                  have hS28 := below_trans hS27 hb28
                  go_simp
                  refine hK.out _ _ hS28 ?_
                  clear hK K
                  try simp only [Act.put, List.setIfInBounds_toArray, List.set_cons_zero, List.set_cons_succ]
                  generalize hva : (⟨Z25.heap.size, 0, none⟩ : Addr) = ad
                  refine alone 39 rfl (by kernel_rfl) (by rfl) ?_
                  intro K hK
                  refine wp_run _ (run_string_op 36 9 5 _ rfl rfl Try.underlying36 Try.underlying5 Try.underlying9 rd28) ?_
                  refine hK.out _ _ hS28 ?_
                  clear hK K
                  try simp only [Act.put, List.setIfInBounds_toArray, List.set_cons_zero, List.set_cons_succ]
                  exact REST ad A1 c1 A2 c2 A3 c3 Z28 hS28
                · skip
                  intro K hK
                  go_simp
                  have hx30 := hS25.alloc (hBs _ hS25) (.cells #[.int .u32 (s2 : Nat)] 22)
                  have hb30 := below_alloc (Below.refl _ Z25) (.cells #[.int .u32 (s2 : Nat)] 22)
                  refine hK.out _ _ hx30 ?_
                  clear hK K
                  try simp only [Act.put, List.setIfInBounds_toArray, List.set_cons_zero, List.set_cons_succ]
                  refine cut_any (fun Y => Below Z25.heap.size Z25 Y ∧ Whole Y Z25.heap.size 22 #[.int .u32 (s2 : Nat)]) ⟨hb30, Whole.new _ _ _⟩ ?_
                  clear hx30 hb30
                  rintro Z30 ⟨hb30, rb30⟩
                  have ra30 := ra25.below hb30 (Nat.le_refl _)
                  have rc30 := src_keep rc25 hb30
                  have hS30 := below_trans hS25 hb30
                  generalize hva : (⟨Z25.heap.size, 0, none⟩ : Addr) = ad
                  refine ready_two 32 38 rfl rfl (by kernel_rfl) (by rfl) (by rfl) ?_ ?_
                  · skip
                    intro K hK
                    refine wp_run _ (run_string_op 36 9 5 _ rfl rfl Try.underlying36 Try.underlying5 Try.underlying9 ra30) ?_
                    refine hK.out _ _ hS30 ?_
                    clear hK K
                    try simp only [Act.put, List.setIfInBounds_toArray, List.set_cons_zero, List.set_cons_succ]
                    refine alone 38 rfl (by kernel_rfl) (by rfl) ?_
                    intro K hK
                    go_simp
                    subst hva
                    refine (RW2.out _ A2 c2 _ rb30.lt (rb30.cell 0) rc30).mono ?_
                    rintro e Z32 ⟨A3, c3, rfl, ho32, hb32⟩
                    have rb32 := rb30.below hb32 rb30.lt
                    have rc32 := src_keep rc30 hb32
                    have rd32 := ho32.rd
                    have hS32 := below_trans hS30 hb32
                    go_simp
                    refine hK.out _ _ hS32 ?_
                    clear hK K
                    try simp only [Act.put, List.setIfInBounds_toArray, List.set_cons_zero, List.set_cons_succ]
                    generalize hva : (⟨Z25.heap.size, 0, none⟩ : Addr) = ad
                    refine alone 39 rfl (by kernel_rfl) (by rfl) ?_
                    intro K hK
                    refine wp_run _ (run_string_op 36 9 5 _ rfl rfl Try.underlying36 Try.underlying5 Try.underlying9 rd32) ?_
                    refine hK.out _ _ hS32 ?_
                    clear hK K
                    try simp only [Act.put, List.setIfInBounds_toArray, List.set_cons_zero, List.set_cons_succ]
                    exact REST ad A1 c1 A2 c2 A3 c3 Z32 hS32
                  · skip
                    intro K hK
                    go_simp
                    subst hva
                    refine (RW2.out _ A2 c2 _ rb30.lt (rb30.cell 0) rc30).mono ?_
                    rintro e Z34 ⟨A3, c3, rfl, ho34, hb34⟩
                    have ra34 := ra30.below hb34 (Nat.le_refl _)
                    have rb34 := rb30.below hb34 rb30.lt
                    have rc34 := src_keep rc30 hb34
                    have rd34 := ho34.rd
                    have hS34 := below_trans hS30 hb34
                    go_simp
                    refine hK.out _ _ hS34 ?_
                    clear hK K
                    try simp only [Act.put, List.setIfInBounds_toArray, List.set_cons_zero, List.set_cons_succ]
                    generalize hva : (⟨Z25.heap.size, 0, none⟩ : Addr) = ad
                    refine ready_two 32 39 rfl rfl (by kernel_rfl) (by rfl) (by rfl) ?_ ?_
                    · skip
                      intro K hK
                      refine wp_run _ (run_string_op 36 9 5 _ rfl rfl Try.underlying36 Try.underlying5 Try.underlying9 ra34) ?_
                      refine hK.out _ _ hS34 ?_
                      clear hK K
                      try simp only [Act.put, List.setIfInBounds_toArray, List.set_cons_zero, List.set_cons_succ]
                      refine alone 39 rfl (by kernel_rfl) (by rfl) ?_
                      intro K hK
                      refine wp_run _ (run_string_op 36 9 5 _ rfl rfl Try.underlying36 Try.underlying5 Try.underlying9 rd34) ?_
                      refine hK.out _ _ hS34 ?_
                      clear hK K
                      try simp only [Act.put, List.setIfInBounds_toArray, List.set_cons_zero, List.set_cons_succ]
                      exact REST ad A1 c1 A2 c2 A3 c3 Z34 hS34
                    · skip
                      intro K hK
                      refine wp_run _ (run_string_op 36 9 5 _ rfl rfl Try.underlying36 Try.underlying5 Try.underlying9 rd34) ?_
                      refine hK.out _ _ hS34 ?_
                      clear hK K
                      try simp only [Act.put, List.setIfInBounds_toArray, List.set_cons_zero, List.set_cons_succ]
                      refine alone 32 rfl (by kernel_rfl) (by rfl) ?_
                      intro K hK
                      refine wp_run _ (run_string_op 36 9 5 _ rfl rfl Try.underlying36 Try.underlying5 Try.underlying9 ra34) ?_
                      refine hK.out _ _ hS34 ?_
                      clear hK K
                      try simp only [Act.put, List.setIfInBounds_toArray, List.set_cons_zero, List.set_cons_succ]
                      exact REST ad A1 c1 A2 c2 A3 c3 Z34 hS34
            · skip
              intro K hK
              go_simp
              have hx39 := hS.alloc (hBs _ hS) (.cells #[.int .u32 (s2 : Nat)] 22)
              have hb39 := below_alloc (Below.refl _ Zb) (.cells #[.int .u32 (s2 : Nat)] 22)
              refine hK.out _ _ hx39 ?_
              clear hK K
              try simp only [Act.put, List.setIfInBounds_toArray, List.set_cons_zero, List.set_cons_succ]
              refine cut_any (fun Y => Below Zb.heap.size Zb Y ∧ Whole Y Zb.heap.size 22 #[.int .u32 (s2 : Nat)]) ⟨hb39, Whole.new _ _ _⟩ ?_
              clear hx39 hb39
              rintro Z39 ⟨hb39, rb39⟩
              have hS39 := below_trans hS hb39
              generalize hva : (⟨Zb.heap.size, 0, none⟩ : Addr) = ad
              refine alone 31 rfl (by kernel_rfl) (by rfl) ?_
              intro K hK
              go_simp
              refine (CW2.out _).mono ?_
              rintro e Z40 ⟨A1, c1, rfl, ho40, hb40⟩
              have rb40 := rb39.below hb40 rb39.lt
              have ra40 := ho40.rd
              have hS40 := below_trans hS39 hb40
              go_simp
              refine hK.out _ _ hS40 ?_
              clear hK K
              try simp only [Act.put, List.setIfInBounds_toArray, List.set_cons_zero, List.set_cons_succ]
              refine ready_two 32 37 rfl rfl (by kernel_rfl) (by rfl) (by rfl) ?_ ?_
              · skip
                intro K hK
                refine wp_run _ (run_string_op 36 9 5 _ rfl rfl Try.underlying36 Try.underlying5 Try.underlying9 ra40) ?_
                refine hK.out _ _ hS40 ?_
                clear hK K
                try simp only [Act.put, List.setIfInBounds_toArray, List.set_cons_zero, List.set_cons_succ]
                refine alone 37 rfl (by kernel_rfl) (by rfl) ?_
                intro K hK
                go_simp
                refine (RH2.out _).mono ?_
                rintro e Z42 ⟨A2, c2, rfl, ho42, hb42⟩
                have rb42 := rb40.below hb42 rb40.lt
                have rc42 := src_own ho42
                have hS42 := below_trans hS40 hb42
                go_simp
                refine hK.out _ _ hS42 ?_
                clear hK K
                try simp only [Act.put, List.setIfInBounds_toArray, List.set_cons_zero, List.set_cons_succ]
                refine alone 38 rfl (by kernel_rfl) (by rfl) ?_
                intro K hK
                go_simp
                subst hva
                refine (RW2.out _ A2 c2 _ rb42.lt (rb42.cell 0) rc42).mono ?_
                rintro e Z43 ⟨A3, c3, rfl, ho43, hb43⟩
                have rb43 := rb42.below hb43 rb42.lt
                have rc43 := src_keep rc42 hb43
                have rd43 := ho43.rd
                have hS43 := below_trans hS42 hb43
                go_simp
                refine hK.out _ _ hS43 ?_
                clear hK K
                try simp only [Act.put, List.setIfInBounds_toArray, List.set_cons_zero, List.set_cons_succ]
                generalize hva : (⟨Zb.heap.size, 0, none⟩ : Addr) = ad
                refine alone 39 rfl (by kernel_rfl) (by rfl) ?_
                intro K hK
                refine wp_run _ (run_string_op 36 9 5 _ rfl rfl Try.underlying36 Try.underlying5 Try.underlying9 rd43) ?_
                refine hK.out _ _ hS43 ?_
                clear hK K
                try simp only [Act.put, List.setIfInBounds_toArray, List.set_cons_zero, List.set_cons_succ]
                exact REST ad A1 c1 A2 c2 A3 c3 Z43 hS43
              · skip
                intro K hK
                go_simp
                refine (RH2.out _).mono ?_
                rintro e Z45 ⟨A2, c2, rfl, ho45, hb45⟩
                have ra45 := ra40.below hb45 (Nat.le_refl _)
                have rb45 := rb40.below hb45 rb40.lt
                have rc45 := src_own ho45
                have hS45 := below_trans hS40 hb45
                go_simp
                refine hK.out _ _ hS45 ?_
                clear hK K
                try simp only [Act.put, List.setIfInBounds_toArray, List.set_cons_zero, List.set_cons_succ]
                refine ready_two 32 38 rfl rfl (by kernel_rfl) (by rfl) (by rfl) ?_ ?_
                · skip
                  intro K hK
                  refine wp_run _ (run_string_op 36 9 5 _ rfl rfl Try.underlying36 Try.underlying5 Try.underlying9 ra45) ?_
                  refine hK.out _ _ hS45 ?_
                  clear hK K
                  try simp only [Act.put, List.setIfInBounds_toArray, List.set_cons_zero, List.set_cons_succ]
                  refine alone 38 rfl (by kernel_rfl) (by rfl) ?_
                  intro K hK
                  go_simp
                  subst hva
                  refine (RW2.out _ A2 c2 _ rb45.lt (rb45.cell 0) rc45).mono ?_
                  rintro e Z47 ⟨A3, c3, rfl, ho47, hb47⟩
                  have rb47 := rb45.below hb47 rb45.lt
                  have rc47 := src_keep rc45 hb47
                  have rd47 := ho47.rd
                  have hS47 := below_trans hS45 hb47
                  go_simp
                  refine hK.out _ _ hS47 ?_
                  clear hK K
                  try simp only [Act.put, List.setIfInBounds_toArray, List.set_cons_zero, List.set_cons_succ]
                  generalize hva : (⟨Zb.heap.size, 0, none⟩ : Addr) = ad
                  refine alone 39 rfl (by kernel_rfl) (by rfl) ?_
                  intro K hK
                  refine wp_run _ (run_string_op 36 9 5 _ rfl rfl Try.underlying36 Try.underlying5 Try.underlying9 rd47) ?_
                  refine hK.out _ _ hS47 ?_
                  clear hK K
                  try simp only [Act.put, List.setIfInBounds_toArray, List.set_cons_zero, List.set_cons_succ]
                  exact REST ad A1 c1 A2 c2 A3 c3 Z47 hS47
                · skip
                  intro K hK
                  go_simp
                  subst hva
                  refine (RW2.out _ A2 c2 _ rb45.lt (rb45.cell 0) rc45).mono ?_
                  rintro e Z49 ⟨A3, c3, rfl, ho49, hb49⟩
                  have ra49 := ra45.below hb49 (Nat.le_refl _)
                  have rb49 := rb45.below hb49 rb45.lt
                  have rc49 := src_keep rc45 hb49
                  have rd49 := ho49.rd
                  have hS49 := below_trans hS45 hb49
                  go_simp
                  refine hK.out _ _ hS49 ?_
                  clear hK K
                  try simp only [Act.put, List.setIfInBounds_toArray, List.set_cons_zero, List.set_cons_succ]
                  generalize hva : (⟨Zb.heap.size, 0, none⟩ : Addr) = ad
                  refine ready_two 32 39 rfl rfl (by kernel_rfl) (by rfl) (by rfl) ?_ ?_
                  · skip
                    intro K hK
                    refine wp_run _ (run_string_op 36 9 5 _ rfl rfl Try.underlying36 Try.underlying5 Try.underlying9 ra49) ?_
                    refine hK.out _ _ hS49 ?_
                    clear hK K
                    try simp only [Act.put, List.setIfInBounds_toArray, List.set_cons_zero, List.set_cons_succ]
                    refine alone 39 rfl (by kernel_rfl) (by rfl) ?_
                    intro K hK
                    refine wp_run _ (run_string_op 36 9 5 _ rfl rfl Try.underlying36 Try.underlying5 Try.underlying9 rd49) ?_
                    refine hK.out _ _ hS49 ?_
                    clear hK K
                    try simp only [Act.put, List.setIfInBounds_toArray, List.set_cons_zero, List.set_cons_succ]
                    exact REST ad A1 c1 A2 c2 A3 c3 Z49 hS49
                  · skip
                    intro K hK
                    refine wp_run _ (run_string_op 36 9 5 _ rfl rfl Try.underlying36 Try.underlying5 Try.underlying9 rd49) ?_
                    refine hK.out _ _ hS49 ?_
                    clear hK K
                    try simp only [Act.put, List.setIfInBounds_toArray, List.set_cons_zero, List.set_cons_succ]
                    refine alone 32 rfl (by kernel_rfl) (by rfl) ?_
                    intro K hK
                    refine wp_run _ (run_string_op 36 9 5 _ rfl rfl Try.underlying36 Try.underlying5 Try.underlying9 ra49) ?_
                    refine hK.out _ _ hS49 ?_
                    clear hK K
                    try simp only [Act.put, List.setIfInBounds_toArray, List.set_cons_zero, List.set_cons_succ]
                    exact REST ad A1 c1 A2 c2 A3 c3 Z49 hS49
          case rest =>
            intro ad A1 c1 A2 c2 A3 c3 Zc hS
            refine take 40 _ rfl (by kernel_rfl) (by kernel_rfl) (by kernel_rfl) (fun _ _ _ h => h) (by rfl) hS (by intro w _; go_simp; with_reducible rfl) ?_
            try simp only [Act.put, List.setIfInBounds_toArray, List.set_cons_zero, List.set_cons_succ]
            refine take 41 _ rfl (by kernel_rfl) (by kernel_rfl) (by kernel_rfl) (fun _ _ _ h => h) (by rfl) hS (by intro w _; go_simp; with_reducible rfl) ?_
            try simp only [Act.put, List.setIfInBounds_toArray, List.set_cons_zero, List.set_cons_succ]
            refine take 42 _ rfl (by kernel_rfl) (by kernel_rfl) (by kernel_rfl) (fun _ _ _ h => h) (by rfl) hS (by intro w _; go_simp; with_reducible rfl) ?_
            try simp only [Act.put, List.setIfInBounds_toArray, List.set_cons_zero, List.set_cons_succ]
            refine region_end (by kernel_rfl) ?_
            have KBE := Lib.hid (below_trans KB6.out hS)
            clear hS
            go_wp2_with fail
            go_ret
            exact ⟨rfl, KBE.out⟩
  · have hbx : boxN n = false := by simpa using hbx
    have CWD := Lib.hid (fun w => writeData_no x y A n c hbx w)
    go_upto_region 3 with fail
    go_upto_region 4 with (first
      | (refine wpList_load_row rfl 38 (.tmp 7) rfl B3 rfl 38 #[.int .u32 (x : Nat), .int .u64 (y : Nat), .slice A n c] (0, 0) _ K3.out rfl rfl (by kernel_rfl) ?_)
      | (go_at_call 14; refine (CWD.out _).mono ?_; rintro e w1 ⟨rfl, hb1⟩; have HB1 := Lib.hid hb1; clear hb1))
    have K3' := Lib.hid (K3.out.below HB1.out K3.out.lt)
    have HM0 := Lib.hid (fun (Y : World) (hw : Below w1.heap.size w1 Y) => (K3'.out.below hw K3'.out.lt).cell 0)
    have HM1 := Lib.hid (fun (Y : World) (hw : Below w1.heap.size w1 Y) => (K3'.out.below hw K3'.out.lt).cell 1)
    have HM2 := Lib.hid (fun (Y : World) (hw : Below w1.heap.size w1 Y) => (K3'.out.below hw K3'.out.lt).cell 2)
    have hrd1 : Rd w1 A n f := (HRD.out.below KB.out (Nat.le_refl _)).below HB1.out (Nat.le_refl _)
    have HSD := Lib.hid (src_rd (c := c) hrd1 HNIL.out)
    have CB := Lib.hid (fun X => bytes_any y 8 (by omega) HY.out X)
    have hBs : ∀ X, Below w1.heap.size w1 X → w1.heap.size ≤ X.heap.size := fun X h => h.size
    clear hrd1
    refine region_drew (fun Y => Below w1.heap.size w1 Y) (by kernel_rfl) (below_drewN (Below.refl _ _) 1) ?_
    intro hS
    refine take 0 _ rfl (by kernel_rfl) (by kernel_rfl) (by kernel_rfl) (fun _ _ _ h => h) (by rfl) hS (by intro w _; go_simp; with_reducible rfl) ?_
    try simp only [Act.put, List.setIfInBounds_toArray, List.set_cons_zero, List.set_cons_succ]
    refine take 1 _ rfl (by kernel_rfl) (by kernel_rfl) (by kernel_rfl) (fun _ _ _ h => h) (by rfl) hS (by intro w hw; have hcl := HM0.out w hw; go_simp; with_reducible rfl) ?_
    try simp only [Act.put, List.setIfInBounds_toArray, List.set_cons_zero, List.set_cons_succ]
    refine take 3 _ rfl (by kernel_rfl) (by kernel_rfl) (by kernel_rfl) (fun _ _ _ h => h) (by rfl) hS (by intro w _; go_simp; with_reducible rfl) ?_
    try simp only [Act.put, List.setIfInBounds_toArray, List.set_cons_zero, List.set_cons_succ]
    refine take 4 _ rfl (by kernel_rfl) (by kernel_rfl) (by kernel_rfl) (fun _ _ _ h => h) (by rfl) hS (by intro w hw; have hcl := HM1.out w hw; go_simp; with_reducible rfl) ?_
    try simp only [Act.put, List.setIfInBounds_toArray, List.set_cons_zero, List.set_cons_succ]
    refine take 6 _ rfl (by kernel_rfl) (by kernel_rfl) (by kernel_rfl) (fun _ _ _ h => h) (by rfl) hS (by intro w _; go_simp; with_reducible rfl) ?_
    try simp only [Act.put, List.setIfInBounds_toArray, List.set_cons_zero, List.set_cons_succ]
    refine take 7 _ rfl (by kernel_rfl) (by kernel_rfl) (by kernel_rfl) (fun _ _ _ h => h) (by rfl) hS (by intro w hw; have hcl := HM2.out w hw; go_simp; with_reducible rfl) ?_
    try simp only [Act.put, List.setIfInBounds_toArray, List.set_cons_zero, List.set_cons_succ]
    apply share (Φ := fun ad _ _ A5 c5 X => (∃ h, ad = ⟨h, 0, none⟩ ∧ X.cell? ⟨h, 0, none⟩ = some (.int .u32 (x : Nat)) ∧ h < X.heap.size) ∧ Own X w1.heap.size 5 A5 (8 + n) c5 (fun i => if i < 8 then byteAt y i else f (i - 8)) ∧ Below w1.heap.size w1 X)
    case lead =>
      intro REST
      refine ready_two 2 5 rfl rfl (by kernel_rfl) (by rfl) (by rfl) ?_ ?_
      · intro K hK
        go_simp
        have hS1 := hS.alloc (hBs _ hS) (.cells #[.int .u32 (x : Nat)] 22)
        refine hK.out _ _ hS1 ?_
        clear hK K
        try simp only [Act.put, List.setIfInBounds_toArray, List.set_cons_zero, List.set_cons_succ]
        refine cut_any (fun Y => Below w1.heap.size w1 Y ∧ Whole Y w1.heap.size 22 #[.int .u32 (x : Nat)]) ⟨hS1, Whole.new _ _ _⟩ ?_
        clear hS1
        rintro Xb ⟨hSb, hwb⟩
        generalize hva : (⟨w1.heap.size, 0, none⟩ : Addr) = ad
        refine alone 5 rfl (by kernel_rfl) (by rfl) ?_
        intro K hK
        go_simp
        refine (CB.out _).mono ?_
        rintro e Xc ⟨A4, c4, rfl, ho0, hb⟩
        have hwc := hwb.below hb hwb.lt
        have ho : Own Xc w1.heap.size 5 A4 8 c4 (byteAt y) := ho0.more (hBs _ hSb)
        have hne : ¬ (some w1.heap.size = (Value.slice A4 8 c4).ownBlock) := own_far ho0 hwb.lt
        have hSc := below_trans hSb hb
        go_simp
        refine hK.out _ _ hSc ?_
        clear hK K hb hwb ho0 hSb
        try simp only [Act.put, List.setIfInBounds_toArray, List.set_cons_zero, List.set_cons_succ]
        refine alone 8 rfl (by kernel_rfl) (by rfl) ?_
        intro K hK
        refine wp_catFrom (W := w1) (B := w1.heap.size) (T := fun i => if i < 8 then byteAt y i else f (i - 8)) (.tmp 27) (.tmp 29) 36 5 (.int .u8 0) 1 Try.underlying36 info_u8 rfl rfl rfl ho hSc (hBs _ hSc) n c A rfl (src_keep HSD.out hSc) (by omega) (by omega) (fun i _ => rfl) ?_
        intro A5 c5 w5 h5 hS5 _ hg5
        refine hK.out _ _ hS5 ?_
        clear hK K
        try simp only [Act.put, List.setIfInBounds_toArray, List.set_cons_zero, List.set_cons_succ]
        exact REST ad A4 c4 A5 c5 w5 ⟨⟨w1.heap.size, hva.symm, Whole.cell (w := w5) ((hg5.block _ hwc.lt hne).trans hwc) 0, Nat.lt_of_lt_of_le hwc.lt hg5.size⟩, h5, hS5⟩
      · intro K hK
        go_simp
        refine (CB.out _).mono ?_
        rintro e Xc ⟨A4, c4, rfl, ho0, hb⟩
        have ho : Own Xc w1.heap.size 5 A4 8 c4 (byteAt y) := ho0.more (hBs _ hS)
        have hSc := below_trans hS hb
        go_simp
        refine hK.out _ _ hSc ?_
        clear hK K hb ho0
        try simp only [Act.put, List.setIfInBounds_toArray, List.set_cons_zero, List.set_cons_succ]
        refine ready_two 2 8 rfl rfl (by kernel_rfl) (by rfl) (by rfl) ?_ ?_
        · intro K hK
          go_simp
          have hS1 := hSc.alloc (hBs _ hSc) (.cells #[.int .u32 (x : Nat)] 22)
          refine hK.out _ _ hS1 ?_
          clear hK K
          try simp only [Act.put, List.setIfInBounds_toArray, List.set_cons_zero, List.set_cons_succ]
          refine cut_any (fun Y => Below w1.heap.size w1 Y ∧ Whole Y Xc.heap.size 22 #[.int .u32 (x : Nat)] ∧ Own Y w1.heap.size 5 A4 8 c4 (byteAt y)) ⟨hS1, Whole.new _ _ _, ho.alloc _⟩ ?_
          clear hS1
          rintro Xb ⟨hSb, hwc, hob⟩
          have hne : ¬ (some Xc.heap.size = (Value.slice A4 8 c4).ownBlock) := own_near ho
          generalize hva : (⟨Xc.heap.size, 0, none⟩ : Addr) = ad
          refine alone 8 rfl (by kernel_rfl) (by rfl) ?_
          intro K hK
          refine wp_catFrom (W := w1) (B := w1.heap.size) (T := fun i => if i < 8 then byteAt y i else f (i - 8)) (.tmp 27) (.tmp 29) 36 5 (.int .u8 0) 1 Try.underlying36 info_u8 rfl rfl rfl hob hSb (hBs _ hSb) n c A rfl (src_keep HSD.out hSb) (by omega) (by omega) (fun i _ => rfl) ?_
          intro A5 c5 w5 h5 hS5 _ hg5
          refine hK.out _ _ hS5 ?_
          clear hK K
          try simp only [Act.put, List.setIfInBounds_toArray, List.set_cons_zero, List.set_cons_succ]
          exact REST ad A4 c4 A5 c5 w5 ⟨⟨Xc.heap.size, hva.symm, Whole.cell (w := w5) ((hg5.block _ hwc.lt hne).trans hwc) 0, Nat.lt_of_lt_of_le hwc.lt hg5.size⟩, h5, hS5⟩
        · intro K hK
          refine wp_catFrom (W := w1) (B := w1.heap.size) (T := fun i => if i < 8 then byteAt y i else f (i - 8)) (.tmp 27) (.tmp 29) 36 5 (.int .u8 0) 1 Try.underlying36 info_u8 rfl rfl rfl ho hSc (hBs _ hSc) n c A rfl (src_keep HSD.out hSc) (by omega) (by omega) (fun i _ => rfl) ?_
          intro A5 c5 w5 h5 hS5 _ hg5
          refine hK.out _ _ hS5 ?_
          clear hK K
          try simp only [Act.put, List.setIfInBounds_toArray, List.set_cons_zero, List.set_cons_succ]
          refine alone 2 rfl (by kernel_rfl) (by rfl) ?_
          intro K hK
          go_simp
          have hS1 := hS5.alloc (hBs _ hS5) (.cells #[.int .u32 (x : Nat)] 22)
          refine hK.out _ _ hS1 ?_
          clear hK K
          try simp only [Act.put, List.setIfInBounds_toArray, List.set_cons_zero, List.set_cons_succ]
          refine cut_any (fun Y => Below w1.heap.size w1 Y ∧ Whole Y w5.heap.size 22 #[.int .u32 (x : Nat)] ∧ Own Y w1.heap.size 5 A5 (8 + n) c5 (fun i => if i < 8 then byteAt y i else f (i - 8))) ⟨hS1, Whole.new _ _ _, h5.alloc _⟩ ?_
          clear hS1
          rintro Xb ⟨hSb, hwc, hob⟩
          generalize hva : (⟨w5.heap.size, 0, none⟩ : Addr) = ad
          exact REST ad A4 c4 A5 c5 Xb ⟨⟨w5.heap.size, hva.symm, hwc.cell 0, hwc.lt⟩, hob, hSb⟩
    case rest =>
      rintro ad A4 c4 A5 c5 X5 ⟨⟨h, rfl, hc0, hh⟩, h5, hS5⟩
      have CW := Lib.hid (write_ref1 4 (by omega) x HX.out h A5 (8 + n) c5 (fun i => if i < 8 then byteAt y i else f (i - 8)) (by omega) X5 hh hc0 (src_own h5))
      rw [data_out x y f] at CW
      refine alone 9 rfl (by kernel_rfl) (by rfl) ?_
      intro K hK
      go_simp
      refine CW.out.mono ?_
      rintro e X6 ⟨A6, c6, rfl, h6, hb6⟩
      have hS := below_trans hS5 hb6
      go_simp
      refine hK.out _ _ hS ?_
      clear hK K hb6 CW hS5 h5 hc0 hh
      try simp only [Act.put, List.setIfInBounds_toArray, List.set_cons_zero, List.set_cons_succ]
      refine take 10 _ rfl (by kernel_rfl) (by kernel_rfl) (by kernel_rfl) (fun _ _ _ h => h) (by rfl) hS (by intro w _; go_simp; with_reducible rfl) ?_
      try simp only [Act.put, List.setIfInBounds_toArray, List.set_cons_zero, List.set_cons_succ]
      refine region_end (by kernel_rfl) ?_
      rw [show 8 + (8 + n) = 16 + n by omega] at h6
      have H6 := Lib.hid h6.rd
      have KB6 := Lib.hid (below_trans KB.out (below_trans HB1.out hS))
      have HW6 := Lib.hid ((HW.out.below HB1.out).below hS)
      clear hS h6 HB1 KB HW K3 K3' HM0 HM1 HM2 CB HSD hBs
      have CS : Hid (∀ X, Calls Try.prog 17 #[.int .u8 4, .int .i64 (16 + (n : Int))] X fun e w' => e = .returned (.bool false) ∧ w' = X) := Lib.hid (fun X => by
        have h := RefW.sizes_any 4 (16 + n) (by omega) (by omega) (by omega) X
        rw [box_unfit hbx, Int.natCast_add] at h
        exact h)
      rw [show 8 + (8 + n) = 16 + n by omega]
      go_upto_region 7 with (go_at_call 17; refine (CS.out _).mono ?_; rintro e X7 ⟨rfl, rfl⟩)
      have F0 := Lib.hid (HW6.out (B0, 29, L0.toArray) (by simp))
      have F1 := Lib.hid (HW6.out (B1, 31, L1.toArray) (by simp))
      have F2 := Lib.hid (HW6.out (B2, 34, L2.toArray) (by simp))
      have hBs : ∀ X, Below X7.heap.size X7 X → X7.heap.size ≤ X.heap.size := fun X h => h.size
      clear HW6 CS H6
      refine region_drew (fun Y => Below X7.heap.size X7 Y) (by kernel_rfl) (below_drewN (Below.refl _ _) 1) ?_
      intro hS
      refine alone 0 rfl (by kernel_rfl) (by rfl) ?_
      intro K hK
      go_simp
      refine (CA.out _).mono ?_
      rintro e v1 ⟨rfl, hb⟩
      go_simp
      replace hS := below_trans hS hb
      refine hK.out _ _ hS ?_
      clear hK hb K
      try simp only [Act.put, List.setIfInBounds_toArray, List.set_cons_zero, List.set_cons_succ]
      refine take 1 _ rfl (by kernel_rfl) (by kernel_rfl) (by kernel_rfl) (fun _ _ _ h => h) (by rfl) hS (by intro w _; go_simp; with_reducible rfl) ?_
      try simp only [Act.put, List.setIfInBounds_toArray, List.set_cons_zero, List.set_cons_succ]
      refine take 2 _ rfl (by kernel_rfl) (by kernel_rfl) (by kernel_rfl) (fun _ _ _ h => h) (by rfl) hS (fun w hw => run_load_op 29 (.tmp 4) rfl (B0) rfl (F0.out.below hw F0.out.lt) rfl rfl (by rw [H0Z.out]; kernel_rfl)) ?_
      try simp only [Act.put, List.setIfInBounds_toArray, List.set_cons_zero, List.set_cons_succ]
      refine take 5 _ rfl (by kernel_rfl) (by kernel_rfl) (by kernel_rfl) (fun _ _ _ h => h) (by rfl) hS (by intro w _; go_simp; with_reducible rfl) ?_
      try simp only [Act.put, List.setIfInBounds_toArray, List.set_cons_zero, List.set_cons_succ]
      refine take 6 _ rfl (by kernel_rfl) (by kernel_rfl) (by kernel_rfl) (fun _ _ _ h => h) (by rfl) hS (by intro w hw; have hcl := ((F0.out.below hw F0.out.lt).cell 0).trans HC00.out; go_simp; with_reducible rfl) ?_
      try simp only [Act.put, List.setIfInBounds_toArray, List.set_cons_zero, List.set_cons_succ]
      refine take 8 _ rfl (by kernel_rfl) (by kernel_rfl) (by kernel_rfl) (fun _ _ _ h => h) (by rfl) hS (fun w hw => run_load_op 29 (.tmp 4) rfl (B0) rfl (F0.out.below hw F0.out.lt) rfl rfl (by rw [H0Z.out]; kernel_rfl)) ?_
      try simp only [Act.put, List.setIfInBounds_toArray, List.set_cons_zero, List.set_cons_succ]
      apply share7 (Φ := fun X => Below X7.heap.size X7 X)
      case lead =>
        intro REST
        refine ready_two 3 7 rfl rfl (by kernel_rfl) (by rfl) (by rfl) ?_ ?_
        · skip
          intro K hK
          go_simp
          refine (CW0.out _).mono ?_
          rintro e Z1 ⟨A1, c1, rfl, ho1, hb1⟩
          have ra1 := ho1.rd
          have hS1 := below_trans hS hb1
          go_simp
          refine hK.out _ _ hS1 ?_
          clear hK K
          try simp only [Act.put, List.setIfInBounds_toArray, List.set_cons_zero, List.set_cons_succ]
          refine ready_three 4 7 9 rfl rfl rfl (by kernel_rfl) (by rfl) (by rfl) (by rfl) ?_ ?_ ?_
          · skip
            intro K hK
            refine wp_run _ (run_string_op 36 9 5 _ rfl rfl Try.underlying36 Try.underlying5 Try.underlying9 ra1) ?_
            refine hK.out _ _ hS1 ?_
            clear hK K
            try simp only [Act.put, List.setIfInBounds_toArray, List.set_cons_zero, List.set_cons_succ]
            refine ready_two 7 9 rfl rfl (by kernel_rfl) (by rfl) (by rfl) ?_ ?_
            · skip
              intro K hK
              go_simp
              have hx3 := hS1.alloc (hBs _ hS1) (.cells #[.int .u32 (s0 : Nat)] 22)
              have hb3 := below_alloc (Below.refl _ Z1) (.cells #[.int .u32 (s0 : Nat)] 22)
              refine hK.out _ _ hx3 ?_
              clear hK K
              try simp only [Act.put, List.setIfInBounds_toArray, List.set_cons_zero, List.set_cons_succ]
              refine cut_any (fun Y => Below Z1.heap.size Z1 Y ∧ Whole Y Z1.heap.size 22 #[.int .u32 (s0 : Nat)]) ⟨hb3, Whole.new _ _ _⟩ ?_
              clear hx3 hb3
              rintro Z3 ⟨hb3, rb3⟩
              have hS3 := below_trans hS1 hb3
              generalize hva : (⟨Z1.heap.size, 0, none⟩ : Addr) = ad
              refine alone 9 rfl (by kernel_rfl) (by rfl) ?_
              intro K hK
              go_simp
              refine (RH0.out _).mono ?_
              rintro e Z4 ⟨A2, c2, rfl, ho4, hb4⟩
              have rb4 := rb3.below hb4 rb3.lt
              have rc4 := src_own ho4
              have hS4 := below_trans hS3 hb4
              go_simp
              refine hK.out _ _ hS4 ?_
              clear hK K
              try simp only [Act.put, List.setIfInBounds_toArray, List.set_cons_zero, List.set_cons_succ]
              refine alone 10 rfl (by kernel_rfl) (by rfl) ?_
              intro K hK
              go_simp
              subst hva
              refine (RW0.out _ A2 c2 _ rb4.lt (rb4.cell 0) rc4).mono ?_
              rintro e Z5 ⟨A3, c3, rfl, ho5, hb5⟩
              have rb5 := rb4.below hb5 rb4.lt
              have rc5 := src_keep rc4 hb5
              have rd5 := ho5.rd
              have hS5 := below_trans hS4 hb5
              go_simp
              refine hK.out _ _ hS5 ?_
              clear hK K
              try simp only [Act.put, List.setIfInBounds_toArray, List.set_cons_zero, List.set_cons_succ]
              generalize hva : (⟨Z1.heap.size, 0, none⟩ : Addr) = ad
              refine alone 11 rfl (by kernel_rfl) (by rfl) ?_
              intro K hK
              refine wp_run _ (run_string_op 36 9 5 _ rfl rfl Try.underlying36 Try.underlying5 Try.underlying9 rd5) ?_
              refine hK.out _ _ hS5 ?_
              clear hK K
              try simp only [Act.put, List.setIfInBounds_toArray, List.set_cons_zero, List.set_cons_succ]
              exact REST ad A1 c1 A2 c2 A3 c3 Z5 hS5
            · skip
              intro K hK
              go_simp
              refine (RH0.out _).mono ?_
              rintro e Z7 ⟨A2, c2, rfl, ho7, hb7⟩
              have rc7 := src_own ho7
              have hS7 := below_trans hS1 hb7
              go_simp
              refine hK.out _ _ hS7 ?_
              clear hK K
              try simp only [Act.put, List.setIfInBounds_toArray, List.set_cons_zero, List.set_cons_succ]
              refine alone 7 rfl (by kernel_rfl) (by rfl) ?_
              intro K hK
              go_simp
              have hx8 := hS7.alloc (hBs _ hS7) (.cells #[.int .u32 (s0 : Nat)] 22)
              have hb8 := below_alloc (Below.refl _ Z7) (.cells #[.int .u32 (s0 : Nat)] 22)
              refine hK.out _ _ hx8 ?_
              clear hK K
              try simp only [Act.put, List.setIfInBounds_toArray, List.set_cons_zero, List.set_cons_succ]
              refine cut_any (fun Y => Below Z7.heap.size Z7 Y ∧ Whole Y Z7.heap.size 22 #[.int .u32 (s0 : Nat)]) ⟨hb8, Whole.new _ _ _⟩ ?_
              clear hx8 hb8
              rintro Z8 ⟨hb8, rb8⟩
              have rc8 := src_keep rc7 hb8
              have hS8 := below_trans hS7 hb8
              generalize hva : (⟨Z7.heap.size, 0, none⟩ : Addr) = ad
              refine alone 10 rfl (by kernel_rfl) (by rfl) ?_
              intro K hK
              go_simp
              subst hva
              refine (RW0.out _ A2 c2 _ rb8.lt (rb8.cell 0) rc8).mono ?_
              rintro e Z9 ⟨A3, c3, rfl, ho9, hb9⟩
              have rb9 := rb8.below hb9 rb8.lt
              have rc9 := src_keep rc8 hb9
              have rd9 := ho9.rd
              have hS9 := below_trans hS8 hb9
              go_simp
              refine hK.out _ _ hS9 ?_
              clear hK K
              try simp only [Act.put, List.setIfInBounds_toArray, List.set_cons_zero, List.set_cons_succ]
              generalize hva : (⟨Z7.heap.size, 0, none⟩ : Addr) = ad
              refine alone 11 rfl (by kernel_rfl) (by rfl) ?_
              intro K hK
              refine wp_run _ (run_string_op 36 9 5 _ rfl rfl Try.underlying36 Try.underlying5 Try.underlying9 rd9) ?_
              refine hK.out _ _ hS9 ?_
              clear hK K
              try simp only [Act.put, List.setIfInBounds_toArray, List.set_cons_zero, List.set_cons_succ]
              exact REST ad A1 c1 A2 c2 A3 c3 Z9 hS9
          · skip
            intro K hK
            go_simp
            have hx11 := hS1.alloc (hBs _ hS1) (.cells #[.int .u32 (s0 : Nat)] 22)
            have hb11 := below_alloc (Below.refl _ Z1) (.cells #[.int .u32 (s0 : Nat)] 22)
            refine hK.out _ _ hx11 ?_
            clear hK K
            try simp only [Act.put, List.setIfInBounds_toArray, List.set_cons_zero, List.set_cons_succ]
            refine cut_any (fun Y => Below Z1.heap.size Z1 Y ∧ Whole Y Z1.heap.size 22 #[.int .u32 (s0 : Nat)]) ⟨hb11, Whole.new _ _ _⟩ ?_
            clear hx11 hb11
            rintro Z11 ⟨hb11, rb11⟩
            have ra11 := ra1.below hb11 (Nat.le_refl _)
            have hS11 := below_trans hS1 hb11
            generalize hva : (⟨Z1.heap.size, 0, none⟩ : Addr) = ad
            refine ready_two 4 9 rfl rfl (by kernel_rfl) (by rfl) (by rfl) ?_ ?_
            · skip
              intro K hK
              refine wp_run _ (run_string_op 36 9 5 _ rfl rfl Try.underlying36 Try.underlying5 Try.underlying9 ra11) ?_
              refine hK.out _ _ hS11 ?_
              clear hK K
              try simp only [Act.put, List.setIfInBounds_toArray, List.set_cons_zero, List.set_cons_succ]
              refine alone 9 rfl (by kernel_rfl) (by rfl) ?_
              intro K hK
              go_simp
              refine (RH0.out _).mono ?_
              rintro e Z13 ⟨A2, c2, rfl, ho13, hb13⟩
              have rb13 := rb11.below hb13 rb11.lt
              have rc13 := src_own ho13
              have hS13 := below_trans hS11 hb13
              go_simp
              refine hK.out _ _ hS13 ?_
              clear hK K
              try simp only [Act.put, List.setIfInBounds_toArray, List.set_cons_zero, List.set_cons_succ]
              refine alone 10 rfl (by kernel_rfl) (by rfl) ?_
              intro K hK
              go_simp
              subst hva
              refine (RW0.out _ A2 c2 _ rb13.lt (rb13.cell 0) rc13).mono ?_
              rintro e Z14 ⟨A3, c3, rfl, ho14, hb14⟩
              have rb14 := rb13.below hb14 rb13.lt
              have rc14 := src_keep rc13 hb14
              have rd14 := ho14.rd
              have hS14 := below_trans hS13 hb14
              go_simp
              refine hK.out _ _ hS14 ?_
              clear hK K
              try simp only [Act.put, List.setIfInBounds_toArray, List.set_cons_zero, List.set_cons_succ]
              generalize hva : (⟨Z1.heap.size, 0, none⟩ : Addr) = ad
              refine alone 11 rfl (by kernel_rfl) (by rfl) ?_
              intro K hK
              refine wp_run _ (run_string_op 36 9 5 _ rfl rfl Try.underlying36 Try.underlying5 Try.underlying9 rd14) ?_
              refine hK.out _ _ hS14 ?_
              clear hK K
              try simp only [Act.put, List.setIfInBounds_toArray, List.set_cons_zero, List.set_cons_succ]
              exact REST ad A1 c1 A2 c2 A3 c3 Z14 hS14
            · skip
              intro K hK
              go_simp
              refine (RH0.out _).mono ?_
              rintro e Z16 ⟨A2, c2, rfl, ho16, hb16⟩
              have ra16 := ra11.below hb16 (Nat.le_refl _)
              have rb16 := rb11.below hb16 rb11.lt
              have rc16 := src_own ho16
              have hS16 := below_trans hS11 hb16
              go_simp
              refine hK.out _ _ hS16 ?_
              clear hK K
              try simp only [Act.put, List.setIfInBounds_toArray, List.set_cons_zero, List.set_cons_succ]
              refine ready_two 4 10 rfl rfl (by kernel_rfl) (by rfl) (by rfl) ?_ ?_
              · skip
                intro K hK
                refine wp_run _ (run_string_op 36 9 5 _ rfl rfl Try.underlying36 Try.underlying5 Try.underlying9 ra16) ?_
                refine hK.out _ _ hS16 ?_
                clear hK K
                try simp only [Act.put, List.setIfInBounds_toArray, List.set_cons_zero, List.set_cons_succ]
                refine alone 10 rfl (by kernel_rfl) (by rfl) ?_
                intro K hK
                go_simp
                subst hva
                refine (RW0.out _ A2 c2 _ rb16.lt (rb16.cell 0) rc16).mono ?_
                rintro e Z18 ⟨A3, c3, rfl, ho18, hb18⟩
                have rb18 := rb16.below hb18 rb16.lt
                have rc18 := src_keep rc16 hb18
                have rd18 := ho18.rd
                have hS18 := below_trans hS16 hb18
                go_simp
                refine hK.out _ _ hS18 ?_
                clear hK K
                try simp only [Act.put, List.setIfInBounds_toArray, List.set_cons_zero, List.set_cons_succ]
                generalize hva : (⟨Z1.heap.size, 0, none⟩ : Addr) = ad
                refine alone 11 rfl (by kernel_rfl) (by rfl) ?_
                intro K hK
                refine wp_run _ (run_string_op 36 9 5 _ rfl rfl Try.underlying36 Try.underlying5 Try.underlying9 rd18) ?_
                refine hK.out _ _ hS18 ?_
                clear hK K
                try simp only [Act.put, List.setIfInBounds_toArray, List.set_cons_zero, List.set_cons_succ]
                exact REST ad A1 c1 A2 c2 A3 c3 Z18 hS18
              · skip
                intro K hK
                go_simp
                subst hva
                refine (RW0.out _ A2 c2 _ rb16.lt (rb16.cell 0) rc16).mono ?_
                rintro e Z20 ⟨A3, c3, rfl, ho20, hb20⟩
                have ra20 := ra16.below hb20 (Nat.le_refl _)
                have rb20 := rb16.below hb20 rb16.lt
                have rc20 := src_keep rc16 hb20
                have rd20 := ho20.rd
                have hS20 := below_trans hS16 hb20
                go_simp
                refine hK.out _ _ hS20 ?_
                clear hK K
                try simp only [Act.put, List.setIfInBounds_toArray, List.set_cons_zero, List.set_cons_succ]
                generalize hva : (⟨Z1.heap.size, 0, none⟩ : Addr) = ad
                refine ready_two 4 11 rfl rfl (by kernel_rfl) (by rfl) (by rfl) ?_ ?_
                · skip
                  intro K hK
                  refine wp_run _ (run_string_op 36 9 5 _ rfl rfl Try.underlying36 Try.underlying5 Try.underlying9 ra20) ?_
                  refine hK.out _ _ hS20 ?_
                  clear hK K
                  try simp only [Act.put, List.setIfInBounds_toArray, List.set_cons_zero, List.set_cons_succ]
                  refine alone 11 rfl (by kernel_rfl) (by rfl) ?_
                  intro K hK
                  refine wp_run _ (run_string_op 36 9 5 _ rfl rfl Try.underlying36 Try.underlying5 Try.underlying9 rd20) ?_
                  refine hK.out _ _ hS20 ?_
                  clear hK K
                  try simp only [Act.put, List.setIfInBounds_toArray, List.set_cons_zero, List.set_cons_succ]
                  exact REST ad A1 c1 A2 c2 A3 c3 Z20 hS20
                · skip
                  intro K hK
                  refine wp_run _ (run_string_op 36 9 5 _ rfl rfl Try.underlying36 Try.underlying5 Try.underlying9 rd20) ?_
                  refine hK.out _ _ hS20 ?_
                  clear hK K
                  try simp only [Act.put, List.setIfInBounds_toArray, List.set_cons_zero, List.set_cons_succ]
                  refine alone 4 rfl (by kernel_rfl) (by rfl) ?_
                  intro K hK
                  refine wp_run _ (run_string_op 36 9 5 _ rfl rfl Try.underlying36 Try.underlying5 Try.underlying9 ra20) ?_
                  refine hK.out _ _ hS20 ?_
                  clear hK K
                  try simp only [Act.put, List.setIfInBounds_toArray, List.set_cons_zero, List.set_cons_succ]
                  exact REST ad A1 c1 A2 c2 A3 c3 Z20 hS20
          · skip
            intro K hK
            go_simp
            refine (RH0.out _).mono ?_
            rintro e Z25 ⟨A2, c2, rfl, ho25, hb25⟩
            have ra25 := ra1.below hb25 (Nat.le_refl _)
            have rc25 := src_own ho25
            have hS25 := below_trans hS1 hb25
            go_simp
            refine hK.out _ _ hS25 ?_
            clear hK K
            try simp only [Act.put, List.setIfInBounds_toArray, List.set_cons_zero, List.set_cons_succ]
            refine ready_two 4 7 rfl rfl (by kernel_rfl) (by rfl) (by rfl) ?_ ?_
            · skip
              intro K hK
              refine wp_run _ (run_string_op 36 9 5 _ rfl rfl Try.underlying36 Try.underlying5 Try.underlying9 ra25) ?_
              refine hK.out _ _ hS25 ?_
              clear hK K
              try simp only [Act.put, List.setIfInBounds_toArray, List.set_cons_zero, List.set_cons_succ]
              refine alone 7 rfl (by kernel_rfl) (by rfl) ?_
              intro K hK
              go_simp
              have hx27 := hS25.alloc (hBs _ hS25) (.cells #[.int .u32 (s0 : Nat)] 22)
              have hb27 := below_alloc (Below.refl _ Z25) (.cells #[.int .u32 (s0 : Nat)] 22)
              refine hK.out _ _ hx27 ?_
              clear hK K
              try simp only [Act.put, List.setIfInBounds_toArray, List.set_cons_zero, List.set_cons_succ]
              refine cut_any (fun Y => Below Z25.heap.size Z25 Y ∧ Whole Y Z25.heap.size 22 #[.int .u32 (s0 : Nat)]) ⟨hb27, Whole.new _ _ _⟩ ?_
              clear hx27 hb27
              rintro Z27 ⟨hb27, rb27⟩
              have rc27 := src_keep rc25 hb27
              have hS27 := below_trans hS25 hb27
              generalize hva : (⟨Z25.heap.size, 0, none⟩ : Addr) = ad
              refine alone 10 rfl (by kernel_rfl) (by rfl) ?_
              intro K hK
              go_simp
              subst hva
              refine (RW0.out _ A2 c2 _ rb27.lt (rb27.cell 0) rc27).mono ?_
              rintro e Z28 ⟨A3, c3, rfl, ho28, hb28⟩
              have rb28 := rb27.below hb28 rb27.lt
              have rc28 := src_keep rc27 hb28
              have rd28 := ho28.rd
              have hS28 := below_trans hS27 hb28
              go_simp
              refine hK.out _ _ hS28 ?_
              clear hK K
              try simp only [Act.put, List.setIfInBounds_toArray, List.set_cons_zero, List.set_cons_succ]
              generalize hva : (⟨Z25.heap.size, 0, none⟩ : Addr) = ad
              refine alone 11 rfl (by kernel_rfl) (by rfl) ?_
              intro K hK
              refine wp_run _ (run_string_op 36 9 5 _ rfl rfl Try.underlying36 Try.underlying5 Try.underlying9 rd28) ?_
              refine hK.out _ _ hS28 ?_
              clear hK K
              try simp only [Act.put, List.setIfInBounds_toArray, List.set_cons_zero, List.set_cons_succ]
              exact REST ad A1 c1 A2 c2 A3 c3 Z28 hS28
            · skip
              intro K hK
              go_simp
              have hx30 := hS25.alloc (hBs _ hS25) (.cells #[.int .u32 (s0 : Nat)] 22)
              have hb30 := below_alloc (Below.refl _ Z25) (.cells #[.int .u32 (s0 : Nat)] 22)
              refine hK.out _ _ hx30 ?_
              clear hK K
              try simp only [Act.put, List.setIfInBounds_toArray, List.set_cons_zero, List.set_cons_succ]
              refine cut_any (fun Y => Below Z25.heap.size Z25 Y ∧ Whole Y Z25.heap.size 22 #[.int .u32 (s0 : Nat)]) ⟨hb30, Whole.new _ _ _⟩ ?_
              clear hx30 hb30
              rintro Z30 ⟨hb30, rb30⟩
              have ra30 := ra25.below hb30 (Nat.le_refl _)
              have rc30 := src_keep rc25 hb30
              have hS30 := below_trans hS25 hb30
              generalize hva : (⟨Z25.heap.size, 0, none⟩ : Addr) = ad
              refine ready_two 4 10 rfl rfl (by kernel_rfl) (by rfl) (by rfl) ?_ ?_
              · skip
                intro K hK
                refine wp_run _ (run_string_op 36 9 5 _ rfl rfl Try.underlying36 Try.underlying5 Try.underlying9 ra30) ?_
                refine hK.out _ _ hS30 ?_
                clear hK K
                try simp only [Act.put, List.setIfInBounds_toArray, List.set_cons_zero, List.set_cons_succ]
                refine alone 10 rfl (by kernel_rfl) (by rfl) ?_
                intro K hK
                go_simp
                subst hva
                refine (RW0.out _ A2 c2 _ rb30.lt (rb30.cell 0) rc30).mono ?_
                rintro e Z32 ⟨A3, c3, rfl, ho32, hb32⟩
                have rb32 := rb30.below hb32 rb30.lt
                have rc32 := src_keep rc30 hb32
                have rd32 := ho32.rd
                have hS32 := below_trans hS30 hb32
                go_simp
                refine hK.out _ _ hS32 ?_
                clear hK K
                try simp only [Act.put, List.setIfInBounds_toArray, List.set_cons_zero, List.set_cons_succ]
                generalize hva : (⟨Z25.heap.size, 0, none⟩ : Addr) = ad
                refine alone 11 rfl (by kernel_rfl) (by rfl) ?_
                intro K hK
                refine wp_run _ (run_string_op 36 9 5 _ rfl rfl Try.underlying36 Try.underlying5 Try.underlying9 rd32) ?_
                refine hK.out _ _ hS32 ?_
                clear hK K
                try simp only [Act.put, List.setIfInBounds_toArray, List.set_cons_zero, List.set_cons_succ]
                exact REST ad A1 c1 A2 c2 A3 c3 Z32 hS32
              · skip
                intro K hK
                go_simp
                subst hva
                refine (RW0.out _ A2 c2 _ rb30.lt (rb30.cell 0) rc30).mono ?_
                rintro e Z34 ⟨A3, c3, rfl, ho34, hb34⟩
                have ra34 := ra30.below hb34 (Nat.le_refl _)
                have rb34 := rb30.below hb34 rb30.lt
                have rc34 := src_keep rc30 hb34
                have rd34 := ho34.rd
                have hS34 := below_trans hS30 hb34
                go_simp
                refine hK.out _ _ hS34 ?_
                clear hK K
                try simp only [Act.put, List.setIfInBounds_toArray, List.set_cons_zero, List.set_cons_succ]
                generalize hva : (⟨Z25.heap.size, 0, none⟩ : Addr) = ad
                refine ready_two 4 11 rfl rfl (by kernel_rfl) (by rfl) (by rfl) ?_ ?_
                · skip
                  intro K hK
                  refine wp_run _ (run_string_op 36 9 5 _ rfl rfl Try.underlying36 Try.underlying5 Try.underlying9 ra34) ?_
                  refine hK.out _ _ hS34 ?_
                  clear hK K
                  try simp only [Act.put, List.setIfInBounds_toArray, List.set_cons_zero, List.set_cons_succ]
                  refine alone 11 rfl (by kernel_rfl) (by rfl) ?_
                  intro K hK
                  refine wp_run _ (run_string_op 36 9 5 _ rfl rfl Try.underlying36 Try.underlying5 Try.underlying9 rd34) ?_
                  refine hK.out _ _ hS34 ?_
                  clear hK K
                  try simp only [Act.put, List.setIfInBounds_toArray, List.set_cons_zero, List.set_cons_succ]
                  exact REST ad A1 c1 A2 c2 A3 c3 Z34 hS34
                · skip
                  intro K hK
                  refine wp_run _ (run_string_op 36 9 5 _ rfl rfl Try.underlying36 Try.underlying5 Try.underlying9 rd34) ?_
                  refine hK.out _ _ hS34 ?_
                  clear hK K
                  try simp only [Act.put, List.setIfInBounds_toArray, List.set_cons_zero, List.set_cons_succ]
                  refine alone 4 rfl (by kernel_rfl) (by rfl) ?_
                  intro K hK
                  refine wp_run _ (run_string_op 36 9 5 _ rfl rfl Try.underlying36 Try.underlying5 Try.underlying9 ra34) ?_
                  refine hK.out _ _ hS34 ?_
                  clear hK K
                  try simp only [Act.put, List.setIfInBounds_toArray, List.set_cons_zero, List.set_cons_succ]
                  exact REST ad A1 c1 A2 c2 A3 c3 Z34 hS34
        · skip
          intro K hK
          go_simp
          have hx39 := hS.alloc (hBs _ hS) (.cells #[.int .u32 (s0 : Nat)] 22)
          have hb39 := below_alloc (Below.refl _ v1) (.cells #[.int .u32 (s0 : Nat)] 22)
          refine hK.out _ _ hx39 ?_
          clear hK K
          try simp only [Act.put, List.setIfInBounds_toArray, List.set_cons_zero, List.set_cons_succ]
          refine cut_any (fun Y => Below v1.heap.size v1 Y ∧ Whole Y v1.heap.size 22 #[.int .u32 (s0 : Nat)]) ⟨hb39, Whole.new _ _ _⟩ ?_
          clear hx39 hb39
          rintro Z39 ⟨hb39, rb39⟩
          have hS39 := below_trans hS hb39
          generalize hva : (⟨v1.heap.size, 0, none⟩ : Addr) = ad
          refine alone 3 rfl (by kernel_rfl) (by rfl) ?_
          intro K hK
          go_simp
          refine (CW0.out _).mono ?_
          rintro e Z40 ⟨A1, c1, rfl, ho40, hb40⟩
          have rb40 := rb39.below hb40 rb39.lt
          have ra40 := ho40.rd
          have hS40 := below_trans hS39 hb40
          go_simp
          refine hK.out _ _ hS40 ?_
          clear hK K
          try simp only [Act.put, List.setIfInBounds_toArray, List.set_cons_zero, List.set_cons_succ]
          refine ready_two 4 9 rfl rfl (by kernel_rfl) (by rfl) (by rfl) ?_ ?_
          · skip
            intro K hK
            refine wp_run _ (run_string_op 36 9 5 _ rfl rfl Try.underlying36 Try.underlying5 Try.underlying9 ra40) ?_
            refine hK.out _ _ hS40 ?_
            clear hK K
            try simp only [Act.put, List.setIfInBounds_toArray, List.set_cons_zero, List.set_cons_succ]
            refine alone 9 rfl (by kernel_rfl) (by rfl) ?_
            intro K hK
            go_simp
            refine (RH0.out _).mono ?_
            rintro e Z42 ⟨A2, c2, rfl, ho42, hb42⟩
            have rb42 := rb40.below hb42 rb40.lt
            have rc42 := src_own ho42
            have hS42 := below_trans hS40 hb42
            go_simp
            refine hK.out _ _ hS42 ?_
            clear hK K
            try simp only [Act.put, List.setIfInBounds_toArray, List.set_cons_zero, List.set_cons_succ]
            refine alone 10 rfl (by kernel_rfl) (by rfl) ?_
            intro K hK
            go_simp
            subst hva
            refine (RW0.out _ A2 c2 _ rb42.lt (rb42.cell 0) rc42).mono ?_
            rintro e Z43 ⟨A3, c3, rfl, ho43, hb43⟩
            have rb43 := rb42.below hb43 rb42.lt
            have rc43 := src_keep rc42 hb43
            have rd43 := ho43.rd
            have hS43 := below_trans hS42 hb43
            go_simp
            refine hK.out _ _ hS43 ?_
            clear hK K
            try simp only [Act.put, List.setIfInBounds_toArray, List.set_cons_zero, List.set_cons_succ]
            generalize hva : (⟨v1.heap.size, 0, none⟩ : Addr) = ad
            refine alone 11 rfl (by kernel_rfl) (by rfl) ?_
            intro K hK
            refine wp_run _ (run_string_op 36 9 5 _ rfl rfl Try.underlying36 Try.underlying5 Try.underlying9 rd43) ?_
            refine hK.out _ _ hS43 ?_
            clear hK K
            try simp only [Act.put, List.setIfInBounds_toArray, List.set_cons_zero, List.set_cons_succ]
            exact REST ad A1 c1 A2 c2 A3 c3 Z43 hS43
          · skip
            intro K hK
            go_simp
            refine (RH0.out _).mono ?_
            rintro e Z45 ⟨A2, c2, rfl, ho45, hb45⟩
            have ra45 := ra40.below hb45 (Nat.le_refl _)
            have rb45 := rb40.below hb45 rb40.lt
            have rc45 := src_own ho45
            have hS45 := below_trans hS40 hb45
            go_simp
            refine hK.out _ _ hS45 ?_
            clear hK K
            try simp only [Act.put, List.setIfInBounds_toArray, List.set_cons_zero, List.set_cons_succ]
            refine ready_two 4 10 rfl rfl (by kernel_rfl) (by rfl) (by rfl) ?_ ?_
            · skip
              intro K hK
              refine wp_run _ (run_string_op 36 9 5 _ rfl rfl Try.underlying36 Try.underlying5 Try.underlying9 ra45) ?_
              refine hK.out _ _ hS45 ?_
              clear hK K
              try simp only [Act.put, List.setIfInBounds_toArray, List.set_cons_zero, List.set_cons_succ]
              refine alone 10 rfl (by kernel_rfl) (by rfl) ?_
              intro K hK
              go_simp
              subst hva
              refine (RW0.out _ A2 c2 _ rb45.lt (rb45.cell 0) rc45).mono ?_
              rintro e Z47 ⟨A3, c3, rfl, ho47, hb47⟩
              have rb47 := rb45.below hb47 rb45.lt
              have rc47 := src_keep rc45 hb47
              have rd47 := ho47.rd
              have hS47 := below_trans hS45 hb47
              go_simp
              refine hK.out _ _ hS47 ?_
              clear hK K
              try simp only [Act.put, List.setIfInBounds_toArray, List.set_cons_zero, List.set_cons_succ]
              generalize hva : (⟨v1.heap.size, 0, none⟩ : Addr) = ad
              refine alone 11 rfl (by kernel_rfl) (by rfl) ?_
              intro K hK
              refine wp_run _ (run_string_op 36 9 5 _ rfl rfl Try.underlying36 Try.underlying5 Try.underlying9 rd47) ?_
              refine hK.out _ _ hS47 ?_
              clear hK K
              try simp only [Act.put, List.setIfInBounds_toArray, List.set_cons_zero, List.set_cons_succ]
              exact REST ad A1 c1 A2 c2 A3 c3 Z47 hS47
            · skip
              intro K hK
              go_simp
              subst hva
              refine (RW0.out _ A2 c2 _ rb45.lt (rb45.cell 0) rc45).mono ?_
              rintro e Z49 ⟨A3, c3, rfl, ho49, hb49⟩
              have ra49 := ra45.below hb49 (Nat.le_refl _)
              have rb49 := rb45.below hb49 rb45.lt
              have rc49 := src_keep rc45 hb49
              have rd49 := ho49.rd
              have hS49 := below_trans hS45 hb49
              go_simp
              refine hK.out _ _ hS49 ?_
              clear hK K
              try simp only [Act.put, List.setIfInBounds_toArray, List.set_cons_zero, List.set_cons_succ]
              generalize hva : (⟨v1.heap.size, 0, none⟩ : Addr) = ad
              refine ready_two 4 11 rfl rfl (by kernel_rfl) (by rfl) (by rfl) ?_ ?_
              · skip
                intro K hK
                refine wp_run _ (run_string_op 36 9 5 _ rfl rfl Try.underlying36 Try.underlying5 Try.underlying9 ra49) ?_
                refine hK.out _ _ hS49 ?_
                clear hK K
                try simp only [Act.put, List.setIfInBounds_toArray, List.set_cons_zero, List.set_cons_succ]
                refine alone 11 rfl (by kernel_rfl) (by rfl) ?_
                intro K hK
                refine wp_run _ (run_string_op 36 9 5 _ rfl rfl Try.underlying36 Try.underlying5 Try.underlying9 rd49) ?_
                refine hK.out _ _ hS49 ?_
                clear hK K
                try simp only [Act.put, List.setIfInBounds_toArray, List.set_cons_zero, List.set_cons_succ]
                exact REST ad A1 c1 A2 c2 A3 c3 Z49 hS49
              · skip
                intro K hK
                refine wp_run _ (run_string_op 36 9 5 _ rfl rfl Try.underlying36 Try.underlying5 Try.underlying9 rd49) ?_
                refine hK.out _ _ hS49 ?_
                clear hK K
                try simp only [Act.put, List.setIfInBounds_toArray, List.set_cons_zero, List.set_cons_succ]
                refine alone 4 rfl (by kernel_rfl) (by rfl) ?_
                intro K hK
                refine wp_run _ (run_string_op 36 9 5 _ rfl rfl Try.underlying36 Try.underlying5 Try.underlying9 ra49) ?_
                refine hK.out _ _ hS49 ?_
                clear hK K
                try simp only [Act.put, List.setIfInBounds_toArray, List.set_cons_zero, List.set_cons_succ]
                exact REST ad A1 c1 A2 c2 A3 c3 Z49 hS49
      case rest =>
        intro ad A1 c1 A2 c2 A3 c3 Z hS
        refine take 12 _ rfl (by kernel_rfl) (by kernel_rfl) (by kernel_rfl) (fun _ _ _ h => h) (by rfl) hS (by intro w _; go_simp; with_reducible rfl) ?_
        try simp only [Act.put, List.setIfInBounds_toArray, List.set_cons_zero, List.set_cons_succ]
        refine take 13 _ rfl (by kernel_rfl) (by kernel_rfl) (by kernel_rfl) (fun _ _ _ h => h) (by rfl) hS (by intro w _; go_simp; with_reducible rfl) ?_
        try simp only [Act.put, List.setIfInBounds_toArray, List.set_cons_zero, List.set_cons_succ]
        refine take 14 _ rfl (by kernel_rfl) (by kernel_rfl) (by kernel_rfl) (fun _ _ _ h => h) (by rfl) hS (by intro w _; go_simp; with_reducible rfl) ?_
        try simp only [Act.put, List.setIfInBounds_toArray, List.set_cons_zero, List.set_cons_succ]
        refine take 15 _ rfl (by kernel_rfl) (by kernel_rfl) (by kernel_rfl) (fun _ _ _ h => h) (by rfl) hS (fun w hw => run_load_op 31 (.tmp 5) rfl (B1) rfl (F1.out.below hw F1.out.lt) rfl rfl (by rw [H1Z.out]; kernel_rfl)) ?_
        try simp only [Act.put, List.setIfInBounds_toArray, List.set_cons_zero, List.set_cons_succ]
        refine take 18 _ rfl (by kernel_rfl) (by kernel_rfl) (by kernel_rfl) (fun _ _ _ h => h) (by rfl) hS (by intro w _; go_simp; with_reducible rfl) ?_
        try simp only [Act.put, List.setIfInBounds_toArray, List.set_cons_zero, List.set_cons_succ]
        refine take 19 _ rfl (by kernel_rfl) (by kernel_rfl) (by kernel_rfl) (fun _ _ _ h => h) (by rfl) hS (by intro w hw; have hcl := ((F1.out.below hw F1.out.lt).cell 0).trans HC10.out; go_simp; with_reducible rfl) ?_
        try simp only [Act.put, List.setIfInBounds_toArray, List.set_cons_zero, List.set_cons_succ]
        refine take 20 _ rfl (by kernel_rfl) (by kernel_rfl) (by kernel_rfl) (fun _ _ _ h => h) (by rfl) hS (by intro w _; go_simp; with_reducible rfl) ?_
        try simp only [Act.put, List.setIfInBounds_toArray, List.set_cons_zero, List.set_cons_succ]
        refine take 21 _ rfl (by kernel_rfl) (by kernel_rfl) (by kernel_rfl) (fun _ _ _ h => h) (by rfl) hS (by intro w hw; have hcl := ((F1.out.below hw F1.out.lt).cell 1).trans HC11.out; go_simp; with_reducible rfl) ?_
        try simp only [Act.put, List.setIfInBounds_toArray, List.set_cons_zero, List.set_cons_succ]
        refine take 23 _ rfl (by kernel_rfl) (by kernel_rfl) (by kernel_rfl) (fun _ _ _ h => h) (by rfl) hS (fun w hw => run_load_op 31 (.tmp 5) rfl (B1) rfl (F1.out.below hw F1.out.lt) rfl rfl (by rw [H1Z.out]; kernel_rfl)) ?_
        try simp only [Act.put, List.setIfInBounds_toArray, List.set_cons_zero, List.set_cons_succ]
        apply share7 (Φ := fun X => Below X7.heap.size X7 X)
        case lead =>
          intro REST
          refine ready_two 16 22 rfl rfl (by kernel_rfl) (by rfl) (by rfl) ?_ ?_
          · skip
            intro K hK
            go_simp
            refine (CW1.out _).mono ?_
            rintro e Z1 ⟨A1, c1, rfl, ho1, hb1⟩
            have ra1 := ho1.rd
            have hS1 := below_trans hS hb1
            go_simp
            refine hK.out _ _ hS1 ?_
            clear hK K
            try simp only [Act.put, List.setIfInBounds_toArray, List.set_cons_zero, List.set_cons_succ]
            refine ready_three 17 22 24 rfl rfl rfl (by kernel_rfl) (by rfl) (by rfl) (by rfl) ?_ ?_ ?_
            · skip
              intro K hK
              refine wp_run _ (run_string_op 36 9 5 _ rfl rfl Try.underlying36 Try.underlying5 Try.underlying9 ra1) ?_
              refine hK.out _ _ hS1 ?_
              clear hK K
              try simp only [Act.put, List.setIfInBounds_toArray, List.set_cons_zero, List.set_cons_succ]
              refine ready_two 22 24 rfl rfl (by kernel_rfl) (by rfl) (by rfl) ?_ ?_
              · skip
                intro K hK
                go_simp
                have hx3 := hS1.alloc (hBs _ hS1) (.cells #[.int .u32 (s1 : Nat), .int .u32 (r1 : Nat)] 22)
                have hb3 := below_alloc (Below.refl _ Z1) (.cells #[.int .u32 (s1 : Nat), .int .u32 (r1 : Nat)] 22)
                refine hK.out _ _ hx3 ?_
                clear hK K
                try simp only [Act.put, List.setIfInBounds_toArray, List.set_cons_zero, List.set_cons_succ]
                refine cut_any (fun Y => Below Z1.heap.size Z1 Y ∧ Whole Y Z1.heap.size 22 #[.int .u32 (s1 : Nat), .int .u32 (r1 : Nat)]) ⟨hb3, Whole.new _ _ _⟩ ?_
                clear hx3 hb3
                rintro Z3 ⟨hb3, rb3⟩
                have hS3 := below_trans hS1 hb3
                generalize hva : (⟨Z1.heap.size, 0, none⟩ : Addr) = ad
                refine alone 24 rfl (by kernel_rfl) (by rfl) ?_
                intro K hK
                go_simp
                refine (RH1.out _).mono ?_
                rintro e Z4 ⟨A2, c2, rfl, ho4, hb4⟩
                have rb4 := rb3.below hb4 rb3.lt
                have rc4 := src_own ho4
                have hS4 := below_trans hS3 hb4
                go_simp
                refine hK.out _ _ hS4 ?_
                clear hK K
                try simp only [Act.put, List.setIfInBounds_toArray, List.set_cons_zero, List.set_cons_succ]
                refine alone 25 rfl (by kernel_rfl) (by rfl) ?_
                intro K hK
                go_simp
                subst hva
                refine (RW1.out _ A2 c2 _ rb4.lt (rb4.cell 0) (rb4.cell 1) rc4).mono ?_
                rintro e Z5 ⟨A3, c3, rfl, ho5, hb5⟩
                have rb5 := rb4.below hb5 rb4.lt
                have rc5 := src_keep rc4 hb5
                have rd5 := ho5.rd
                have hS5 := below_trans hS4 hb5
                go_simp
                refine hK.out _ _ hS5 ?_
                clear hK K
                try simp only [Act.put, List.setIfInBounds_toArray, List.set_cons_zero, List.set_cons_succ]
                generalize hva : (⟨Z1.heap.size, 0, none⟩ : Addr) = ad
                refine alone 26 rfl (by kernel_rfl) (by rfl) ?_
                intro K hK
                refine wp_run _ (run_string_op 36 9 5 _ rfl rfl Try.underlying36 Try.underlying5 Try.underlying9 rd5) ?_
                refine hK.out _ _ hS5 ?_
                clear hK K
                try simp only [Act.put, List.setIfInBounds_toArray, List.set_cons_zero, List.set_cons_succ]
                exact REST ad A1 c1 A2 c2 A3 c3 Z5 hS5
              · skip
                intro K hK
                go_simp
                refine (RH1.out _).mono ?_
                rintro e Z7 ⟨A2, c2, rfl, ho7, hb7⟩
                have rc7 := src_own ho7
                have hS7 := below_trans hS1 hb7
                go_simp
                refine hK.out _ _ hS7 ?_
                clear hK K
                try simp only [Act.put, List.setIfInBounds_toArray, List.set_cons_zero, List.set_cons_succ]
                refine alone 22 rfl (by kernel_rfl) (by rfl) ?_
                intro K hK
                go_simp
                have hx8 := hS7.alloc (hBs _ hS7) (.cells #[.int .u32 (s1 : Nat), .int .u32 (r1 : Nat)] 22)
                have hb8 := below_alloc (Below.refl _ Z7) (.cells #[.int .u32 (s1 : Nat), .int .u32 (r1 : Nat)] 22)
                refine hK.out _ _ hx8 ?_
                clear hK K
                try simp only [Act.put, List.setIfInBounds_toArray, List.set_cons_zero, List.set_cons_succ]
                refine cut_any (fun Y => Below Z7.heap.size Z7 Y ∧ Whole Y Z7.heap.size 22 #[.int .u32 (s1 : Nat), .int .u32 (r1 : Nat)]) ⟨hb8, Whole.new _ _ _⟩ ?_
                clear hx8 hb8
                rintro Z8 ⟨hb8, rb8⟩
                have rc8 := src_keep rc7 hb8
                have hS8 := below_trans hS7 hb8
                generalize hva : (⟨Z7.heap.size, 0, none⟩ : Addr) = ad
                refine alone 25 rfl (by kernel_rfl) (by rfl) ?_
                intro K hK
                go_simp
                subst hva
                refine (RW1.out _ A2 c2 _ rb8.lt (rb8.cell 0) (rb8.cell 1) rc8).mono ?_
                rintro e Z9 ⟨A3, c3, rfl, ho9, hb9⟩
                have rb9 := rb8.below hb9 rb8.lt
                have rc9 := src_keep rc8 hb9
                have rd9 := ho9.rd
                have hS9 := below_trans hS8 hb9
                go_simp
                refine hK.out _ _ hS9 ?_
                clear hK K
                try simp only [Act.put, List.setIfInBounds_toArray, List.set_cons_zero, List.set_cons_succ]
                generalize hva : (⟨Z7.heap.size, 0, none⟩ : Addr) = ad
                refine alone 26 rfl (by kernel_rfl) (by rfl) ?_
                intro K hK
                refine wp_run _ (run_string_op 36 9 5 _ rfl rfl Try.underlying36 Try.underlying5 Try.underlying9 rd9) ?_
                refine hK.out _ _ hS9 ?_
                clear hK K
                try simp only [Act.put, List.setIfInBounds_toArray, List.set_cons_zero, List.set_cons_succ]
                exact REST ad A1 c1 A2 c2 A3 c3 Z9 hS9
            · skip
              intro K hK
              go_simp
              have hx11 := hS1.alloc (hBs _ hS1) (.cells #[.int .u32 (s1 : Nat), .int .u32 (r1 : Nat)] 22)
              have hb11 := below_alloc (Below.refl _ Z1) (.cells #[.int .u32 (s1 : Nat), .int .u32 (r1 : Nat)] 22)
              refine hK.out _ _ hx11 ?_
              clear hK K
              try simp only [Act.put, List.setIfInBounds_toArray, List.set_cons_zero, List.set_cons_succ]
              refine cut_any (fun Y => Below Z1.heap.size Z1 Y ∧ Whole Y Z1.heap.size 22 #[.int .u32 (s1 : Nat), .int .u32 (r1 : Nat)]) ⟨hb11, Whole.new _ _ _⟩ ?_
              clear hx11 hb11
              rintro Z11 ⟨hb11, rb11⟩
              have ra11 := ra1.below hb11 (Nat.le_refl _)
              have hS11 := below_trans hS1 hb11
              generalize hva : (⟨Z1.heap.size, 0, none⟩ : Addr) = ad
              refine ready_two 17 24 rfl rfl (by kernel_rfl) (by rfl) (by rfl) ?_ ?_
              · skip
                intro K hK
                refine wp_run _ (run_string_op 36 9 5 _ rfl rfl Try.underlying36 Try.underlying5 Try.underlying9 ra11) ?_
                refine hK.out _ _ hS11 ?_
                clear hK K
                try simp only [Act.put, List.setIfInBounds_toArray, List.set_cons_zero, List.set_cons_succ]
                refine alone 24 rfl (by kernel_rfl) (by rfl) ?_
                intro K hK
                go_simp
                refine (RH1.out _).mono ?_
                rintro e Z13 ⟨A2, c2, rfl, ho13, hb13⟩
                have rb13 := rb11.below hb13 rb11.lt
                have rc13 := src_own ho13
                have hS13 := below_trans hS11 hb13
                go_simp
                refine hK.out _ _ hS13 ?_
                clear hK K
                try simp only [Act.put, List.setIfInBounds_toArray, List.set_cons_zero, List.set_cons_succ]
                refine alone 25 rfl (by kernel_rfl) (by rfl) ?_
                intro K hK
                go_simp
                subst hva
                refine (RW1.out _ A2 c2 _ rb13.lt (rb13.cell 0) (rb13.cell 1) rc13).mono ?_
                rintro e Z14 ⟨A3, c3, rfl, ho14, hb14⟩
                have rb14 := rb13.below hb14 rb13.lt
                have rc14 := src_keep rc13 hb14
                have rd14 := ho14.rd
                have hS14 := below_trans hS13 hb14
                go_simp
                refine hK.out _ _ hS14 ?_
                clear hK K
                try simp only [Act.put, List.setIfInBounds_toArray, List.set_cons_zero, List.set_cons_succ]
                generalize hva : (⟨Z1.heap.size, 0, none⟩ : Addr) = ad
                refine alone 26 rfl (by kernel_rfl) (by rfl) ?_
                intro K hK
                refine wp_run _ (run_string_op 36 9 5 _ rfl rfl Try.underlying36 Try.underlying5 Try.underlying9 rd14) ?_
                refine hK.out _ _ hS14 ?_
                clear hK K
                try simp only [Act.put, List.setIfInBounds_toArray, List.set_cons_zero, List.set_cons_succ]
                exact REST ad A1 c1 A2 c2 A3 c3 Z14 hS14
              · skip
                intro K hK
                go_simp
                refine (RH1.out _).mono ?_
                rintro e Z16 ⟨A2, c2, rfl, ho16, hb16⟩
                have ra16 := ra11.below hb16 (Nat.le_refl _)
                have rb16 := rb11.below hb16 rb11.lt
                have rc16 := src_own ho16
                have hS16 := below_trans hS11 hb16
                go_simp
                refine hK.out _ _ hS16 ?_
                clear hK K
                try simp only [Act.put, List.setIfInBounds_toArray, List.set_cons_zero, List.set_cons_succ]
                refine ready_two 17 25 rfl rfl (by kernel_rfl) (by rfl) (by rfl) ?_ ?_
                · skip
                  intro K hK
                  refine wp_run _ (run_string_op 36 9 5 _ rfl rfl Try.underlying36 Try.underlying5 Try.underlying9 ra16) ?_
                  refine hK.out _ _ hS16 ?_
                  clear hK K
                  try simp only [Act.put, List.setIfInBounds_toArray, List.set_cons_zero, List.set_cons_succ]
                  refine alone 25 rfl (by kernel_rfl) (by rfl) ?_
                  intro K hK
                  go_simp
                  subst hva
                  refine (RW1.out _ A2 c2 _ rb16.lt (rb16.cell 0) (rb16.cell 1) rc16).mono ?_
                  rintro e Z18 ⟨A3, c3, rfl, ho18, hb18⟩
                  have rb18 := rb16.below hb18 rb16.lt
                  have rc18 := src_keep rc16 hb18
                  have rd18 := ho18.rd
                  have hS18 := below_trans hS16 hb18
                  go_simp
                  refine hK.out _ _ hS18 ?_
                  clear hK K
                  try simp only [Act.put, List.setIfInBounds_toArray, List.set_cons_zero, List.set_cons_succ]
                  generalize hva : (⟨Z1.heap.size, 0, none⟩ : Addr) = ad
                  refine alone 26 rfl (by kernel_rfl) (by rfl) ?_
                  intro K hK
                  refine wp_run _ (run_string_op 36 9 5 _ rfl rfl Try.underlying36 Try.underlying5 Try.underlying9 rd18) ?_
                  refine hK.out _ _ hS18 ?_
                  clear hK K
                  try simp only [Act.put, List.setIfInBounds_toArray, List.set_cons_zero, List.set_cons_succ]
                  exact REST ad A1 c1 A2 c2 A3 c3 Z18 hS18
                · skip
                  intro K hK
                  go_simp
                  subst hva
                  refine (RW1.out _ A2 c2 _ rb16.lt (rb16.cell 0) (rb16.cell 1) rc16).mono ?_
                  rintro e Z20 ⟨A3, c3, rfl, ho20, hb20⟩
                  have ra20 := ra16.below hb20 (Nat.le_refl _)
                  have rb20 := rb16.below hb20 rb16.lt
                  have rc20 := src_keep rc16 hb20
                  have rd20 := ho20.rd
                  have hS20 := below_trans hS16 hb20
                  go_simp
                  refine hK.out _ _ hS20 ?_
                  clear hK K
                  try simp only [Act.put, List.setIfInBounds_toArray, List.set_cons_zero, List.set_cons_succ]
                  generalize hva : (⟨Z1.heap.size, 0, none⟩ : Addr) = ad
                  refine ready_two 17 26 rfl rfl (by kernel_rfl) (by rfl) (by rfl) ?_ ?_
                  · skip
                    intro K hK
                    refine wp_run _ (run_string_op 36 9 5 _ rfl rfl Try.underlying36 Try.underlying5 Try.underlying9 ra20) ?_
                    refine hK.out _ _ hS20 ?_
                    clear hK K
                    try simp only [Act.put, List.setIfInBounds_toArray, List.set_cons_zero, List.set_cons_succ]
                    refine alone 26 rfl (by kernel_rfl) (by rfl) ?_
                    intro K hK
                    refine wp_run _ (run_string_op 36 9 5 _ rfl rfl Try.underlying36 Try.underlying5 Try.underlying9 rd20) ?_
                    refine hK.out _ _ hS20 ?_
                    clear hK K
                    try simp only [Act.put, List.setIfInBounds_toArray, List.set_cons_zero, List.set_cons_succ]
                    exact REST ad A1 c1 A2 c2 A3 c3 Z20 hS20
                  · skip
                    intro K hK
                    refine wp_run _ (run_string_op 36 9 5 _ rfl rfl Try.underlying36 Try.underlying5 Try.underlying9 rd20) ?_
                    refine hK.out _ _ hS20 ?_
                    clear hK K
                    try simp only [Act.put, List.setIfInBounds_toArray, List.set_cons_zero, List.set_cons_succ]
                    refine alone 17 rfl (by kernel_rfl) (by rfl) ?_
                    intro K hK
                    refine wp_run _ (run_string_op 36 9 5 _ rfl rfl Try.underlying36 Try.underlying5 Try.underlying9 ra20) ?_
                    refine hK.out _ _ hS20 ?_
                    clear hK K
                    try simp only [Act.put, List.setIfInBounds_toArray, List.set_cons_zero, List.set_cons_succ]
                    exact REST ad A1 c1 A2 c2 A3 c3 Z20 hS20
            · skip
              intro K hK
              go_simp
              refine (RH1.out _).mono ?_
              rintro e Z25 ⟨A2, c2, rfl, ho25, hb25⟩
              have ra25 := ra1.below hb25 (Nat.le_refl _)
              have rc25 := src_own ho25
              have hS25 := below_trans hS1 hb25
              go_simp
              refine hK.out _ _ hS25 ?_
              clear hK K
              try simp only [Act.put, List.setIfInBounds_toArray, List.set_cons_zero, List.set_cons_succ]
              refine ready_two 17 22 rfl rfl (by kernel_rfl) (by rfl) (by rfl) ?_ ?_
              · skip
                intro K hK
                refine wp_run _ (run_string_op 36 9 5 _ rfl rfl Try.underlying36 Try.underlying5 Try.underlying9 ra25) ?_
                refine hK.out _ _ hS25 ?_
                clear hK K
                try simp only [Act.put, List.setIfInBounds_toArray, List.set_cons_zero, List.set_cons_succ]
                refine alone 22 rfl (by kernel_rfl) (by rfl) ?_
                intro K hK
                go_simp
                have hx27 := hS25.alloc (hBs _ hS25) (.cells #[.int .u32 (s1 : Nat), .int .u32 (r1 : Nat)] 22)
                have hb27 := below_alloc (Below.refl _ Z25) (.cells #[.int .u32 (s1 : Nat), .int .u32 (r1 : Nat)] 22)
                refine hK.out _ _ hx27 ?_
                clear hK K
                try simp only [Act.put, List.setIfInBounds_toArray, List.set_cons_zero, List.set_cons_succ]
                refine cut_any (fun Y => Below Z25.heap.size Z25 Y ∧ Whole Y Z25.heap.size 22 #[.int .u32 (s1 : Nat), .int .u32 (r1 : Nat)]) ⟨hb27, Whole.new _ _ _⟩ ?_
                clear hx27 hb27
                rintro Z27 ⟨hb27, rb27⟩
                have rc27 := src_keep rc25 hb27
                have hS27 := below_trans hS25 hb27
                generalize hva : (⟨Z25.heap.size, 0, none⟩ : Addr) = ad
                refine alone 25 rfl (by kernel_rfl) (by rfl) ?_
                intro K hK
                go_simp
                subst hva
                refine (RW1.out _ A2 c2 _ rb27.lt (rb27.cell 0) (rb27.cell 1) rc27).mono ?_
                rintro e Z28 ⟨A3, c3, rfl, ho28, hb28⟩
                have rb28 := rb27.below hb28 rb27.lt
                have rc28 := src_keep rc27 hb28
                have rd28 := ho28.rd
                have hS28 := below_trans hS27 hb28
                go_simp
                refine hK.out _ _ hS28 ?_
                clear hK K
                try simp only [Act.put, List.setIfInBounds_toArray, List.set_cons_zero, List.set_cons_succ]
                generalize hva : (⟨Z25.heap.size, 0, none⟩ : Addr) = ad
                refine alone 26 rfl (by kernel_rfl) (by rfl) ?_
                intro K hK
                refine wp_run _ (run_string_op 36 9 5 _ rfl rfl Try.underlying36 Try.underlying5 Try.underlying9 rd28) ?_
                refine hK.out _ _ hS28 ?_
                clear hK K
                try simp only [Act.put, List.setIfInBounds_toArray, List.set_cons_zero, List.set_cons_succ]
                exact REST ad A1 c1 A2 c2 A3 c3 Z28 hS28
              · skip
                intro K hK
                go_simp
                have hx30 := hS25.alloc (hBs _ hS25) (.cells #[.int .u32 (s1 : Nat), .int .u32 (r1 : Nat)] 22)
                have hb30 := below_alloc (Below.refl _ Z25) (.cells #[.int .u32 (s1 : Nat), .int .u32 (r1 : Nat)] 22)
                refine hK.out _ _ hx30 ?_
                clear hK K
                try simp only [Act.put, List.setIfInBounds_toArray, List.set_cons_zero, List.set_cons_succ]
                refine cut_any (fun Y => Below Z25.heap.size Z25 Y ∧ Whole Y Z25.heap.size 22 #[.int .u32 (s1 : Nat), .int .u32 (r1 : Nat)]) ⟨hb30, Whole.new _ _ _⟩ ?_
                clear hx30 hb30
                rintro Z30 ⟨hb30, rb30⟩
                have ra30 := ra25.below hb30 (Nat.le_refl _)
                have rc30 := src_keep rc25 hb30
                have hS30 := below_trans hS25 hb30
                generalize hva : (⟨Z25.heap.size, 0, none⟩ : Addr) = ad
                refine ready_two 17 25 rfl rfl (by kernel_rfl) (by rfl) (by rfl) ?_ ?_
                · skip
                  intro K hK
                  refine wp_run _ (run_string_op 36 9 5 _ rfl rfl Try.underlying36 Try.underlying5 Try.underlying9 ra30) ?_
                  refine hK.out _ _ hS30 ?_
                  clear hK K
                  try simp only [Act.put, List.setIfInBounds_toArray, List.set_cons_zero, List.set_cons_succ]
                  refine alone 25 rfl (by kernel_rfl) (by rfl) ?_
                  intro K hK
                  go_simp
                  subst hva
                  refine (RW1.out _ A2 c2 _ rb30.lt (rb30.cell 0) (rb30.cell 1) rc30).mono ?_
                  rintro e Z32 ⟨A3, c3, rfl, ho32, hb32⟩
                  have rb32 := rb30.below hb32 rb30.lt
                  have rc32 := src_keep rc30 hb32
                  have rd32 := ho32.rd
                  have hS32 := below_trans hS30 hb32
                  go_simp
                  refine hK.out _ _ hS32 ?_
                  clear hK K
                  try simp only [Act.put, List.setIfInBounds_toArray, List.set_cons_zero, List.set_cons_succ]
                  generalize hva : (⟨Z25.heap.size, 0, none⟩ : Addr) = ad
                  refine alone 26 rfl (by kernel_rfl) (by rfl) ?_
                  intro K hK
                  refine wp_run _ (run_string_op 36 9 5 _ rfl rfl Try.underlying36 Try.underlying5 Try.underlying9 rd32) ?_
                  refine hK.out _ _ hS32 ?_
                  clear hK K
                  try simp only [Act.put, List.setIfInBounds_toArray, List.set_cons_zero, List.set_cons_succ]
                  exact REST ad A1 c1 A2 c2 A3 c3 Z32 hS32
                · skip
                  intro K hK
                  go_simp
                  subst hva
                  refine (RW1.out _ A2 c2 _ rb30.lt (rb30.cell 0) (rb30.cell 1) rc30).mono ?_
                  rintro e Z34 ⟨A3, c3, rfl, ho34, hb34⟩
                  have ra34 := ra30.below hb34 (Nat.le_refl _)
                  have rb34 := rb30.below hb34 rb30.lt
                  have rc34 := src_keep rc30 hb34
                  have rd34 := ho34.rd
                  have hS34 := below_trans hS30 hb34
                  go_simp
                  refine hK.out _ _ hS34 ?_
                  clear hK K
                  try simp only [Act.put, List.setIfInBounds_toArray, List.set_cons_zero, List.set_cons_succ]
                  generalize hva : (⟨Z25.heap.size, 0, none⟩ : Addr) = ad
                  refine ready_two 17 26 rfl rfl (by kernel_rfl) (by rfl) (by rfl) ?_ ?_
                  · skip
                    intro K hK
                    refine wp_run _ (run_string_op 36 9 5 _ rfl rfl Try.underlying36 Try.underlying5 Try.underlying9 ra34) ?_
                    refine hK.out _ _ hS34 ?_
                    clear hK K
                    try simp only [Act.put, List.setIfInBounds_toArray, List.set_cons_zero, List.set_cons_succ]
                    refine alone 26 rfl (by kernel_rfl) (by rfl) ?_
                    intro K hK
                    refine wp_run _ (run_string_op 36 9 5 _ rfl rfl Try.underlying36 Try.underlying5 Try.underlying9 rd34) ?_
                    refine hK.out _ _ hS34 ?_
                    clear hK K
                    try simp only [Act.put, List.setIfInBounds_toArray, List.set_cons_zero, List.set_cons_succ]
                    exact REST ad A1 c1 A2 c2 A3 c3 Z34 hS34
                  · skip
                    intro K hK
                    refine wp_run _ (run_string_op 36 9 5 _ rfl rfl Try.underlying36 Try.underlying5 Try.underlying9 rd34) ?_
                    refine hK.out _ _ hS34 ?_
                    clear hK K
                    try simp only [Act.put, List.setIfInBounds_toArray, List.set_cons_zero, List.set_cons_succ]
                    refine alone 17 rfl (by kernel_rfl) (by rfl) ?_
                    intro K hK
                    refine wp_run _ (run_string_op 36 9 5 _ rfl rfl Try.underlying36 Try.underlying5 Try.underlying9 ra34) ?_
                    refine hK.out _ _ hS34 ?_
                    clear hK K
                    try simp only [Act.put, List.setIfInBounds_toArray, List.set_cons_zero, List.set_cons_succ]
                    exact REST ad A1 c1 A2 c2 A3 c3 Z34 hS34
          · skip
            intro K hK
            go_simp
            have hx39 := hS.alloc (hBs _ hS) (.cells #[.int .u32 (s1 : Nat), .int .u32 (r1 : Nat)] 22)
            have hb39 := below_alloc (Below.refl _ Z) (.cells #[.int .u32 (s1 : Nat), .int .u32 (r1 : Nat)] 22)
            refine hK.out _ _ hx39 ?_
            clear hK K
            try simp only [Act.put, List.setIfInBounds_toArray, List.set_cons_zero, List.set_cons_succ]
            refine cut_any (fun Y => Below Z.heap.size Z Y ∧ Whole Y Z.heap.size 22 #[.int .u32 (s1 : Nat), .int .u32 (r1 : Nat)]) ⟨hb39, Whole.new _ _ _⟩ ?_
            clear hx39 hb39
            rintro Z39 ⟨hb39, rb39⟩
            have hS39 := below_trans hS hb39
            generalize hva : (⟨Z.heap.size, 0, none⟩ : Addr) = ad
            refine alone 16 rfl (by kernel_rfl) (by rfl) ?_
            intro K hK
            go_simp
            refine (CW1.out _).mono ?_
            rintro e Z40 ⟨A1, c1, rfl, ho40, hb40⟩
            have rb40 := rb39.below hb40 rb39.lt
            have ra40 := ho40.rd
            have hS40 := below_trans hS39 hb40
            go_simp
            refine hK.out _ _ hS40 ?_
            clear hK K
            try simp only [Act.put, List.setIfInBounds_toArray, List.set_cons_zero, List.set_cons_succ]
            refine ready_two 17 24 rfl rfl (by kernel_rfl) (by rfl) (by rfl) ?_ ?_
            · skip
              intro K hK
              refine wp_run _ (run_string_op 36 9 5 _ rfl rfl Try.underlying36 Try.underlying5 Try.underlying9 ra40) ?_
              refine hK.out _ _ hS40 ?_
              clear hK K
              try simp only [Act.put, List.setIfInBounds_toArray, List.set_cons_zero, List.set_cons_succ]
              refine alone 24 rfl (by kernel_rfl) (by rfl) ?_
              intro K hK
              go_simp
              refine (RH1.out _).mono ?_
              rintro e Z42 ⟨A2, c2, rfl, ho42, hb42⟩
              have rb42 := rb40.below hb42 rb40.lt
              have rc42 := src_own ho42
              have hS42 := below_trans hS40 hb42
              go_simp
              refine hK.out _ _ hS42 ?_
              clear hK K
              try simp only [Act.put, List.setIfInBounds_toArray, List.set_cons_zero, List.set_cons_succ]
              refine alone 25 rfl (by kernel_rfl) (by rfl) ?_
              intro K hK
              go_simp
              subst hva
              refine (RW1.out _ A2 c2 _ rb42.lt (rb42.cell 0) (rb42.cell 1) rc42).mono ?_
              rintro e Z43 ⟨A3, c3, rfl, ho43, hb43⟩
              have rb43 := rb42.below hb43 rb42.lt
              have rc43 := src_keep rc42 hb43
              have rd43 := ho43.rd
              have hS43 := below_trans hS42 hb43
              go_simp
              refine hK.out _ _ hS43 ?_
              clear hK K
              try simp only [Act.put, List.setIfInBounds_toArray, List.set_cons_zero, List.set_cons_succ]
              generalize hva : (⟨Z.heap.size, 0, none⟩ : Addr) = ad
              refine alone 26 rfl (by kernel_rfl) (by rfl) ?_
              intro K hK
              refine wp_run _ (run_string_op 36 9 5 _ rfl rfl Try.underlying36 Try.underlying5 Try.underlying9 rd43) ?_
              refine hK.out _ _ hS43 ?_
              clear hK K
              try simp only [Act.put, List.setIfInBounds_toArray, List.set_cons_zero, List.set_cons_succ]
              exact REST ad A1 c1 A2 c2 A3 c3 Z43 hS43
            · skip
              intro K hK
              go_simp
              refine (RH1.out _).mono ?_
              rintro e Z45 ⟨A2, c2, rfl, ho45, hb45⟩
              have ra45 := ra40.below hb45 (Nat.le_refl _)
              have rb45 := rb40.below hb45 rb40.lt
              have rc45 := src_own ho45
              have hS45 := below_trans hS40 hb45
              go_simp
              refine hK.out _ _ hS45 ?_
              clear hK K
              try simp only [Act.put, List.setIfInBounds_toArray, List.set_cons_zero, List.set_cons_succ]
              refine ready_two 17 25 rfl rfl (by kernel_rfl) (by rfl) (by rfl) ?_ ?_
              · skip
                intro K hK
                refine wp_run _ (run_string_op 36 9 5 _ rfl rfl Try.underlying36 Try.underlying5 Try.underlying9 ra45) ?_
                refine hK.out _ _ hS45 ?_
                clear hK K
                try simp only [Act.put, List.setIfInBounds_toArray, List.set_cons_zero, List.set_cons_succ]
                refine alone 25 rfl (by kernel_rfl) (by rfl) ?_
                intro K hK
                go_simp
                subst hva
                refine (RW1.out _ A2 c2 _ rb45.lt (rb45.cell 0) (rb45.cell 1) rc45).mono ?_
                rintro e Z47 ⟨A3, c3, rfl, ho47, hb47⟩
                have rb47 := rb45.below hb47 rb45.lt
                have rc47 := src_keep rc45 hb47
                have rd47 := ho47.rd
                have hS47 := below_trans hS45 hb47
                go_simp
                refine hK.out _ _ hS47 ?_
                clear hK K
                try simp only [Act.put, List.setIfInBounds_toArray, List.set_cons_zero, List.set_cons_succ]
                generalize hva : (⟨Z.heap.size, 0, none⟩ : Addr) = ad
                refine alone 26 rfl (by kernel_rfl) (by rfl) ?_
                intro K hK
                refine wp_run _ (run_string_op 36 9 5 _ rfl rfl Try.underlying36 Try.underlying5 Try.underlying9 rd47) ?_
                refine hK.out _ _ hS47 ?_
                clear hK K
                try simp only [Act.put, List.setIfInBounds_toArray, List.set_cons_zero, List.set_cons_succ]
                exact REST ad A1 c1 A2 c2 A3 c3 Z47 hS47
              · skip
                intro K hK
                go_simp
                subst hva
                refine (RW1.out _ A2 c2 _ rb45.lt (rb45.cell 0) (rb45.cell 1) rc45).mono ?_
                rintro e Z49 ⟨A3, c3, rfl, ho49, hb49⟩
                have ra49 := ra45.below hb49 (Nat.le_refl _)
                have rb49 := rb45.below hb49 rb45.lt
                have rc49 := src_keep rc45 hb49
                have rd49 := ho49.rd
                have hS49 := below_trans hS45 hb49
                go_simp
                refine hK.out _ _ hS49 ?_
                clear hK K
                try simp only [Act.put, List.setIfInBounds_toArray, List.set_cons_zero, List.set_cons_succ]
                generalize hva : (⟨Z.heap.size, 0, none⟩ : Addr) = ad
                refine ready_two 17 26 rfl rfl (by kernel_rfl) (by rfl) (by rfl) ?_ ?_
                · skip
                  intro K hK
                  refine wp_run _ (run_string_op 36 9 5 _ rfl rfl Try.underlying36 Try.underlying5 Try.underlying9 ra49) ?_
                  refine hK.out _ _ hS49 ?_
                  clear hK K
                  try simp only [Act.put, List.setIfInBounds_toArray, List.set_cons_zero, List.set_cons_succ]
                  refine alone 26 rfl (by kernel_rfl) (by rfl) ?_
                  intro K hK
                  refine wp_run _ (run_string_op 36 9 5 _ rfl rfl Try.underlying36 Try.underlying5 Try.underlying9 rd49) ?_
                  refine hK.out _ _ hS49 ?_
                  clear hK K
                  try simp only [Act.put, List.setIfInBounds_toArray, List.set_cons_zero, List.set_cons_succ]
                  exact REST ad A1 c1 A2 c2 A3 c3 Z49 hS49
                · skip
                  intro K hK
                  refine wp_run _ (run_string_op 36 9 5 _ rfl rfl Try.underlying36 Try.underlying5 Try.underlying9 rd49) ?_
                  refine hK.out _ _ hS49 ?_
                  clear hK K
                  try simp only [Act.put, List.setIfInBounds_toArray, List.set_cons_zero, List.set_cons_succ]
                  refine alone 17 rfl (by kernel_rfl) (by rfl) ?_
                  intro K hK
                  refine wp_run _ (run_string_op 36 9 5 _ rfl rfl Try.underlying36 Try.underlying5 Try.underlying9 ra49) ?_
                  refine hK.out _ _ hS49 ?_
                  clear hK K
                  try simp only [Act.put, List.setIfInBounds_toArray, List.set_cons_zero, List.set_cons_succ]
                  exact REST ad A1 c1 A2 c2 A3 c3 Z49 hS49
        case rest =>
          intro ad A1 c1 A2 c2 A3 c3 Zb hS
          refine take 27 _ rfl (by kernel_rfl) (by kernel_rfl) (by kernel_rfl) (fun _ _ _ h => h) (by rfl) hS (by intro w _; go_simp; with_reducible rfl) ?_
          try simp only [Act.put, List.setIfInBounds_toArray, List.set_cons_zero, List.set_cons_succ]
          refine take 28 _ rfl (by kernel_rfl) (by kernel_rfl) (by kernel_rfl) (fun _ _ _ h => h) (by rfl) hS (by intro w _; go_simp; with_reducible rfl) ?_
          try simp only [Act.put, List.setIfInBounds_toArray, List.set_cons_zero, List.set_cons_succ]
          refine take 29 _ rfl (by kernel_rfl) (by kernel_rfl) (by kernel_rfl) (fun _ _ _ h => h) (by rfl) hS (by intro w _; go_simp; with_reducible rfl) ?_
          try simp only [Act.put, List.setIfInBounds_toArray, List.set_cons_zero, List.set_cons_succ]
          refine take 30 _ rfl (by kernel_rfl) (by kernel_rfl) (by kernel_rfl) (fun _ _ _ h => h) (by rfl) hS (fun w hw => run_load_op 34 (.tmp 6) rfl (B2) rfl (F2.out.below hw F2.out.lt) rfl rfl (by rw [H2Z.out]; kernel_rfl)) ?_
          try simp only [Act.put, List.setIfInBounds_toArray, List.set_cons_zero, List.set_cons_succ]
          refine take 33 _ rfl (by kernel_rfl) (by kernel_rfl) (by kernel_rfl) (fun _ _ _ h => h) (by rfl) hS (by intro w _; go_simp; with_reducible rfl) ?_
          try simp only [Act.put, List.setIfInBounds_toArray, List.set_cons_zero, List.set_cons_succ]
          refine take 34 _ rfl (by kernel_rfl) (by kernel_rfl) (by kernel_rfl) (fun _ _ _ h => h) (by rfl) hS (by intro w hw; have hcl := ((F2.out.below hw F2.out.lt).cell 0).trans HC20.out; go_simp; with_reducible rfl) ?_
          try simp only [Act.put, List.setIfInBounds_toArray, List.set_cons_zero, List.set_cons_succ]
          refine take 36 _ rfl (by kernel_rfl) (by kernel_rfl) (by kernel_rfl) (fun _ _ _ h => h) (by rfl) hS (fun w hw => run_load_op 34 (.tmp 6) rfl (B2) rfl (F2.out.below hw F2.out.lt) rfl rfl (by rw [H2Z.out]; kernel_rfl)) ?_
          try simp only [Act.put, List.setIfInBounds_toArray, List.set_cons_zero, List.set_cons_succ]
          apply share7 (Φ := fun X => Below X7.heap.size X7 X)
          case lead =>
            intro REST
            refine ready_two 31 35 rfl rfl (by kernel_rfl) (by rfl) (by rfl) ?_ ?_
            · skip
              intro K hK
              go_simp
              refine (CW2.out _).mono ?_
              rintro e Z1 ⟨A1, c1, rfl, ho1, hb1⟩
              have ra1 := ho1.rd
              have hS1 := below_trans hS hb1
              go_simp
              refine hK.out _ _ hS1 ?_
              clear hK K
              try simp only [Act.put, List.setIfInBounds_toArray, List.set_cons_zero, List.set_cons_succ]
              refine ready_three 32 35 37 rfl rfl rfl (by kernel_rfl) (by rfl) (by rfl) (by rfl) ?_ ?_ ?_
              · skip
                intro K hK
                refine wp_run _ (run_string_op 36 9 5 _ rfl rfl Try.underlying36 Try.underlying5 Try.underlying9 ra1) ?_
                refine hK.out _ _ hS1 ?_
                clear hK K
                try simp only [Act.put, List.setIfInBounds_toArray, List.set_cons_zero, List.set_cons_succ]
                refine ready_two 35 37 rfl rfl (by kernel_rfl) (by rfl) (by rfl) ?_ ?_
                · skip
                  intro K hK
                  go_simp
                  have hx3 := hS1.alloc (hBs _ hS1) (.cells #[.int .u32 (s2 : Nat)] 22)
                  have hb3 := below_alloc (Below.refl _ Z1) (.cells #[.int .u32 (s2 : Nat)] 22)
                  refine hK.out _ _ hx3 ?_
                  clear hK K
                  try simp only [Act.put, List.setIfInBounds_toArray, List.set_cons_zero, List.set_cons_succ]
                  refine cut_any (fun Y => Below Z1.heap.size Z1 Y ∧ Whole Y Z1.heap.size 22 #[.int .u32 (s2 : Nat)]) ⟨hb3, Whole.new _ _ _⟩ ?_
                  clear hx3 hb3
                  rintro Z3 ⟨hb3, rb3⟩
                  have hS3 := below_trans hS1 hb3
                  generalize hva : (⟨Z1.heap.size, 0, none⟩ : Addr) = ad
                  refine alone 37 rfl (by kernel_rfl) (by rfl) ?_
                  intro K hK
                  go_simp
                  refine (RH2.out _).mono ?_
                  rintro e Z4 ⟨A2, c2, rfl, ho4, hb4⟩
                  have rb4 := rb3.below hb4 rb3.lt
                  have rc4 := src_own ho4
                  have hS4 := below_trans hS3 hb4
                  go_simp
                  refine hK.out _ _ hS4 ?_
                  clear hK K
                  try simp only [Act.put, List.setIfInBounds_toArray, List.set_cons_zero, List.set_cons_succ]
                  refine alone 38 rfl (by kernel_rfl) (by rfl) ?_
                  intro K hK
                  go_simp
                  subst hva
                  refine (RW2.out _ A2 c2 _ rb4.lt (rb4.cell 0) rc4).mono ?_
                  rintro e Z5 ⟨A3, c3, rfl, ho5, hb5⟩
                  have rb5 := rb4.below hb5 rb4.lt
                  have rc5 := src_keep rc4 hb5
                  have rd5 := ho5.rd
                  have hS5 := below_trans hS4 hb5
                  go_simp
                  refine hK.out _ _ hS5 ?_
                  clear hK K
                  try simp only [Act.put, List.setIfInBounds_toArray, List.set_cons_zero, List.set_cons_succ]
                  generalize hva : (⟨Z1.heap.size, 0, none⟩ : Addr) = ad
                  refine alone 39 rfl (by kernel_rfl) (by rfl) ?_
                  intro K hK
                  refine wp_run _ (run_string_op 36 9 5 _ rfl rfl Try.underlying36 Try.underlying5 Try.underlying9 rd5) ?_
                  refine hK.out _ _ hS5 ?_
                  clear hK K
                  try simp only [Act.put, List.setIfInBounds_toArray, List.set_cons_zero, List.set_cons_succ]
                  exact REST ad A1 c1 A2 c2 A3 c3 Z5 hS5
                · skip
                  intro K hK
                  go_simp
                  refine (RH2.out _).mono ?_
                  rintro e Z7 ⟨A2, c2, rfl, ho7, hb7⟩
                  have rc7 := src_own ho7
                  have hS7 := below_trans hS1 hb7
                  go_simp
                  refine hK.out _ _ hS7 ?_
                  clear hK K
                  try simp only [Act.put, List.setIfInBounds_toArray, List.set_cons_zero, List.set_cons_succ]
                  refine alone 35 rfl (by kernel_rfl) (by rfl) ?_
                  intro K hK
                  go_simp
                  have hx8 := hS7.alloc (hBs _ hS7) (.cells #[.int .u32 (s2 : Nat)] 22)
                  have hb8 := below_alloc (Below.refl _ Z7) (.cells #[.int .u32 (s2 : Nat)] 22)
                  refine hK.out _ _ hx8 ?_
                  clear hK K
                  try simp only [Act.put, List.setIfInBounds_toArray, List.set_cons_zero, List.set_cons_succ]
                  refine cut_any (fun Y => Below Z7.heap.size Z7 Y ∧ Whole Y Z7.heap.size 22 #[.int .u32 (s2 : Nat)]) ⟨hb8, Whole.new _ _ _⟩ ?_
                  clear hx8 hb8
                  rintro Z8 ⟨hb8, rb8⟩
                  have rc8 := src_keep rc7 hb8
                  have hS8 := below_trans hS7 hb8
                  generalize hva : (⟨Z7.heap.size, 0, none⟩ : Addr) = ad
                  refine alone 38 rfl (by kernel_rfl) (by rfl) ?_
                  intro K hK
                  go_simp
                  subst hva
                  refine (RW2.out _ A2 c2 _ rb8.lt (rb8.cell 0) rc8).mono ?_
                  rintro e Z9 ⟨A3, c3, rfl, ho9, hb9⟩
                  have rb9 := rb8.below hb9 rb8.lt
                  have rc9 := src_keep rc8 hb9
                  have rd9 := ho9.rd
                  have hS9 := below_trans hS8 hb9
                  go_simp
                  refine hK.out _ _ hS9 ?_
                  clear hK K
                  try simp only [Act.put, List.setIfInBounds_toArray, List.set_cons_zero, List.set_cons_succ]
                  generalize hva : (⟨Z7.heap.size, 0, none⟩ : Addr) = ad
                  refine alone 39 rfl (by kernel_rfl) (by rfl) ?_
                  intro K hK
                  refine wp_run _ (run_string_op 36 9 5 _ rfl rfl Try.underlying36 Try.underlying5 Try.underlying9 rd9) ?_
                  refine hK.out _ _ hS9 ?_
                  clear hK K
                  try simp only [Act.put, List.setIfInBounds_toArray, List.set_cons_zero, List.set_cons_succ]
                  exact REST ad A1 c1 A2 c2 A3 c3 Z9 hS9
              · skip
                intro K hK
                go_simp
                have hx11 := hS1.alloc (hBs _ hS1) (.cells #[.int .u32 (s2 : Nat)] 22)
                have hb11 := below_alloc (Below.refl _ Z1) (.cells #[.int .u32 (s2 : Nat)] 22)
                refine hK.out _ _ hx11 ?_
                clear hK K
                try simp only [Act.put, List.setIfInBounds_toArray, List.set_cons_zero, List.set_cons_succ]
                refine cut_any (fun Y => Below Z1.heap.size Z1 Y ∧ Whole Y Z1.heap.size 22 #[.int .u32 (s2 : Nat)]) ⟨hb11, Whole.new _ _ _⟩ ?_
                clear hx11 hb11
                rintro Z11 ⟨hb11, rb11⟩
                have ra11 := ra1.below hb11 (Nat.le_refl _)
                have hS11 := below_trans hS1 hb11
                generalize hva : (⟨Z1.heap.size, 0, none⟩ : Addr) = ad
                refine ready_two 32 37 rfl rfl (by kernel_rfl) (by rfl) (by rfl) ?_ ?_
                · skip
                  intro K hK
                  refine wp_run _ (run_string_op 36 9 5 _ rfl rfl Try.underlying36 Try.underlying5 Try.underlying9 ra11) ?_
                  refine hK.out _ _ hS11 ?_
                  clear hK K
                  try simp only [Act.put, List.setIfInBounds_toArray, List.set_cons_zero, List.set_cons_succ]
                  refine alone 37 rfl (by kernel_rfl) (by rfl) ?_
                  intro K hK
                  go_simp
                  refine (RH2.out _).mono ?_
                  rintro e Z13 ⟨A2, c2, rfl, ho13, hb13⟩
                  have rb13 := rb11.below hb13 rb11.lt
                  have rc13 := src_own ho13
                  have hS13 := below_trans hS11 hb13
                  go_simp
                  refine hK.out _ _ hS13 ?_
                  clear hK K
                  try simp only [Act.put, List.setIfInBounds_toArray, List.set_cons_zero, List.set_cons_succ]
                  refine alone 38 rfl (by kernel_rfl) (by rfl) ?_
                  intro K hK
                  go_simp
                  subst hva
                  refine (RW2.out _ A2 c2 _ rb13.lt (rb13.cell 0) rc13).mono ?_
                  rintro e Z14 ⟨A3, c3, rfl, ho14, hb14⟩
                  have rb14 := rb13.below hb14 rb13.lt
                  have rc14 := src_keep rc13 hb14
                  have rd14 := ho14.rd
                  have hS14 := below_trans hS13 hb14
                  go_simp
                  refine hK.out _ _ hS14 ?_
                  clear hK K
                  try simp only [Act.put, List.setIfInBounds_toArray, List.set_cons_zero, List.set_cons_succ]
                  generalize hva : (⟨Z1.heap.size, 0, none⟩ : Addr) = ad
                  refine alone 39 rfl (by kernel_rfl) (by rfl) ?_
                  intro K hK
                  refine wp_run _ (run_string_op 36 9 5 _ rfl rfl Try.underlying36 Try.underlying5 Try.underlying9 rd14) ?_
                  refine hK.out _ _ hS14 ?_
                  clear hK K
                  try simp only [Act.put, List.setIfInBounds_toArray, List.set_cons_zero, List.set_cons_succ]
                  exact REST ad A1 c1 A2 c2 A3 c3 Z14 hS14
                · skip
                  intro K hK
                  go_simp
                  refine (RH2.out _).mono ?_
                  rintro e Z16 ⟨A2, c2, rfl, ho16, hb16⟩
                  have ra16 := ra11.below hb16 (Nat.le_refl _)
                  have rb16 := rb11.below hb16 rb11.lt
                  have rc16 := src_own ho16
                  have hS16 := below_trans hS11 hb16
                  go_simp
                  refine hK.out _ _ hS16 ?_
                  clear hK K
                  try simp only [Act.put, List.setIfInBounds_toArray, List.set_cons_zero, List.set_cons_succ]
                  refine ready_two 32 38 rfl rfl (by kernel_rfl) (by rfl) (by rfl) ?_ ?_
                  · skip
                    intro K hK
                    refine wp_run _ (run_string_op 36 9 5 _ rfl rfl Try.underlying36 Try.underlying5 Try.underlying9 ra16) ?_
                    refine hK.out _ _ hS16 ?_
                    clear hK K
                    try simp only [Act.put, List.setIfInBounds_toArray, List.set_cons_zero, List.set_cons_succ]
                    refine alone 38 rfl (by kernel_rfl) (by rfl) ?_
                    intro K hK
                    go_simp
                    subst hva
                    refine (RW2.out _ A2 c2 _ rb16.lt (rb16.cell 0) rc16).mono ?_
                    rintro e Z18 ⟨A3, c3, rfl, ho18, hb18⟩
                    have rb18 := rb16.below hb18 rb16.lt
                    have rc18 := src_keep rc16 hb18
                    have rd18 := ho18.rd
                    have hS18 := below_trans hS16 hb18
                    go_simp
                    refine hK.out _ _ hS18 ?_
                    clear hK K
                    try simp only [Act.put, List.setIfInBounds_toArray, List.set_cons_zero, List.set_cons_succ]
                    generalize hva : (⟨Z1.heap.size, 0, none⟩ : Addr) = ad
                    refine alone 39 rfl (by kernel_rfl) (by rfl) ?_
                    intro K hK
                    refine wp_run _ (run_string_op 36 9 5 _ rfl rfl Try.underlying36 Try.underlying5 Try.underlying9 rd18) ?_
                    refine hK.out _ _ hS18 ?_
                    clear hK K
                    try simp only [Act.put, List.setIfInBounds_toArray, List.set_cons_zero, List.set_cons_succ]
                    exact REST ad A1 c1 A2 c2 A3 c3 Z18 hS18
                  · skip
                    intro K hK
                    go_simp
                    subst hva
                    refine (RW2.out _ A2 c2 _ rb16.lt (rb16.cell 0) rc16).mono ?_
                    rintro e Z20 ⟨A3, c3, rfl, ho20, hb20⟩
                    have ra20 := ra16.below hb20 (Nat.le_refl _)
                    have rb20 := rb16.below hb20 rb16.lt
                    have rc20 := src_keep rc16 hb20
                    have rd20 := ho20.rd
                    have hS20 := below_trans hS16 hb20
                    go_simp
                    refine hK.out _ _ hS20 ?_
                    clear hK K
                    try simp only [Act.put, List.setIfInBounds_toArray, List.set_cons_zero, List.set_cons_succ]
                    generalize hva : (⟨Z1.heap.size, 0, none⟩ : Addr) = ad
                    refine ready_two 32 39 rfl rfl (by kernel_rfl) (by rfl) (by rfl) ?_ ?_
                    · skip
                      intro K hK
                      refine wp_run _ (run_string_op 36 9 5 _ rfl rfl Try.underlying36 Try.underlying5 Try.underlying9 ra20) ?_
                      refine hK.out _ _ hS20 ?_
                      clear hK K
                      try simp only [Act.put, List.setIfInBounds_toArray, List.set_cons_zero, List.set_cons_succ]
                      refine alone 39 rfl (by kernel_rfl) (by rfl) ?_
                      intro K hK
                      refine wp_run _ (run_string_op 36 9 5 _ rfl rfl Try.underlying36 Try.underlying5 Try.underlying9 rd20) ?_
                      refine hK.out _ _ hS20 ?_
                      clear hK K
                      try simp only [Act.put, List.setIfInBounds_toArray, List.set_cons_zero, List.set_cons_succ]
                      exact REST ad A1 c1 A2 c2 A3 c3 Z20 hS20
                    · skip
                      intro K hK
                      refine wp_run _ (run_string_op 36 9 5 _ rfl rfl Try.underlying36 Try.underlying5 Try.underlying9 rd20) ?_
                      refine hK.out _ _ hS20 ?_
                      clear hK K
                      try simp only [Act.put, List.setIfInBounds_toArray, List.set_cons_zero, List.set_cons_succ]
                      refine alone 32 rfl (by kernel_rfl) (by rfl) ?_
                      intro K hK
                      refine wp_run _ (run_string_op 36 9 5 _ rfl rfl Try.underlying36 Try.underlying5 Try.underlying9 ra20) ?_
                      refine hK.out _ _ hS20 ?_
                      clear hK K
                      try simp only [Act.put, List.setIfInBounds_toArray, List.set_cons_zero, List.set_cons_succ]
                      exact REST ad A1 c1 A2 c2 A3 c3 Z20 hS20
              · skip
                intro K hK
                go_simp
                refine (RH2.out _).mono ?_
                rintro e Z25 ⟨A2, c2, rfl, ho25, hb25⟩
                have ra25 := ra1.below hb25 (Nat.le_refl _)
                have rc25 := src_own ho25
                have hS25 := below_trans hS1 hb25
                go_simp
                refine hK.out _ _ hS25 ?_
                clear hK K
                try simp only [Act.put, List.setIfInBounds_toArray, List.set_cons_zero, List.set_cons_succ]
                refine ready_two 32 35 rfl rfl (by kernel_rfl) (by rfl) (by rfl) ?_ ?_
                · skip
                  intro K hK
                  refine wp_run _ (run_string_op 36 9 5 _ rfl rfl Try.underlying36 Try.underlying5 Try.underlying9 ra25) ?_
                  refine hK.out _ _ hS25 ?_
                  clear hK K
                  try simp only [Act.put, List.setIfInBounds_toArray, List.set_cons_zero, List.set_cons_succ]
                  refine alone 35 rfl (by kernel_rfl) (by rfl) ?_
                  intro K hK
                  go_simp
                  have hx27 := hS25.alloc (hBs _ hS25) (.cells #[.int .u32 (s2 : Nat)] 22)
                  have hb27 := below_alloc (Below.refl _ Z25) (.cells #[.int .u32 (s2 : Nat)] 22)
                  refine hK.out _ _ hx27 ?_
                  clear hK K
                  try simp only [Act.put, List.setIfInBounds_toArray, List.set_cons_zero, List.set_cons_succ]
                  refine cut_any (fun Y => Below Z25.heap.size Z25 Y ∧ Whole Y Z25.heap.size 22 #[.int .u32 (s2 : Nat)]) ⟨hb27, Whole.new _ _ _⟩ ?_
                  clear hx27 hb27
                  rintro Z27 ⟨hb27, rb27⟩
                  have rc27 := src_keep rc25 hb27
                  have hS27 := below_trans hS25 hb27
                  generalize hva : (⟨Z25.heap.size, 0, none⟩ : Addr) = ad
                  refine alone 38 rfl (by kernel_rfl) (by rfl) ?_
                  intro K hK
                  go_simp
                  subst hva
                  refine (RW2.out _ A2 c2 _ rb27.lt (rb27.cell 0) rc27).mono ?_
                  rintro e Z28 ⟨A3, c3, rfl, ho28, hb28⟩
                  have rb28 := rb27.below hb28 rb27.lt
                  have rc28 := src_keep rc27 hb28
                  have rd28 := ho28.rd
                  have hS28 := below_trans hS27 hb28
                  go_simp
                  refine hK.out _ _ hS28 ?_
                  clear hK K
                  try simp only [Act.put, List.setIfInBounds_toArray, List.set_cons_zero, List.set_cons_succ]
                  generalize hva : (⟨Z25.heap.size, 0, none⟩ : Addr) = ad
                  refine alone 39 rfl (by kernel_rfl) (by rfl) ?_
                  intro K hK
                  refine wp_run _ (run_string_op 36 9 5 _ rfl rfl Try.underlying36 Try.underlying5 Try.underlying9 rd28) ?_
                  refine hK.out _ _ hS28 ?_
                  clear hK K
                  try simp only [Act.put, List.setIfInBounds_toArray, List.set_cons_zero, List.set_cons_succ]
                  exact REST ad A1 c1 A2 c2 A3 c3 Z28 hS28
                · skip
                  intro K hK
                  go_simp
                  have hx30 := hS25.alloc (hBs _ hS25) (.cells #[.int .u32 (s2 : Nat)] 22)
                  have hb30 := below_alloc (Below.refl _ Z25) (.cells #[.int .u32 (s2 : Nat)] 22)
                  refine hK.out _ _ hx30 ?_
                  clear hK K
                  try simp only [Act.put, List.setIfInBounds_toArray, List.set_cons_zero, List.set_cons_succ]
                  refine cut_any (fun Y => Below Z25.heap.size Z25 Y ∧ Whole Y Z25.heap.size 22 #[.int .u32 (s2 : Nat)]) ⟨hb30, Whole.new _ _ _⟩ ?_
                  clear hx30 hb30
                  rintro Z30 ⟨hb30, rb30⟩
                  have ra30 := ra25.below hb30 (Nat.le_refl _)
                  have rc30 := src_keep rc25 hb30
                  have hS30 := below_trans hS25 hb30
                  generalize hva : (⟨Z25.heap.size, 0, none⟩ : Addr) = ad
                  refine ready_two 32 38 rfl rfl (by kernel_rfl) (by rfl) (by rfl) ?_ ?_
                  · skip
                    intro K hK
                    refine wp_run _ (run_string_op 36 9 5 _ rfl rfl Try.underlying36 Try.underlying5 Try.underlying9 ra30) ?_
                    refine hK.out _ _ hS30 ?_
                    clear hK K
                    try simp only [Act.put, List.setIfInBounds_toArray, List.set_cons_zero, List.set_cons_succ]
                    refine alone 38 rfl (by kernel_rfl) (by rfl) ?_
                    intro K hK
                    go_simp
                    subst hva
                    refine (RW2.out _ A2 c2 _ rb30.lt (rb30.cell 0) rc30).mono ?_
                    rintro e Z32 ⟨A3, c3, rfl, ho32, hb32⟩
                    have rb32 := rb30.below hb32 rb30.lt
                    have rc32 := src_keep rc30 hb32
                    have rd32 := ho32.rd
                    have hS32 := below_trans hS30 hb32
                    go_simp
                    refine hK.out _ _ hS32 ?_
                    clear hK K
                    try simp only [Act.put, List.setIfInBounds_toArray, List.set_cons_zero, List.set_cons_succ]
                    generalize hva : (⟨Z25.heap.size, 0, none⟩ : Addr) = ad
                    refine alone 39 rfl (by kernel_rfl) (by rfl) ?_
                    intro K hK
                    refine wp_run _ (run_string_op 36 9 5 _ rfl rfl Try.underlying36 Try.underlying5 Try.underlying9 rd32) ?_
                    refine hK.out _ _ hS32 ?_
                    clear hK K
                    try simp only [Act.put, List.setIfInBounds_toArray, List.set_cons_zero, List.set_cons_succ]
                    exact REST ad A1 c1 A2 c2 A3 c3 Z32 hS32
                  · skip
                    intro K hK
                    go_simp
                    subst hva
                    refine (RW2.out _ A2 c2 _ rb30.lt (rb30.cell 0) rc30).mono ?_
                    rintro e Z34 ⟨A3, c3, rfl, ho34, hb34⟩
                    have ra34 := ra30.below hb34 (Nat.le_refl _)
                    have rb34 := rb30.below hb34 rb30.lt
                    have rc34 := src_keep rc30 hb34
                    have rd34 := ho34.rd
                    have hS34 := below_trans hS30 hb34
                    go_simp
                    refine hK.out _ _ hS34 ?_
                    clear hK K
                    try simp only [Act.put, List.setIfInBounds_toArray, List.set_cons_zero, List.set_cons_succ]
                    generalize hva : (⟨Z25.heap.size, 0, none⟩ : Addr) = ad
                    refine ready_two 32 39 rfl rfl (by kernel_rfl) (by rfl) (by rfl) ?_ ?_
                    · skip
                      intro K hK
                      refine wp_run _ (run_string_op 36 9 5 _ rfl rfl Try.underlying36 Try.underlying5 Try.underlying9 ra34) ?_
                      refine hK.out _ _ hS34 ?_
                      clear hK K
                      try simp only [Act.put, List.setIfInBounds_toArray, List.set_cons_zero, List.set_cons_succ]
                      refine alone 39 rfl (by kernel_rfl) (by rfl) ?_
                      intro K hK
                      refine wp_run _ (run_string_op 36 9 5 _ rfl rfl Try.underlying36 Try.underlying5 Try.underlying9 rd34) ?_
                      refine hK.out _ _ hS34 ?_
                      clear hK K
                      try simp only [Act.put, List.setIfInBounds_toArray, List.set_cons_zero, List.set_cons_succ]
                      exact REST ad A1 c1 A2 c2 A3 c3 Z34 hS34
                    · skip
                      intro K hK
                      refine wp_run _ (run_string_op 36 9 5 _ rfl rfl Try.underlying36 Try.underlying5 Try.underlying9 rd34) ?_
                      refine hK.out _ _ hS34 ?_
                      clear hK K
                      try simp only [Act.put, List.setIfInBounds_toArray, List.set_cons_zero, List.set_cons_succ]
                      refine alone 32 rfl (by kernel_rfl) (by rfl) ?_
                      intro K hK
                      refine wp_run _ (run_string_op 36 9 5 _ rfl rfl Try.underlying36 Try.underlying5 Try.underlying9 ra34) ?_
                      refine hK.out _ _ hS34 ?_
                      clear hK K
                      try simp only [Act.put, List.setIfInBounds_toArray, List.set_cons_zero, List.set_cons_succ]
                      exact REST ad A1 c1 A2 c2 A3 c3 Z34 hS34
            · skip
              intro K hK
              go_simp
              have hx39 := hS.alloc (hBs _ hS) (.cells #[.int .u32 (s2 : Nat)] 22)
              have hb39 := below_alloc (Below.refl _ Zb) (.cells #[.int .u32 (s2 : Nat)] 22)
              refine hK.out _ _ hx39 ?_
              clear hK K
              try simp only [Act.put, List.setIfInBounds_toArray, List.set_cons_zero, List.set_cons_succ]
              refine cut_any (fun Y => Below Zb.heap.size Zb Y ∧ Whole Y Zb.heap.size 22 #[.int .u32 (s2 : Nat)]) ⟨hb39, Whole.new _ _ _⟩ ?_
              clear hx39 hb39
              rintro Z39 ⟨hb39, rb39⟩
              have hS39 := below_trans hS hb39
              generalize hva : (⟨Zb.heap.size, 0, none⟩ : Addr) = ad
              refine alone 31 rfl (by kernel_rfl) (by rfl) ?_
              intro K hK
              go_simp
              refine (CW2.out _).mono ?_
              rintro e Z40 ⟨A1, c1, rfl, ho40, hb40⟩
              have rb40 := rb39.below hb40 rb39.lt
              have ra40 := ho40.rd
              have hS40 := below_trans hS39 hb40
              go_simp
              refine hK.out _ _ hS40 ?_
              clear hK K
              try simp only [Act.put, List.setIfInBounds_toArray, List.set_cons_zero, List.set_cons_succ]
              refine ready_two 32 37 rfl rfl (by kernel_rfl) (by rfl) (by rfl) ?_ ?_
              · skip
                intro K hK
                refine wp_run _ (run_string_op 36 9 5 _ rfl rfl Try.underlying36 Try.underlying5 Try.underlying9 ra40) ?_
                refine hK.out _ _ hS40 ?_
                clear hK K
                try simp only [Act.put, List.setIfInBounds_toArray, List.set_cons_zero, List.set_cons_succ]
                refine alone 37 rfl (by kernel_rfl) (by rfl) ?_
                intro K hK
                go_simp
                refine (RH2.out _).mono ?_
                rintro e Z42 ⟨A2, c2, rfl, ho42, hb42⟩
                have rb42 := rb40.below hb42 rb40.lt
                have rc42 := src_own ho42
                have hS42 := below_trans hS40 hb42
                go_simp
                refine hK.out _ _ hS42 ?_
                clear hK K
                try simp only [Act.put, List.setIfInBounds_toArray, List.set_cons_zero, List.set_cons_succ]
                refine alone 38 rfl (by kernel_rfl) (by rfl) ?_
                intro K hK
                go_simp
                subst hva
                refine (RW2.out _ A2 c2 _ rb42.lt (rb42.cell 0) rc42).mono ?_
                rintro e Z43 ⟨A3, c3, rfl, ho43, hb43⟩
                have rb43 := rb42.below hb43 rb42.lt
                have rc43 := src_keep rc42 hb43
                have rd43 := ho43.rd
                have hS43 := below_trans hS42 hb43
                go_simp
                refine hK.out _ _ hS43 ?_
                clear hK K
                try simp only [Act.put, List.setIfInBounds_toArray, List.set_cons_zero, List.set_cons_succ]
                generalize hva : (⟨Zb.heap.size, 0, none⟩ : Addr) = ad
                refine alone 39 rfl (by kernel_rfl) (by rfl) ?_
                intro K hK
                refine wp_run _ (run_string_op 36 9 5 _ rfl rfl Try.underlying36 Try.underlying5 Try.underlying9 rd43) ?_
                refine hK.out _ _ hS43 ?_
                clear hK K
                try simp only [Act.put, List.setIfInBounds_toArray, List.set_cons_zero, List.set_cons_succ]
                exact REST ad A1 c1 A2 c2 A3 c3 Z43 hS43
              · skip
                intro K hK
                go_simp
                refine (RH2.out _).mono ?_
                rintro e Z45 ⟨A2, c2, rfl, ho45, hb45⟩
                have ra45 := ra40.below hb45 (Nat.le_refl _)
                have rb45 := rb40.below hb45 rb40.lt
                have rc45 := src_own ho45
                have hS45 := below_trans hS40 hb45
                go_simp
                refine hK.out _ _ hS45 ?_
                clear hK K
                try simp only [Act.put, List.setIfInBounds_toArray, List.set_cons_zero, List.set_cons_succ]
                refine ready_two 32 38 rfl rfl (by kernel_rfl) (by rfl) (by rfl) ?_ ?_
                · skip
                  intro K hK
                  refine wp_run _ (run_string_op 36 9 5 _ rfl rfl Try.underlying36 Try.underlying5 Try.underlying9 ra45) ?_
                  refine hK.out _ _ hS45 ?_
                  clear hK K
                  try simp only [Act.put, List.setIfInBounds_toArray, List.set_cons_zero, List.set_cons_succ]
                  refine alone 38 rfl (by kernel_rfl) (by rfl) ?_
                  intro K hK
                  go_simp
                  subst hva
                  refine (RW2.out _ A2 c2 _ rb45.lt (rb45.cell 0) rc45).mono ?_
                  rintro e Z47 ⟨A3, c3, rfl, ho47, hb47⟩
                  have rb47 := rb45.below hb47 rb45.lt
                  have rc47 := src_keep rc45 hb47
                  have rd47 := ho47.rd
                  have hS47 := below_trans hS45 hb47
                  go_simp
                  refine hK.out _ _ hS47 ?_
                  clear hK K
                  try simp only [Act.put, List.setIfInBounds_toArray, List.set_cons_zero, List.set_cons_succ]
                  generalize hva : (⟨Zb.heap.size, 0, none⟩ : Addr) = ad
                  refine alone 39 rfl (by kernel_rfl) (by rfl) ?_
                  intro K hK
                  refine wp_run _ (run_string_op 36 9 5 _ rfl rfl Try.underlying36 Try.underlying5 Try.underlying9 rd47) ?_
                  refine hK.out _ _ hS47 ?_
                  clear hK K
                  try simp only [Act.put, List.setIfInBounds_toArray, List.set_cons_zero, List.set_cons_succ]
                  exact REST ad A1 c1 A2 c2 A3 c3 Z47 hS47
                · skip
                  intro K hK
                  go_simp
                  subst hva
                  refine (RW2.out _ A2 c2 _ rb45.lt (rb45.cell 0) rc45).mono ?_
                  rintro e Z49 ⟨A3, c3, rfl, ho49, hb49⟩
                  have ra49 := ra45.below hb49 (Nat.le_refl _)
                  have rb49 := rb45.below hb49 rb45.lt
                  have rc49 := src_keep rc45 hb49
                  have rd49 := ho49.rd
                  have hS49 := below_trans hS45 hb49
                  go_simp
                  refine hK.out _ _ hS49 ?_
                  clear hK K
                  try simp only [Act.put, List.setIfInBounds_toArray, List.set_cons_zero, List.set_cons_succ]
                  generalize hva : (⟨Zb.heap.size, 0, none⟩ : Addr) = ad
                  refine ready_two 32 39 rfl rfl (by kernel_rfl) (by rfl) (by rfl) ?_ ?_
                  · skip
                    intro K hK
                    refine wp_run _ (run_string_op 36 9 5 _ rfl rfl Try.underlying36 Try.underlying5 Try.underlying9 ra49) ?_
                    refine hK.out _ _ hS49 ?_
                    clear hK K
                    try simp only [Act.put, List.setIfInBounds_toArray, List.set_cons_zero, List.set_cons_succ]
                    refine alone 39 rfl (by kernel_rfl) (by rfl) ?_
                    intro K hK
                    refine wp_run _ (run_string_op 36 9 5 _ rfl rfl Try.underlying36 Try.underlying5 Try.underlying9 rd49) ?_
                    refine hK.out _ _ hS49 ?_
                    clear hK K
                    try simp only [Act.put, List.setIfInBounds_toArray, List.set_cons_zero, List.set_cons_succ]
                    exact REST ad A1 c1 A2 c2 A3 c3 Z49 hS49
                  · skip
                    intro K hK
                    refine wp_run _ (run_string_op 36 9 5 _ rfl rfl Try.underlying36 Try.underlying5 Try.underlying9 rd49) ?_
                    refine hK.out _ _ hS49 ?_
                    clear hK K
                    try simp only [Act.put, List.setIfInBounds_toArray, List.set_cons_zero, List.set_cons_succ]
                    refine alone 32 rfl (by kernel_rfl) (by rfl) ?_
                    intro K hK
                    refine wp_run _ (run_string_op 36 9 5 _ rfl rfl Try.underlying36 Try.underlying5 Try.underlying9 ra49) ?_
                    refine hK.out _ _ hS49 ?_
                    clear hK K
                    try simp only [Act.put, List.setIfInBounds_toArray, List.set_cons_zero, List.set_cons_succ]
                    exact REST ad A1 c1 A2 c2 A3 c3 Z49 hS49
          case rest =>
            intro ad A1 c1 A2 c2 A3 c3 Zc hS
            refine take 40 _ rfl (by kernel_rfl) (by kernel_rfl) (by kernel_rfl) (fun _ _ _ h => h) (by rfl) hS (by intro w _; go_simp; with_reducible rfl) ?_
            try simp only [Act.put, List.setIfInBounds_toArray, List.set_cons_zero, List.set_cons_succ]
            refine take 41 _ rfl (by kernel_rfl) (by kernel_rfl) (by kernel_rfl) (fun _ _ _ h => h) (by rfl) hS (by intro w _; go_simp; with_reducible rfl) ?_
            try simp only [Act.put, List.setIfInBounds_toArray, List.set_cons_zero, List.set_cons_succ]
            refine take 42 _ rfl (by kernel_rfl) (by kernel_rfl) (by kernel_rfl) (fun _ _ _ h => h) (by rfl) hS (by intro w _; go_simp; with_reducible rfl) ?_
            try simp only [Act.put, List.setIfInBounds_toArray, List.set_cons_zero, List.set_cons_succ]
            refine region_end (by kernel_rfl) ?_
            have KBE := Lib.hid (below_trans KB6.out hS)
            clear hS
            go_wp2_with fail
            go_ret
            exact ⟨rfl, KBE.out⟩

end WireWrites
end Go.Proofs.Ytfbkppabgogdgaa
