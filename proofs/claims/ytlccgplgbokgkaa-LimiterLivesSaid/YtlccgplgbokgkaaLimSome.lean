/- Package limiter: Allow where the address has a bucket; Allow whole. -/
import Derived.Test.YtlccgplgbokgkaaLimRoom
import Derived.Test.YtlccgplgbokgkaaLimFull
namespace Go.Proofs.Ytlccgplgbokgkaa
namespace Lim
open Go.ChangeShapes Go.WideShapes Go.ChangeAt Go.RowKit Go.Maps
open Num Mem Words Chacha Aead Poly Adr Ops Quiet Stamp RowV

set_option maxRecDepth 100000 in
set_option maxHeartbeats 4000000 in
theorem allow_through (g b : Nat) (L : List Bk) (last : Int) (D : DataW Unit) (s : Bool) (f : Nat → Nat) (hf : ∀ i, f i < 256) (t : Int) (hr : rightB s f = true) (ht : okT t) (hl : last ≤ t) (x y : Int) (hn : lk (left1000 t L) (klit Try.prog 57 s (maskF (bitsOf s) f) (bitsOf s)) = some (x, y)) (hlev : 50 ≤ lev (x, y) t) (w : World) (h : LW w g b L last D) :
    Calls Try.prog 10 #[.pointer (some ⟨g, 0, none⟩), .agg (addrL s f).toArray, .int .i64 t] w fun e w' =>
      e = .returned (.tuple #[.bool (ask L last (placeO Try.prog 57 s f) t).1, .int .i64 ((ask L last (placeO Try.prog 57 s f) t).2.1 : Nat)]) ∧
      (∃ D', LW w' g b (ask L last (placeO Try.prog 57 s f) t).2.2.1 (ask L last (placeO Try.prog 57 s f) t).2.2.2 D') ∧ Two g b w w' := by
  obtain ⟨zs, hz, hzs⟩ : ∃ zs : Array Value, (∀ w, (zeroValue 57).run Try.prog w = .ok (.agg zs) w) ∧ zs.size = 18 := ⟨_, zero_pref, pref_size _ _ _⟩
  have HZS := Lib.hid hzs
  obtain ⟨hlg, hlb, hbg⟩ := h.lt
  have HG := Lib.hid h.good
  have HC := Lib.hid (fun w => placeOf_any s f hf w)
  have HEQ := Lib.hid (mask_ok (s := s) (f := f))
  rw [hr] at HEQ
  have hkM := mask_key hf hr
  rw [place_some hr]
  obtain ⟨k, hk⟩ : ∃ k, klit Try.prog 57 s (maskF (bitsOf s) f) (bitsOf s) = k := ⟨_, rfl⟩
  rw [hk] at hkM hn ⊢
  clear hr hk
  have hE : spanE last t = 0 := by
    have hl0 := h.good.last0
    unfold spanE right okT at *
    rw [if_pos (by omega)]
  have CS := Lib.hid (span_any last t)
  rw [hE] at CS
  have HGL := Lib.hid (good_left h.good ht hl)
  have HOK := Lib.hid (show ∀ x ∈ L, 0 ≤ x.2.1 ∧ x.2.1 ≤ 250 ∧ okT x.2.2 ∧ x.2.2 ≤ t from fun x hx => by
    have := h.good.ok x hx
    exact ⟨this.1, this.2.1, this.2.2.1, by omega⟩)
  rw [show ask L last (some k) t = (true, 0, putL (left1000 t L) k (lev (x, y) t - 50, t), t) from by unfold ask; dsimp only; rw [if_neg (by rintro (c | c); exact c ht; omega), hn]; dsimp only; rw [if_neg (by omega)]]
  have HN := Lib.hid hn
  have hvb := HGL.out.lk hn
  have HLV := Lib.hid (level_any (x, y) t hvb.1 hvb.2.1 hvb.2.2.1 ht)
  have hlb2 := lev_bounds (v := (x, y)) hvb.1 t
  obtain ⟨n, hnn⟩ : ∃ n, lev (x, y) t = n := ⟨_, rfl⟩
  rw [hnn] at HLV hlev hlb2 ⊢
  simp only [bkV] at HLV
  clear hn hnn hvb

  have HT := Lib.hid ht
  clear hE ht hl
  obtain ⟨M, hM, hMs, hMo⟩ : ∃ cs : Array Value, maskV s f (bitsOf s) = .agg cs ∧ cs.size = 18 ∧ cs.all (·.oneCell') = true := ⟨_, rfl, pref_size _ _ _, pref_one _ _ _⟩
  have HMS := Lib.hid hMs
  have HMO := Lib.hid hMo
  rw [hM] at HC hkM
  clear hzs hf hM hMs hMo
  obtain ⟨A, hA⟩ : ∃ A, addrL s f = A := ⟨_, rfl⟩
  have HAS := Lib.hid (show A.toArray.size = 17 from by rw [← hA, addr_size])
  rw [hA] at HC ⊢
  clear hA
  rw [HEQ.out] at HC
  have H := Lib.hid h
  clear h HEQ
  go_enter Try.func10, Try.ntmps10
  go_upto_region 1 with fail
  refine cut_world (fun X => Whole X w.heap.size 25 A.toArray ∧ LW X g b L last D ∧ Two g b w X) (by
    have hb := below_alloc (Below.refl w.heap.size w) (.cells A.toArray 25)
    exact ⟨Whole.new _ _ _, H.out.below hb, two_below hb⟩) ?_
  rintro W ⟨p1, p2, p3⟩
  have P1 := Lib.hid p1
  have P2 := Lib.hid p2
  have P3 := Lib.hid p3
  clear p1 p2 p3 H
  generalize hB : w.heap.size = B at P1 hlg hlb ⊢
  have HB := Lib.hid hB
  clear hB
  go_wp2_with fail
  refine (none_some g b last W P2.out.obj).mono ?_
  rintro e w1 ⟨rfl, rfl⟩
  go_wp2_with (first | (refine wpList_load_row rfl 25 (.tmp 4) rfl B rfl 25 A.toArray (0, 0) _ P1.out rfl rfl (by rw [HAS.out]; kernel_rfl) ?_))
  refine (HC.out W).mono ?_
  rintro e w1 ⟨rfl, hb1⟩
  have P2' := Lib.hid (P2.out.below hb1)
  have P3' := Lib.hid (P3.out.trans (two_below hb1))
  clear hb1 P1 P2 P3 HC
  go_upto_region 4 with (first | (refine wpList_store_row rfl 57 (.tmp 8) (.tmp 18) rfl w1.heap.size M rfl rfl 57 _ (Whole.new _ _ zs) (by rw [HMS.out]; kernel_rfl) (by rw [HMS.out, HZS.out]) HMO.out ?_))
  have hPg : g ≠ w1.heap.size ∧ b ≠ w1.heap.size ∧ B ≤ w1.heap.size := by
    have h1 := P3'.out.size
    have h2 := HB.out
    exact ⟨by omega, by omega, by omega⟩
  generalize hP : w1.heap.size = P at hPg ⊢
  have hb2 : Below w1.heap.size w1 ((w1.alloc (.cells zs 57)).setRow P M) := by
    rw [← hP]; exact below_setRow (below_alloc (Below.refl _ _) _) (Nat.le_refl _) _
  refine cut_world (fun X => AskW w g b P last L D M X) ⟨Whole.below P2'.out.obj hb2 P2'.out.obj.lt, P2'.out.own.kept (below_none hb2) (by simp), P2'.out.ag, by rw [← hP]; exact setRow_heap _ _ _ _ _ _ (Whole.new _ _ zs), P3'.out.trans (two_below hb2)⟩ ?_
  clear hb2 hP P2' P3'
  intro X hX
  have HX := Lib.hid hX
  clear hX w1 W
  have HKM := Lib.hid hkM
  clear hkM
  have c1 : X.cell? ⟨g, 1, none⟩ = some (.int .i64 last) := HX.out.obj.cell 1
  go_wp2_with fail
  refine (CS.out X).mono ?_
  rintro e w1 ⟨rfl, rfl⟩
  have f1 := HX.out.obj.free 1
  go_upto_region 10 with fail
  obtain ⟨Y, hY⟩ : ∃ Y, X.setCell ⟨g, 1, none⟩ (.int .i64 t) = Y := ⟨_, rfl⟩
  have HY := Lib.hid (show AskW w g b P t L D M Y from by
    rw [← hY]
    refine ⟨HX.out.obj.put 1 (.int .i64 t), HX.out.own.setCell hbg _, HX.out.ag, HX.out.p.far (by show P ≠ g; exact fun e => hPg.1 e.symm) _, HX.out.two.trans (two_set X 1 _)⟩)
  rw [hY]
  clear hY c1 f1 HX
  go_wp2_with fail
  refine (drop_any g b 1000000 t HT.out L D Y HY.out.obj HY.out.own HY.out.ag HOK.out).mono ?_
  rintro e w2 ⟨rfl, hg2, D2, hown2, hag2⟩
  have HZ := Lib.hid (show AskW w g b P t (left1000 t L) D2 M w2 from
    ⟨whole_by HY.out.obj hg2 hbg, hown2, hag2, whole_by HY.out.p hg2 hPg.2.1, HY.out.two.trans (two_grown hg2)⟩)
  clear hg2 hown2 hag2 HY HOK CS
  obtain ⟨L1, hL1⟩ : ∃ L1, left1000 t L = L1 := ⟨_, rfl⟩
  rw [hL1] at HZ HGL
  rw [hL1] at HN
  have HLE := Lib.hid hL1
  clear hL1
  go_upto_region 11 with fail
  have HLK := Lib.hid (fun (X : World) (hx : Below w2.heap.size w2 X) => (show (Instr.lookup 42 (.map (some b)) (.agg M) true).run Try.prog X = .ok (.tuple #[.agg #[.int .i64 x, .int .i64 y], .bool true]) X from by
    have h := look_any ((HZ.out.below hx).own) HZ.out.ag HKM.out
    rw [HN.out] at h
    exact h))
  refine region_drew (fun _ => True) (by kernel_rfl) trivial (fun _ => ?_)
  have hS : Below w2.heap.size w2 w2.drew := Below.drew (Below.refl _ _)
  refine Float.float_one (W := w2) [(0, 43, .is (.pointer (some ⟨g, 0, none⟩))), (1, 44, .is (.pointer (some ⟨g, 0, none⟩))), (2, 45, .is (.pointer (some ⟨g, 0, none⟩))), (3, 46, .is (.map (some b))), (4, 47, .is (.agg M)), (5, 48, .is (.tuple #[.agg #[.int .i64 x, .int .i64 y], .bool true])), (6, 42, .is (.tuple #[.agg #[.int .i64 x, .int .i64 y], .bool true])), (7, 49, .is (.agg #[.int .i64 x, .int .i64 y])), (8, 50, .is (.bool true)), (9, 10, .row 64 #[.int .i64 0, .int .i64 0])] [0, 1, 2, 3, 4, 5, 6, 7, 8, 9] 8 2 rfl (by rfl) (by kernel_rfl) (by kernel_rfl) (by kernel_rfl) (by kernel_rfl) (by kernel_rfl) (fun γ => rfl) rfl (.bool true) rfl (by kernel_rfl) (by kernel_rfl) (by kernel_rfl) (fun _ _ _ h => h) hS (fun _ _ => trivial) ?_ ?_ ?_
  · intro γ w
    simp only [Float.puts, Act.put, List.setIfInBounds_toArray, List.set_cons_zero, List.set_cons_succ]
    go_simp
    try with_reducible rfl
  · intro γ
    simp only [Float.puts, Act.put, List.setIfInBounds_toArray, List.set_cons_zero, List.set_cons_succ]
    refine ⟨?_, ?_, ?_, ?_, ?_, ?_, ?_, ?_, ?_, ?_, trivial⟩
    · exact ⟨_, _, rfl, Float.does_take (by intro w _; go_simp; try with_reducible rfl)⟩
    · exact ⟨_, _, rfl, Float.does_take (by intro w _; go_simp; try with_reducible rfl)⟩
    · exact ⟨_, _, rfl, Float.does_take (by intro w _; go_simp; try with_reducible rfl)⟩
    · exact ⟨_, _, rfl, Float.does_take (fun w hw => by have c0 := (HZ.out.below hw).obj.cell 0; go_simp; try with_reducible rfl)⟩
    · exact ⟨_, _, rfl, Float.does_take (fun w hw => run_load_in 57 (.tmp 8) rfl P rfl M 18 HMS.out (HZ.out.below hw).p rfl rfl (by kernel_rfl))⟩
    · exact ⟨_, _, rfl, Float.does_take (fun w hw => by have hl := HLK.out w hw; go_simp; try with_reducible rfl)⟩
    · exact ⟨_, _, rfl, Float.does_take (by intro w _; go_simp; try with_reducible rfl)⟩
    · exact ⟨_, _, rfl, Float.does_take (by intro w _; go_simp; try with_reducible rfl)⟩
    · exact ⟨_, _, rfl, Float.does_take (by intro w _; go_simp; try with_reducible rfl)⟩
    · exact ⟨_, _, rfl, fun w => by go_simp; try rfl⟩
  · intro γ v hS hrows hne
    simp only [Float.puts, Act.put, List.setIfInBounds_toArray, List.set_cons_zero, List.set_cons_succ]
    obtain ⟨⟨hge10, hg10⟩, -⟩ := hrows
    clear hne
    generalize γ 9 = b10 at *
    have Hg10 := Lib.hid hg10
    clear hg10
    clear γ
    have a0 := Hg10.out.cell 0
    have a1 := Hg10.out.cell 1
    have f0 := Hg10.out.free 0
    have f1 := Hg10.out.free 1
    refine alone 10 rfl (by kernel_rfl) (by rfl) ?_
    intro K hK
    go_simp
    refine hK.out _ _ trivial ?_
    clear hK K
    try simp only [Act.put]
    refine alone 11 rfl (by kernel_rfl) (by rfl) ?_
    intro K hK
    go_simp
    refine hK.out _ _ trivial ?_
    clear hK K
    try simp only [Act.put]
    refine region_end (by kernel_rfl) ?_
    have hZ2 := HZ.out.below hS
    have hQ : w2.heap.size ≤ b10 := hge10
    have hQ2 : P ≠ b10 ∧ g ≠ b10 ∧ b ≠ b10 := by
      have h1 := HZ.out.p.lt
      have h2 := HZ.out.obj.lt
      have h3 := HZ.out.own.lt
      exact ⟨by omega, by omega, by omega⟩
    refine cut_post (F := Exit.then _ _) (fun Y => AskW w g b P t L1 D2 M Y ∧ Whole Y b10 64 #[.int .i64 x, .int .i64 y]) ?_ ?_
    · refine ⟨?_, (Hg10.out.put 0 (.int .i64 x)).put 1 (.int .i64 y)⟩
      exact ⟨Whole.far (Whole.far hZ2.obj hQ2.2.1 _) hQ2.2.1 _, (hZ2.own.setCell hQ2.2.2 _).setCell hQ2.2.2 _, hZ2.ag, Whole.far (Whole.far hZ2.p hQ2.1 _) hQ2.1 _, by
        have h1 := hZ2.two
        have hlt := Hg10.out.lt
        exact two_set2 h1 hQ HZ.out.two.size _ _⟩
    have HZS2 := HZ.out.two.size
    clear HZ hS a0 a1 f0 f1 Hg10 hZ2 HLK
    rintro Y ⟨hy, hq⟩
    have HY := Lib.hid hy
    have HQ := Lib.hid hq
    clear hy hq
    have HRO := Lib.hid (show (lk L1 k).isSome = true from by rw [HN.out]; rfl)
    have hQ10 : w.heap.size ≤ b10 := Nat.le_trans HZS2 hQ
    go_wp2_with (refine wpList_load_row rfl 64 (.tmp 10) rfl b10 rfl 64 #[.int .i64 x, .int .i64 y] (0, 0) _ HQ.out rfl rfl (by kernel_rfl) ?_)
    refine (HLV.out _).mono ?_
    rintro e w4 ⟨rfl, hb4⟩
    have HY4 := Lib.hid (HY.out.below hb4)
    have HQ4 := Lib.hid (Whole.below HQ.out hb4 HQ.out.lt)
    clear hb4 HY HQ HLV
    have r0 := HQ4.out.free 0
    have r1 := HQ4.out.free 1
    have r2 := HQ4.out.cell 0
    have r3 := HQ4.out.cell 1
    go_upto_region 17 with fail
    obtain ⟨V, hV⟩ : ∃ V, (w4.setCell ⟨b10, 0, none⟩ (.int .i64 (n))).setCell ⟨b10, 1, none⟩ (.int .i64 t) = V := ⟨_, rfl⟩
    have HV2 := Lib.hid (show AskW w g b P t L1 D2 M V ∧ Whole V b10 64 #[.int .i64 (n), .int .i64 t] from by
      rw [← hV]
      refine ⟨⟨Whole.far (Whole.far HY4.out.obj hQ2.2.1 _) hQ2.2.1 _, (HY4.out.own.setCell hQ2.2.2 _).setCell hQ2.2.2 _, HY4.out.ag, Whole.far (Whole.far HY4.out.p hQ2.1 _) hQ2.1 _, two_set2 HY4.out.two hQ10 (Nat.le_refl _) _ _⟩, (HQ4.out.put 0 (.int .i64 (n))).put 1 (.int .i64 t)⟩)
    rw [hV]
    clear hV r0 r1 r2 r3 HY4 HQ4
    have HV := Lib.hid HV2.out.1
    have HQ := Lib.hid HV2.out.2
    clear HV2
    have q0 := HQ.out.cell 0
    have q1 := HQ.out.cell 1
    have qf := HQ.out.free 0
    have d50 : decide ((50 : Int) ≤ n) = true := decide_eq_true (by omega)
    have hw50 : IntKind.i64.wrap (n - 50) = n - 50 := by rw [IntKind.wrap_i64]; omega
    go_upto_region 20 with fail
    obtain ⟨U, hU⟩ : ∃ U, V.setCell ⟨b10, 0, none⟩ (.int .i64 (n - 50)) = U := ⟨_, rfl⟩
    have HU := Lib.hid (show AskW w g b P t L1 D2 M U ∧ Whole U b10 64 #[.int .i64 (n - 50), .int .i64 t] from by
      rw [← hU]
      exact ⟨⟨Whole.far HV.out.obj hQ2.2.1 _, HV.out.own.setCell hQ2.2.2 _, HV.out.ag, Whole.far HV.out.p hQ2.1 _, two_set1 HV.out.two hQ10 _⟩, HQ.out.put 0 (.int .i64 (n - 50))⟩)
    rw [hU]
    clear hU hw50
    clear q0 q1 qf HV HQ
    have c0 : U.drew.cell? ⟨g, 0, none⟩ = some (.map (some b)) := HU.out.1.obj.cell 0
    refine wp_region_still_tail 6 (by kernel_rfl) (by kernel_rfl) ?_
    simp only [List.take_succ_cons, List.take_zero, List.drop_succ_cons, List.drop_zero]
    still_step
    still_step
    still_step
    refine still_take (.map (some b)) (by rfl) (by go_simp; try with_reducible rfl) ?_
    go_frame
    refine still_take _ (by rfl) (run_load_in 57 (.tmp 8) rfl P rfl M 18 HMS.out HU.out.1.p.drew rfl rfl (by kernel_rfl)) ?_
    go_frame
    refine still_take _ (by rfl) (run_load_in 64 (.tmp 10) rfl b10 rfl #[.int .i64 (n - 50), .int .i64 t] 2 rfl HU.out.2.drew rfl rfl (by kernel_rfl)) ?_
    go_frame
    refine wpStill_nil ?_
    change wpList _ _ _ _ _ U.drew
    refine wpList_mapUpdate_in _ rfl _ _ _ 42 rfl 57 64 keyedP Try.underlying42 pairR b 1000000 D2 rfl (show U.drew.ownsMap Try.prog 57 pairR b 1000000 D2 from HU.out.1.own) (by unfold maxLen; omega) (.agg M) _ k rfl rfl HKM.out (pairD (n - 50, t)) [] (pairR_mk (n - 50, t)) ?_
    intro w3 hown3 hturn3
    have hg3 : U.grownBy w3 (some b) := by
      have h := hturn3.grown
      exact ⟨h.os, h.tape, h.output, h.size, h.block⟩
    have hag3 := HU.out.1.ag.put (hown3b hown3 HU.out.1.own) (keyedP.key HKM.out) (n - 50, t)
    have HE := Lib.hid (show AskE w g b t (putL L1 k (n - 50, t)) w3 from
      ⟨_, whole_by HU.out.1.obj hg3 hbg, own_back hown3 hag3 (by have := (good_put HGL.out (keyedP.key HKM.out) (x := n - 50) (by omega) (by omega) (Or.inl HRO.out)).room; omega), hag3, HU.out.1.two.trans (two_grown hg3)⟩)
    clear hown3 hturn3 hg3 hag3 c0
    go_frame
    go_wp2_with fail
    go_ret2
    obtain ⟨D3, e1, e2, e3, e4⟩ := HE.out
    refine ⟨rfl, ⟨D3, ?_⟩, e4⟩
    rw [HLE.out]
    exact ⟨e1, e2, e3, good_put HGL.out (keyedP.key HKM.out) (by omega) (by omega) (Or.inl HRO.out)⟩

set_option maxRecDepth 100000 in
set_option maxHeartbeats 4000000 in
theorem allow_late (g b : Nat) (L : List Bk) (last : Int) (D : DataW Unit) (s : Bool) (f : Nat → Nat) (hf : ∀ i, f i < 256) (t : Int) (hr : rightB s f = true) (ht : okT t) (hl : last ≤ t) (x y : Int) (hn : lk (left1000 t L) (klit Try.prog 57 s (maskF (bitsOf s) f) (bitsOf s)) = some (x, y)) (hlev : lev (x, y) t < 50) (w : World) (h : LW w g b L last D) :
    Calls Try.prog 10 #[.pointer (some ⟨g, 0, none⟩), .agg (addrL s f).toArray, .int .i64 t] w fun e w' =>
      e = .returned (.tuple #[.bool (ask L last (placeO Try.prog 57 s f) t).1, .int .i64 ((ask L last (placeO Try.prog 57 s f) t).2.1 : Nat)]) ∧
      (∃ D', LW w' g b (ask L last (placeO Try.prog 57 s f) t).2.2.1 (ask L last (placeO Try.prog 57 s f) t).2.2.2 D') ∧ Two g b w w' := by
  obtain ⟨zs, hz, hzs⟩ : ∃ zs : Array Value, (∀ w, (zeroValue 57).run Try.prog w = .ok (.agg zs) w) ∧ zs.size = 18 := ⟨_, zero_pref, pref_size _ _ _⟩
  have HZS := Lib.hid hzs
  obtain ⟨hlg, hlb, hbg⟩ := h.lt
  have HG := Lib.hid h.good
  have HC := Lib.hid (fun w => placeOf_any s f hf w)
  have HEQ := Lib.hid (mask_ok (s := s) (f := f))
  rw [hr] at HEQ
  have hkM := mask_key hf hr
  rw [place_some hr]
  obtain ⟨k, hk⟩ : ∃ k, klit Try.prog 57 s (maskF (bitsOf s) f) (bitsOf s) = k := ⟨_, rfl⟩
  rw [hk] at hkM hn ⊢
  clear hr hk
  have hE : spanE last t = 0 := by
    have hl0 := h.good.last0
    unfold spanE right okT at *
    rw [if_pos (by omega)]
  have CS := Lib.hid (span_any last t)
  rw [hE] at CS
  have HGL := Lib.hid (good_left h.good ht hl)
  have HOK := Lib.hid (show ∀ x ∈ L, 0 ≤ x.2.1 ∧ x.2.1 ≤ 250 ∧ okT x.2.2 ∧ x.2.2 ≤ t from fun x hx => by
    have := h.good.ok x hx
    exact ⟨this.1, this.2.1, this.2.2.1, by omega⟩)
  rw [show ask L last (some k) t = (false, 0, putL (left1000 t L) k (lev (x, y) t, t), t) from by unfold ask; dsimp only; rw [if_neg (by rintro (c | c); exact c ht; omega), hn]; dsimp only; rw [if_pos hlev]]
  have HN := Lib.hid hn
  have hvb := HGL.out.lk hn
  have HLV := Lib.hid (level_any (x, y) t hvb.1 hvb.2.1 hvb.2.2.1 ht)
  have hlb2 := lev_bounds (v := (x, y)) hvb.1 t
  obtain ⟨n, hnn⟩ : ∃ n, lev (x, y) t = n := ⟨_, rfl⟩
  rw [hnn] at HLV hlev hlb2 ⊢
  simp only [bkV] at HLV
  clear hn hnn hvb

  have HT := Lib.hid ht
  clear hE ht hl
  obtain ⟨M, hM, hMs, hMo⟩ : ∃ cs : Array Value, maskV s f (bitsOf s) = .agg cs ∧ cs.size = 18 ∧ cs.all (·.oneCell') = true := ⟨_, rfl, pref_size _ _ _, pref_one _ _ _⟩
  have HMS := Lib.hid hMs
  have HMO := Lib.hid hMo
  rw [hM] at HC hkM
  clear hzs hf hM hMs hMo
  obtain ⟨A, hA⟩ : ∃ A, addrL s f = A := ⟨_, rfl⟩
  have HAS := Lib.hid (show A.toArray.size = 17 from by rw [← hA, addr_size])
  rw [hA] at HC ⊢
  clear hA
  rw [HEQ.out] at HC
  have H := Lib.hid h
  clear h HEQ
  go_enter Try.func10, Try.ntmps10
  go_upto_region 1 with fail
  refine cut_world (fun X => Whole X w.heap.size 25 A.toArray ∧ LW X g b L last D ∧ Two g b w X) (by
    have hb := below_alloc (Below.refl w.heap.size w) (.cells A.toArray 25)
    exact ⟨Whole.new _ _ _, H.out.below hb, two_below hb⟩) ?_
  rintro W ⟨p1, p2, p3⟩
  have P1 := Lib.hid p1
  have P2 := Lib.hid p2
  have P3 := Lib.hid p3
  clear p1 p2 p3 H
  generalize hB : w.heap.size = B at P1 hlg hlb ⊢
  have HB := Lib.hid hB
  clear hB
  go_wp2_with fail
  refine (none_some g b last W P2.out.obj).mono ?_
  rintro e w1 ⟨rfl, rfl⟩
  go_wp2_with (first | (refine wpList_load_row rfl 25 (.tmp 4) rfl B rfl 25 A.toArray (0, 0) _ P1.out rfl rfl (by rw [HAS.out]; kernel_rfl) ?_))
  refine (HC.out W).mono ?_
  rintro e w1 ⟨rfl, hb1⟩
  have P2' := Lib.hid (P2.out.below hb1)
  have P3' := Lib.hid (P3.out.trans (two_below hb1))
  clear hb1 P1 P2 P3 HC
  go_upto_region 4 with (first | (refine wpList_store_row rfl 57 (.tmp 8) (.tmp 18) rfl w1.heap.size M rfl rfl 57 _ (Whole.new _ _ zs) (by rw [HMS.out]; kernel_rfl) (by rw [HMS.out, HZS.out]) HMO.out ?_))
  have hPg : g ≠ w1.heap.size ∧ b ≠ w1.heap.size ∧ B ≤ w1.heap.size := by
    have h1 := P3'.out.size
    have h2 := HB.out
    exact ⟨by omega, by omega, by omega⟩
  generalize hP : w1.heap.size = P at hPg ⊢
  have hb2 : Below w1.heap.size w1 ((w1.alloc (.cells zs 57)).setRow P M) := by
    rw [← hP]; exact below_setRow (below_alloc (Below.refl _ _) _) (Nat.le_refl _) _
  refine cut_world (fun X => AskW w g b P last L D M X) ⟨Whole.below P2'.out.obj hb2 P2'.out.obj.lt, P2'.out.own.kept (below_none hb2) (by simp), P2'.out.ag, by rw [← hP]; exact setRow_heap _ _ _ _ _ _ (Whole.new _ _ zs), P3'.out.trans (two_below hb2)⟩ ?_
  clear hb2 hP P2' P3'
  intro X hX
  have HX := Lib.hid hX
  clear hX w1 W
  have HKM := Lib.hid hkM
  clear hkM
  have c1 : X.cell? ⟨g, 1, none⟩ = some (.int .i64 last) := HX.out.obj.cell 1
  go_wp2_with fail
  refine (CS.out X).mono ?_
  rintro e w1 ⟨rfl, rfl⟩
  have f1 := HX.out.obj.free 1
  go_upto_region 10 with fail
  obtain ⟨Y, hY⟩ : ∃ Y, X.setCell ⟨g, 1, none⟩ (.int .i64 t) = Y := ⟨_, rfl⟩
  have HY := Lib.hid (show AskW w g b P t L D M Y from by
    rw [← hY]
    refine ⟨HX.out.obj.put 1 (.int .i64 t), HX.out.own.setCell hbg _, HX.out.ag, HX.out.p.far (by show P ≠ g; exact fun e => hPg.1 e.symm) _, HX.out.two.trans (two_set X 1 _)⟩)
  rw [hY]
  clear hY c1 f1 HX
  go_wp2_with fail
  refine (drop_any g b 1000000 t HT.out L D Y HY.out.obj HY.out.own HY.out.ag HOK.out).mono ?_
  rintro e w2 ⟨rfl, hg2, D2, hown2, hag2⟩
  have HZ := Lib.hid (show AskW w g b P t (left1000 t L) D2 M w2 from
    ⟨whole_by HY.out.obj hg2 hbg, hown2, hag2, whole_by HY.out.p hg2 hPg.2.1, HY.out.two.trans (two_grown hg2)⟩)
  clear hg2 hown2 hag2 HY HOK CS
  obtain ⟨L1, hL1⟩ : ∃ L1, left1000 t L = L1 := ⟨_, rfl⟩
  rw [hL1] at HZ HGL
  rw [hL1] at HN
  have HLE := Lib.hid hL1
  clear hL1
  go_upto_region 11 with fail
  have HLK := Lib.hid (fun (X : World) (hx : Below w2.heap.size w2 X) => (show (Instr.lookup 42 (.map (some b)) (.agg M) true).run Try.prog X = .ok (.tuple #[.agg #[.int .i64 x, .int .i64 y], .bool true]) X from by
    have h := look_any ((HZ.out.below hx).own) HZ.out.ag HKM.out
    rw [HN.out] at h
    exact h))
  refine region_drew (fun _ => True) (by kernel_rfl) trivial (fun _ => ?_)
  have hS : Below w2.heap.size w2 w2.drew := Below.drew (Below.refl _ _)
  refine Float.float_one (W := w2) [(0, 43, .is (.pointer (some ⟨g, 0, none⟩))), (1, 44, .is (.pointer (some ⟨g, 0, none⟩))), (2, 45, .is (.pointer (some ⟨g, 0, none⟩))), (3, 46, .is (.map (some b))), (4, 47, .is (.agg M)), (5, 48, .is (.tuple #[.agg #[.int .i64 x, .int .i64 y], .bool true])), (6, 42, .is (.tuple #[.agg #[.int .i64 x, .int .i64 y], .bool true])), (7, 49, .is (.agg #[.int .i64 x, .int .i64 y])), (8, 50, .is (.bool true)), (9, 10, .row 64 #[.int .i64 0, .int .i64 0])] [0, 1, 2, 3, 4, 5, 6, 7, 8, 9] 8 2 rfl (by rfl) (by kernel_rfl) (by kernel_rfl) (by kernel_rfl) (by kernel_rfl) (by kernel_rfl) (fun γ => rfl) rfl (.bool true) rfl (by kernel_rfl) (by kernel_rfl) (by kernel_rfl) (fun _ _ _ h => h) hS (fun _ _ => trivial) ?_ ?_ ?_
  · intro γ w
    simp only [Float.puts, Act.put, List.setIfInBounds_toArray, List.set_cons_zero, List.set_cons_succ]
    go_simp
    try with_reducible rfl
  · intro γ
    simp only [Float.puts, Act.put, List.setIfInBounds_toArray, List.set_cons_zero, List.set_cons_succ]
    refine ⟨?_, ?_, ?_, ?_, ?_, ?_, ?_, ?_, ?_, ?_, trivial⟩
    · exact ⟨_, _, rfl, Float.does_take (by intro w _; go_simp; try with_reducible rfl)⟩
    · exact ⟨_, _, rfl, Float.does_take (by intro w _; go_simp; try with_reducible rfl)⟩
    · exact ⟨_, _, rfl, Float.does_take (by intro w _; go_simp; try with_reducible rfl)⟩
    · exact ⟨_, _, rfl, Float.does_take (fun w hw => by have c0 := (HZ.out.below hw).obj.cell 0; go_simp; try with_reducible rfl)⟩
    · exact ⟨_, _, rfl, Float.does_take (fun w hw => run_load_in 57 (.tmp 8) rfl P rfl M 18 HMS.out (HZ.out.below hw).p rfl rfl (by kernel_rfl))⟩
    · exact ⟨_, _, rfl, Float.does_take (fun w hw => by have hl := HLK.out w hw; go_simp; try with_reducible rfl)⟩
    · exact ⟨_, _, rfl, Float.does_take (by intro w _; go_simp; try with_reducible rfl)⟩
    · exact ⟨_, _, rfl, Float.does_take (by intro w _; go_simp; try with_reducible rfl)⟩
    · exact ⟨_, _, rfl, Float.does_take (by intro w _; go_simp; try with_reducible rfl)⟩
    · exact ⟨_, _, rfl, fun w => by go_simp; try rfl⟩
  · intro γ v hS hrows hne
    simp only [Float.puts, Act.put, List.setIfInBounds_toArray, List.set_cons_zero, List.set_cons_succ]
    obtain ⟨⟨hge10, hg10⟩, -⟩ := hrows
    clear hne
    generalize γ 9 = b10 at *
    have Hg10 := Lib.hid hg10
    clear hg10
    clear γ
    have a0 := Hg10.out.cell 0
    have a1 := Hg10.out.cell 1
    have f0 := Hg10.out.free 0
    have f1 := Hg10.out.free 1
    refine alone 10 rfl (by kernel_rfl) (by rfl) ?_
    intro K hK
    go_simp
    refine hK.out _ _ trivial ?_
    clear hK K
    try simp only [Act.put]
    refine alone 11 rfl (by kernel_rfl) (by rfl) ?_
    intro K hK
    go_simp
    refine hK.out _ _ trivial ?_
    clear hK K
    try simp only [Act.put]
    refine region_end (by kernel_rfl) ?_
    have hZ2 := HZ.out.below hS
    have hQ : w2.heap.size ≤ b10 := hge10
    have hQ2 : P ≠ b10 ∧ g ≠ b10 ∧ b ≠ b10 := by
      have h1 := HZ.out.p.lt
      have h2 := HZ.out.obj.lt
      have h3 := HZ.out.own.lt
      exact ⟨by omega, by omega, by omega⟩
    refine cut_post (F := Exit.then _ _) (fun Y => AskW w g b P t L1 D2 M Y ∧ Whole Y b10 64 #[.int .i64 x, .int .i64 y]) ?_ ?_
    · refine ⟨?_, (Hg10.out.put 0 (.int .i64 x)).put 1 (.int .i64 y)⟩
      exact ⟨Whole.far (Whole.far hZ2.obj hQ2.2.1 _) hQ2.2.1 _, (hZ2.own.setCell hQ2.2.2 _).setCell hQ2.2.2 _, hZ2.ag, Whole.far (Whole.far hZ2.p hQ2.1 _) hQ2.1 _, by
        have h1 := hZ2.two
        have hlt := Hg10.out.lt
        exact two_set2 h1 hQ HZ.out.two.size _ _⟩
    have HZS2 := HZ.out.two.size
    clear HZ hS a0 a1 f0 f1 Hg10 hZ2 HLK
    rintro Y ⟨hy, hq⟩
    have HY := Lib.hid hy
    have HQ := Lib.hid hq
    clear hy hq
    have HRO := Lib.hid (show (lk L1 k).isSome = true from by rw [HN.out]; rfl)
    have hQ10 : w.heap.size ≤ b10 := Nat.le_trans HZS2 hQ
    go_wp2_with (refine wpList_load_row rfl 64 (.tmp 10) rfl b10 rfl 64 #[.int .i64 x, .int .i64 y] (0, 0) _ HQ.out rfl rfl (by kernel_rfl) ?_)
    refine (HLV.out _).mono ?_
    rintro e w4 ⟨rfl, hb4⟩
    have HY4 := Lib.hid (HY.out.below hb4)
    have HQ4 := Lib.hid (Whole.below HQ.out hb4 HQ.out.lt)
    clear hb4 HY HQ HLV
    have r0 := HQ4.out.free 0
    have r1 := HQ4.out.free 1
    have r2 := HQ4.out.cell 0
    have r3 := HQ4.out.cell 1
    go_upto_region 17 with fail
    obtain ⟨V, hV⟩ : ∃ V, (w4.setCell ⟨b10, 0, none⟩ (.int .i64 (n))).setCell ⟨b10, 1, none⟩ (.int .i64 t) = V := ⟨_, rfl⟩
    have HV2 := Lib.hid (show AskW w g b P t L1 D2 M V ∧ Whole V b10 64 #[.int .i64 (n), .int .i64 t] from by
      rw [← hV]
      refine ⟨⟨Whole.far (Whole.far HY4.out.obj hQ2.2.1 _) hQ2.2.1 _, (HY4.out.own.setCell hQ2.2.2 _).setCell hQ2.2.2 _, HY4.out.ag, Whole.far (Whole.far HY4.out.p hQ2.1 _) hQ2.1 _, two_set2 HY4.out.two hQ10 (Nat.le_refl _) _ _⟩, (HQ4.out.put 0 (.int .i64 (n))).put 1 (.int .i64 t)⟩)
    rw [hV]
    clear hV r0 r1 r2 r3 HY4 HQ4
    have HV := Lib.hid HV2.out.1
    have HQ := Lib.hid HV2.out.2
    clear HV2
    have q0 := HQ.out.cell 0
    have q1 := HQ.out.cell 1
    have qf := HQ.out.free 0
    have d50 : decide ((50 : Int) ≤ n) = false := decide_eq_false (by omega)
    go_upto_region 20 with fail
    obtain ⟨U, hU⟩ : ∃ U, V = U := ⟨_, rfl⟩
    have HU := Lib.hid (show AskW w g b P t L1 D2 M U ∧ Whole U b10 64 #[.int .i64 (n), .int .i64 t] from by
      rw [← hU]
      exact ⟨HV.out, HQ.out⟩)
    rw [hU]
    clear hU
    clear q0 q1 qf HV HQ
    have c0 : U.drew.cell? ⟨g, 0, none⟩ = some (.map (some b)) := HU.out.1.obj.cell 0
    refine wp_region_still_tail 6 (by kernel_rfl) (by kernel_rfl) ?_
    simp only [List.take_succ_cons, List.take_zero, List.drop_succ_cons, List.drop_zero]
    still_step
    still_step
    still_step
    refine still_take (.map (some b)) (by rfl) (by go_simp; try with_reducible rfl) ?_
    go_frame
    refine still_take _ (by rfl) (run_load_in 57 (.tmp 8) rfl P rfl M 18 HMS.out HU.out.1.p.drew rfl rfl (by kernel_rfl)) ?_
    go_frame
    refine still_take _ (by rfl) (run_load_in 64 (.tmp 10) rfl b10 rfl #[.int .i64 (n), .int .i64 t] 2 rfl HU.out.2.drew rfl rfl (by kernel_rfl)) ?_
    go_frame
    refine wpStill_nil ?_
    change wpList _ _ _ _ _ U.drew
    refine wpList_mapUpdate_in _ rfl _ _ _ 42 rfl 57 64 keyedP Try.underlying42 pairR b 1000000 D2 rfl (show U.drew.ownsMap Try.prog 57 pairR b 1000000 D2 from HU.out.1.own) (by unfold maxLen; omega) (.agg M) _ k rfl rfl HKM.out (pairD (n, t)) [] (pairR_mk (n, t)) ?_
    intro w3 hown3 hturn3
    have hg3 : U.grownBy w3 (some b) := by
      have h := hturn3.grown
      exact ⟨h.os, h.tape, h.output, h.size, h.block⟩
    have hag3 := HU.out.1.ag.put (hown3b hown3 HU.out.1.own) (keyedP.key HKM.out) (n, t)
    have HE := Lib.hid (show AskE w g b t (putL L1 k (n, t)) w3 from
      ⟨_, whole_by HU.out.1.obj hg3 hbg, own_back hown3 hag3 (by have := (good_put HGL.out (keyedP.key HKM.out) (x := n) (by omega) (by omega) (Or.inl HRO.out)).room; omega), hag3, HU.out.1.two.trans (two_grown hg3)⟩)
    clear hown3 hturn3 hg3 hag3 c0
    go_frame
    go_wp2_with fail
    go_ret2
    obtain ⟨D3, e1, e2, e3, e4⟩ := HE.out
    refine ⟨rfl, ⟨D3, ?_⟩, e4⟩
    rw [HLE.out]
    exact ⟨e1, e2, e3, good_put HGL.out (keyedP.key HKM.out) (by omega) (by omega) (Or.inl HRO.out)⟩

/-- Allow, at any limiter -/
theorem allow_any (g b : Nat) (L : List Bk) (last : Int) (D : DataW Unit) (s : Bool) (f : Nat → Nat) (hf : ∀ i, f i < 256) (t : Int) (w : World) (h : LW w g b L last D) :
    Calls Try.prog 10 #[.pointer (some ⟨g, 0, none⟩), .agg (addrL s f).toArray, .int .i64 t] w fun e w' =>
      e = .returned (.tuple #[.bool (ask L last (placeO Try.prog 57 s f) t).1, .int .i64 ((ask L last (placeO Try.prog 57 s f) t).2.1 : Nat)]) ∧
      (∃ D', LW w' g b (ask L last (placeO Try.prog 57 s f) t).2.2.1 (ask L last (placeO Try.prog 57 s f) t).2.2.2 D') ∧ Two g b w w' := by
  cases hr : rightB s f
  · exact allow_addr g b L last D s f hf t hr w h
  · by_cases ht : ¬ okT t ∨ t < last
    · exact allow_time g b L last D s f hf t hr ht w h
    · have h1 : okT t := Decidable.not_not.1 (not_or.1 ht).1
      have h2 : last ≤ t := Int.not_lt.1 (not_or.1 ht).2
      cases hn : lk (left1000 t L) (klit Try.prog 57 s (maskF (bitsOf s) f) (bitsOf s)) with
      | none =>
        by_cases hfull : 32 ≤ (left1000 t L).length
        · exact allow_full g b L last D s f hf t hr h1 h2 hn hfull w h
        · exact allow_room g b L last D s f hf t hr h1 h2 hn (by omega) w h
      | some v =>
        obtain ⟨x, y⟩ := v
        by_cases hlev : 50 ≤ lev (x, y) t
        · exact allow_through g b L last D s f hf t hr h1 h2 x y hn hlev w h
        · exact allow_late g b L last D s f hf t hr h1 h2 x y hn (by omega) w h
end Lim
end Go.Proofs.Ytlccgplgbokgkaa
