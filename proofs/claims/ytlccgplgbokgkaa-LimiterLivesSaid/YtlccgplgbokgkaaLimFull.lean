/- Package limiter: Allow where there is no room. -/
import Derived.Test.YtlccgplgbokgkaaLimAsk
namespace Go.Proofs.Ytlccgplgbokgkaa
namespace Lim
open Go.ChangeShapes Go.WideShapes Go.ChangeAt Go.RowKit Go.Maps
open Num Mem Words Chacha Aead Poly Adr Ops Quiet Stamp RowV

set_option maxRecDepth 100000 in
set_option maxHeartbeats 4000000 in
theorem allow_full (g b : Nat) (L : List Bk) (last : Int) (D : DataW Unit) (s : Bool) (f : Nat → Nat) (hf : ∀ i, f i < 256) (t : Int) (hr : rightB s f = true) (ht : okT t) (hl : last ≤ t) (hn : lk (left1000 t L) (klit Try.prog 57 s (maskF (bitsOf s) f) (bitsOf s)) = none) (hfull : 32 ≤ (left1000 t L).length) (w : World) (h : LW w g b L last D) :
    Calls Try.prog 10 #[.pointer (some ⟨g, 0, none⟩), .agg (addrL s f).toArray, .int .i64 t] w fun e w' =>
      e = .returned (.tuple #[.bool (ask L last (placeO Try.prog 57 s f) t).1, .int .i64 ((ask L last (placeO Try.prog 57 s f) t).2.1 : Nat)]) ∧
      (∃ D', LW w' g b (ask L last (placeO Try.prog 57 s f) t).2.2.1 (ask L last (placeO Try.prog 57 s f) t).2.2.2 D') ∧ Two g b w w' := by
  obtain ⟨zs, hz, hzs⟩ : ∃ zs : Array Value, (∀ w, (zeroValue 57).run Try.prog w = .ok (.agg zs) w) ∧ zs.size = 18 := ⟨_, zero_pref, pref_size _ _ _⟩
  have HZS := Lib.hid hzs
  obtain ⟨hlg, hlb, hbg⟩ := h.lt
  have HG := Lib.hid h.good
  have HC := Lib.hid (fun w => placeOf_any s f hf w)
  have HEQ := Lib.hid (mask_ok (s := s) (f := f))
  rw [hr] at HEQ
  have hkM := mask_key hf hr
  rw [place_some hr]
  obtain ⟨k, hk⟩ : ∃ k, klit Try.prog 57 s (maskF (bitsOf s) f) (bitsOf s) = k := ⟨_, rfl⟩
  rw [hk] at hkM hn ⊢
  clear hr hk
  have hE : spanE last t = 0 := by
    have hl0 := h.good.last0
    unfold spanE right okT at *
    rw [if_pos (by omega)]
  have CS := Lib.hid (span_any last t)
  rw [hE] at CS
  have HGL := Lib.hid (good_left h.good ht hl)
  have HOK := Lib.hid (show ∀ x ∈ L, 0 ≤ x.2.1 ∧ x.2.1 ≤ 250 ∧ okT x.2.2 ∧ x.2.2 ≤ t from fun x hx => by
    have := h.good.ok x hx
    exact ⟨this.1, this.2.1, this.2.2.1, by omega⟩)
  rw [show ask L last (some k) t = (false, 5, left1000 t L, t) from by unfold ask; dsimp only; rw [if_neg (by rintro (c | c); exact c ht; omega), hn]; dsimp only; rw [if_pos hfull]]
  have HN := Lib.hid hn
  have HFU := Lib.hid hfull
  clear hn hfull

  have HT := Lib.hid ht
  clear hE ht hl
  obtain ⟨M, hM, hMs, hMo⟩ : ∃ cs : Array Value, maskV s f (bitsOf s) = .agg cs ∧ cs.size = 18 ∧ cs.all (·.oneCell') = true := ⟨_, rfl, pref_size _ _ _, pref_one _ _ _⟩
  have HMS := Lib.hid hMs
  have HMO := Lib.hid hMo
  rw [hM] at HC hkM
  clear hzs hf hM hMs hMo
  obtain ⟨A, hA⟩ : ∃ A, addrL s f = A := ⟨_, rfl⟩
  have HAS := Lib.hid (show A.toArray.size = 17 from by rw [← hA, addr_size])
  rw [hA] at HC ⊢
  clear hA
  rw [HEQ.out] at HC
  have H := Lib.hid h
  clear h HEQ
  go_enter Try.func10, Try.ntmps10
  go_upto_region 1 with fail
  refine cut_world (fun X => Whole X w.heap.size 25 A.toArray ∧ LW X g b L last D ∧ Two g b w X) (by
    have hb := below_alloc (Below.refl w.heap.size w) (.cells A.toArray 25)
    exact ⟨Whole.new _ _ _, H.out.below hb, two_below hb⟩) ?_
  rintro W ⟨p1, p2, p3⟩
  have P1 := Lib.hid p1
  have P2 := Lib.hid p2
  have P3 := Lib.hid p3
  clear p1 p2 p3 H
  generalize hB : w.heap.size = B at P1 hlg hlb ⊢
  have HB := Lib.hid hB
  clear hB
  go_wp2_with fail
  refine (none_some g b last W P2.out.obj).mono ?_
  rintro e w1 ⟨rfl, rfl⟩
  go_wp2_with (first | (refine wpList_load_row rfl 25 (.tmp 4) rfl B rfl 25 A.toArray (0, 0) _ P1.out rfl rfl (by rw [HAS.out]; kernel_rfl) ?_))
  refine (HC.out W).mono ?_
  rintro e w1 ⟨rfl, hb1⟩
  have P2' := Lib.hid (P2.out.below hb1)
  have P3' := Lib.hid (P3.out.trans (two_below hb1))
  clear hb1 P1 P2 P3 HC
  go_upto_region 4 with (first | (refine wpList_store_row rfl 57 (.tmp 8) (.tmp 18) rfl w1.heap.size M rfl rfl 57 _ (Whole.new _ _ zs) (by rw [HMS.out]; kernel_rfl) (by rw [HMS.out, HZS.out]) HMO.out ?_))
  have hPg : g ≠ w1.heap.size ∧ b ≠ w1.heap.size ∧ B ≤ w1.heap.size := by
    have h1 := P3'.out.size
    have h2 := HB.out
    exact ⟨by omega, by omega, by omega⟩
  generalize hP : w1.heap.size = P at hPg ⊢
  have hb2 : Below w1.heap.size w1 ((w1.alloc (.cells zs 57)).setRow P M) := by
    rw [← hP]; exact below_setRow (below_alloc (Below.refl _ _) _) (Nat.le_refl _) _
  refine cut_world (fun X => AskW w g b P last L D M X) ⟨Whole.below P2'.out.obj hb2 P2'.out.obj.lt, P2'.out.own.kept (below_none hb2) (by simp), P2'.out.ag, by rw [← hP]; exact setRow_heap _ _ _ _ _ _ (Whole.new _ _ zs), P3'.out.trans (two_below hb2)⟩ ?_
  clear hb2 hP P2' P3'
  intro X hX
  have HX := Lib.hid hX
  clear hX w1 W
  have HKM := Lib.hid hkM
  clear hkM
  have c1 : X.cell? ⟨g, 1, none⟩ = some (.int .i64 last) := HX.out.obj.cell 1
  go_wp2_with fail
  refine (CS.out X).mono ?_
  rintro e w1 ⟨rfl, rfl⟩
  have f1 := HX.out.obj.free 1
  go_upto_region 10 with fail
  obtain ⟨Y, hY⟩ : ∃ Y, X.setCell ⟨g, 1, none⟩ (.int .i64 t) = Y := ⟨_, rfl⟩
  have HY := Lib.hid (show AskW w g b P t L D M Y from by
    rw [← hY]
    refine ⟨HX.out.obj.put 1 (.int .i64 t), HX.out.own.setCell hbg _, HX.out.ag, HX.out.p.far (by show P ≠ g; exact fun e => hPg.1 e.symm) _, HX.out.two.trans (two_set X 1 _)⟩)
  rw [hY]
  clear hY c1 f1 HX
  go_wp2_with fail
  refine (drop_any g b 1000000 t HT.out L D Y HY.out.obj HY.out.own HY.out.ag HOK.out).mono ?_
  rintro e w2 ⟨rfl, hg2, D2, hown2, hag2⟩
  have HZ := Lib.hid (show AskW w g b P t (left1000 t L) D2 M w2 from
    ⟨whole_by HY.out.obj hg2 hbg, hown2, hag2, whole_by HY.out.p hg2 hPg.2.1, HY.out.two.trans (two_grown hg2)⟩)
  clear hg2 hown2 hag2 HY HOK CS
  obtain ⟨L1, hL1⟩ : ∃ L1, left1000 t L = L1 := ⟨_, rfl⟩
  rw [hL1] at HZ HGL
  rw [hL1] at HN HFU
  have HLE := Lib.hid hL1
  clear hL1
  go_upto_region 11 with fail
  have HLK := Lib.hid (fun (X : World) (hx : Below w2.heap.size w2 X) => (show (Instr.lookup 42 (.map (some b)) (.agg M) true).run Try.prog X = .ok (.tuple #[.agg #[.int .i64 0, .int .i64 0], .bool false]) X from by
    have h := look_any ((HZ.out.below hx).own) HZ.out.ag HKM.out
    rw [HN.out] at h
    exact h))
  refine region_drew (fun _ => True) (by kernel_rfl) trivial (fun _ => ?_)
  have hS : Below w2.heap.size w2 w2.drew := Below.drew (Below.refl _ _)
  refine Float.float_one (W := w2) [(0, 43, .is (.pointer (some ⟨g, 0, none⟩))), (1, 44, .is (.pointer (some ⟨g, 0, none⟩))), (2, 45, .is (.pointer (some ⟨g, 0, none⟩))), (3, 46, .is (.map (some b))), (4, 47, .is (.agg M)), (5, 48, .is (.tuple #[.agg #[.int .i64 0, .int .i64 0], .bool false])), (6, 42, .is (.tuple #[.agg #[.int .i64 0, .int .i64 0], .bool false])), (7, 49, .is (.agg #[.int .i64 0, .int .i64 0])), (8, 50, .is (.bool false)), (9, 10, .row 64 #[.int .i64 0, .int .i64 0])] [0, 1, 2, 3, 4, 5, 6, 7, 8, 9] 8 2 rfl (by rfl) (by kernel_rfl) (by kernel_rfl) (by kernel_rfl) (by kernel_rfl) (by kernel_rfl) (fun γ => rfl) rfl (.bool false) rfl (by kernel_rfl) (by kernel_rfl) (by kernel_rfl) (fun _ _ _ h => h) hS (fun _ _ => trivial) ?_ ?_ ?_
  · intro γ w
    simp only [Float.puts, Act.put, List.setIfInBounds_toArray, List.set_cons_zero, List.set_cons_succ]
    go_simp
    try with_reducible rfl
  · intro γ
    simp only [Float.puts, Act.put, List.setIfInBounds_toArray, List.set_cons_zero, List.set_cons_succ]
    refine ⟨?_, ?_, ?_, ?_, ?_, ?_, ?_, ?_, ?_, ?_, trivial⟩
    · exact ⟨_, _, rfl, Float.does_take (by intro w _; go_simp; try with_reducible rfl)⟩
    · exact ⟨_, _, rfl, Float.does_take (by intro w _; go_simp; try with_reducible rfl)⟩
    · exact ⟨_, _, rfl, Float.does_take (by intro w _; go_simp; try with_reducible rfl)⟩
    · exact ⟨_, _, rfl, Float.does_take (fun w hw => by have c0 := (HZ.out.below hw).obj.cell 0; go_simp; try with_reducible rfl)⟩
    · exact ⟨_, _, rfl, Float.does_take (fun w hw => run_load_in 57 (.tmp 8) rfl P rfl M 18 HMS.out (HZ.out.below hw).p rfl rfl (by kernel_rfl))⟩
    · exact ⟨_, _, rfl, Float.does_take (fun w hw => by have hl := HLK.out w hw; go_simp; try with_reducible rfl)⟩
    · exact ⟨_, _, rfl, Float.does_take (by intro w _; go_simp; try with_reducible rfl)⟩
    · exact ⟨_, _, rfl, Float.does_take (by intro w _; go_simp; try with_reducible rfl)⟩
    · exact ⟨_, _, rfl, Float.does_take (by intro w _; go_simp; try with_reducible rfl)⟩
    · exact ⟨_, _, rfl, fun w => by go_simp; try rfl⟩
  · intro γ v hS hrows hne
    simp only [Float.puts, Act.put, List.setIfInBounds_toArray, List.set_cons_zero, List.set_cons_succ]
    obtain ⟨⟨hge10, hg10⟩, -⟩ := hrows
    clear hne
    generalize γ 9 = b10 at *
    have Hg10 := Lib.hid hg10
    clear hg10
    clear γ
    have a0 := Hg10.out.cell 0
    have a1 := Hg10.out.cell 1
    have f0 := Hg10.out.free 0
    have f1 := Hg10.out.free 1
    refine alone 10 rfl (by kernel_rfl) (by rfl) ?_
    intro K hK
    go_simp
    refine hK.out _ _ trivial ?_
    clear hK K
    try simp only [Act.put]
    refine alone 11 rfl (by kernel_rfl) (by rfl) ?_
    intro K hK
    go_simp
    refine hK.out _ _ trivial ?_
    clear hK K
    try simp only [Act.put]
    refine region_end (by kernel_rfl) ?_
    have hZ2 := HZ.out.below hS
    have hQ : w2.heap.size ≤ b10 := hge10
    have hQ2 : P ≠ b10 ∧ g ≠ b10 ∧ b ≠ b10 := by
      have h1 := HZ.out.p.lt
      have h2 := HZ.out.obj.lt
      have h3 := HZ.out.own.lt
      exact ⟨by omega, by omega, by omega⟩
    refine cut_post (F := Exit.then _ _) (fun Y => AskW w g b P t L1 D2 M Y ∧ Whole Y b10 64 #[.int .i64 0, .int .i64 0]) ?_ ?_
    · refine ⟨?_, (Hg10.out.put 0 (.int .i64 0)).put 1 (.int .i64 0)⟩
      exact ⟨Whole.far (Whole.far hZ2.obj hQ2.2.1 _) hQ2.2.1 _, (hZ2.own.setCell hQ2.2.2 _).setCell hQ2.2.2 _, hZ2.ag, Whole.far (Whole.far hZ2.p hQ2.1 _) hQ2.1 _, by
        have h1 := hZ2.two
        have hlt := Hg10.out.lt
        exact two_set2 h1 hQ HZ.out.two.size _ _⟩
    clear HZ hS a0 a1 f0 f1 Hg10 hZ2 HLK
    rintro Y ⟨hy, hq⟩
    have HY := Lib.hid hy
    have HQ := Lib.hid hq
    clear hy hq
    have hsz := own_size HY.out.own HY.out.ag
    have HSZ := Lib.hid hsz
    clear hsz
    have c0 := HY.out.obj.cell 0
    obtain ⟨N, hN⟩ : ∃ N, Maps.size D2 = N := ⟨_, rfl⟩
    rw [hN] at HSZ
    have d1 : decide ((32 : Int) ≤ (N : Int)) = true := decide_eq_true (by have := HFU.out; rw [HSZ.out]; omega)
    have d2 : (32 : Int) ≤ (N : Int) := of_decide_eq_true d1
    go_wp2_with (at_len; refine wpList_len_own _ rfl _ 42 rfl 57 64 Try.underlying42 _ b 1000000 D2 rfl HY.out.own ?_; rw [hN])
    clear hN
    go_wp2_with fail
    go_ret2
    refine ⟨rfl, ⟨D2, ?_⟩, HY.out.two⟩
    rw [HLE.out]
    exact ⟨HY.out.obj, HY.out.own, HY.out.ag, HGL.out⟩

end Lim
end Go.Proofs.Ytlccgplgbokgkaa
