/- The document's limiter: Level. -/
import Derived.Test.YtlccgplgbokgkaaLimRAllow
namespace Go.Proofs.Ytlccgplgbokgkaa
namespace Lim
open Go.ChangeShapes Go.WideShapes Go.ChangeAt Go.RowKit Go.Maps
open Num Mem Words Chacha Aead Poly Adr Ops Quiet Stamp RowV

set_option maxRecDepth 100000 in
set_option maxHeartbeats 4000000 in
theorem rtell_any (Y B : Nat) (E : List Ent) (last : Int) (hE : okE E) (hG : Good (bksE Try.prog 57 E) last) (s : Bool) (f : Nat → Nat) (hf : ∀ i, f i < 256) (t : Int) (w : World) (h : RW w Y B E last) :
    Calls Try.prog 13 #[.pointer (some ⟨Y, 0, none⟩), .agg (addrL s f).toArray, .int .i64 t] w fun e w' => e = .returned (.tuple #[.int .i64 (tell (bksE Try.prog 57 E) (placeO Try.prog 57 s f) t).1, .bool (tell (bksE Try.prog 57 E) (placeO Try.prog 57 s f) t).2]) ∧ Below w.heap.size w w' := by
  obtain ⟨zs, hz, hzs⟩ : ∃ zs : Array Value, (∀ w, (zeroValue 25).run Try.prog w = .ok (.agg zs) w) ∧ zs.size = 17 := ⟨_, zero_addr, addr_size _ _⟩
  have HZS := Lib.hid hzs
  have H := Lib.hid h
  have HC := Lib.hid (rplace_any s f)
  obtain ⟨M, hM⟩ : ∃ M : Array Value, (addrL (plS s f) (plG s f)).toArray = M := ⟨_, rfl⟩
  have HMS := Lib.hid (show M.size = 17 by rw [← hM, addr_size])
  have HMO := Lib.hid (show M.all (·.oneCell') = true by rw [← hM]; exact addr_one _ _)
  have HME := Lib.hid hM
  rw [hM] at HC
  obtain ⟨r, hr⟩ : ∃ r, rightB s f = r := ⟨_, rfl⟩
  rw [hr] at HC
  have HRR := Lib.hid hr
  obtain ⟨T1, hT1⟩ : ∃ T, tell (bksE Try.prog 57 E) (placeO Try.prog 57 s f) t = T := ⟨_, rfl⟩
  rw [hT1]
  have HTT := Lib.hid hT1
  obtain ⟨A, hA⟩ : ∃ A : Array Value, (addrL s f).toArray = A := ⟨_, rfl⟩
  have HAS := Lib.hid (show A.size = 17 by rw [← hA, addr_size])
  rw [hA] at HC ⊢
  have HG := Lib.hid hG
  have HEE := Lib.hid hE
  have HF := Lib.hid hf
  clear hA hzs hM h hG hE hf hr hT1
  go_enter Try.func13, Try.ntmps13
  go_upto_region 1 with fail
  refine cut_world (fun X => Whole X w.heap.size 25 A ∧ Below w.heap.size w X) ⟨Whole.new _ _ _, below_alloc (Below.refl _ _) _⟩ ?_
  rintro W ⟨p1, p2⟩
  have P1 := Lib.hid p1
  have P2 := Lib.hid p2
  clear p1 p2
  go_wp2_with (refine wpList_load_row rfl 25 (.tmp 4) rfl w.heap.size rfl 25 A (0, 0) _ P1.out rfl rfl (by rw [HAS.out]; kernel_rfl) ?_)
  refine (HC.out W).mono ?_
  rintro e w1 ⟨rfl, hb1⟩
  have P2' := Lib.hid (below_trans P2.out hb1)
  clear hb1 P1 P2 HC
  go_upto_region 2 with (refine wpList_store_row rfl 25 (.tmp 8) (.tmp 14) rfl w1.heap.size M rfl rfl 25 _ (Whole.new _ _ zs) (by rw [HMS.out]; kernel_rfl) (by rw [HMS.out, HZS.out]) HMO.out ?_)
  have hPw : w.heap.size ≤ w1.heap.size := P2'.out.size
  generalize hP : w1.heap.size = P at hPw
  have hb2 : Below w1.heap.size w1 ((w1.alloc (.cells zs 25)).setRow P M) := by
    rw [← hP]; exact below_setRow (below_alloc (Below.refl _ _) _) (Nat.le_refl _) _
  refine cut_world (fun X => Whole X P 25 M ∧ Below w.heap.size w X) ⟨by rw [← hP]; exact setRow_heap _ _ _ _ _ _ (Whole.new _ _ zs), below_trans P2'.out hb2⟩ ?_
  clear hb2 P2' hP w1 W
  rintro X ⟨q1, q2⟩
  have HP := Lib.hid q1
  have HX := Lib.hid q2
  clear q1 q2
  cases r
  · go_wp2_with fail
    go_ret2
    refine ⟨?_, HX.out⟩
    rw [← HTT.out, place_none HRR.out]
    rfl
  · have hpl := place_pl HF.out HRR.out
    rw [hpl] at HTT
    clear hpl
    by_cases ht : okT t
    · go_wp2_with fail
      refine (r09_any t true ⟨fun _ => ht, fun _ => rfl⟩ X).mono ?_
      rintro e w2 ⟨rfl, rfl⟩
      have hlen : E.length ≤ 1000 := by have := HG.out.room; rw [bksE, List.length_map] at this; omega
      have HFD := Lib.hid (rfind_any Y B E last HEE.out hlen s (plF s f) (plF_lt HF.out s) X (H.out.keep HX.out))
      have hMe : M = (addrL s (plF s f)).toArray := by rw [← HME.out]; unfold plS plG; rw [HRR.out, if_pos rfl, if_pos rfl]
      rw [← hMe] at HFD
      clear hMe hlen
      go_wp2_with (refine wpList_load_row rfl 25 (.tmp 8) rfl P rfl 25 M (0, 0) _ HP.out rfl rfl (by rw [HMS.out]; kernel_rfl) ?_)
      refine HFD.out.mono ?_
      rintro e V1 ⟨r, rfl, hbV, hfr⟩
      have HFR := Lib.hid hfr
      have HB1 := Lib.hid (below_trans HX.out hbV)
      clear hbV hfr HFD
      rcases HFR.out with ⟨hr1, hno⟩ | ⟨i, d, hri, hd, hsame, hfirst⟩
      · subst hr1
        go_wp2_with fail
        go_ret2
        refine ⟨?_, HB1.out⟩
        rw [← HTT.out]
        unfold tell
        dsimp only
        rw [if_pos ht, lk_not (plF_lt HF.out s) HEE.out hno]
        rfl
      · subst hri
        have hdb := HG.out.ok (toBk Try.prog 57 d) (List.mem_map.2 ⟨d, List.mem_of_getElem? hd, rfl⟩)
        have HLV := Lib.hid (rlevel_any d t hdb.1 hdb.2.1 hdb.2.2.1 ht)
        have HTE := Lib.hid (show T1 = (lev (d.2.2.1, d.2.2.2) t, true) from by
          rw [← HTT.out]
          unfold tell
          dsimp only
          rw [if_pos ht, lk_at (plF_lt HF.out s) HEE.out hd hsame hfirst])
        obtain ⟨A2, c2, hY, hrow, hYB⟩ := (H.out.keep HB1.out)
        have hii := (List.getElem?_eq_some_iff.1 hd).1
        obtain ⟨g, rfl, hgN, hgl, hcells⟩ := own_cells hrow (by omega)
        obtain ⟨n, hn⟩ : ∃ n, E.length = n := ⟨_, rfl⟩
        rw [hn] at hY hii
        have cY := hY.cell 0
        have hin : (i : Int) < (n : Int) := by omega
        have hi0 : ¬ (i : Int) < 0 := by omega
        have HRG := Lib.hid (show V1.rangeAt g (i * 19) (cellsE d) from fun j v hj => (hcells _ _ (by rw [flat_get E i j d hd (by have := (List.getElem?_eq_some_iff.1 hj).1; rwa [cellsE_length] at this)]; exact hj)).1)
        have HDL := Lib.hid (cellsE_length d)
        obtain ⟨nn, hnn⟩ : ∃ nn, lev (d.2.2.1, d.2.2.2) t = nn := ⟨_, rfl⟩
        rw [hnn] at HLV HTE
        obtain ⟨Q, hQ⟩ : ∃ Q, cellsE d = Q := ⟨_, rfl⟩
        rw [hQ] at HRG HDL HLV
        clear hd hsame hfirst hY hrow hcells hQ hnn hdb hn HFR
        go_wp2_with (refine wpList_load_mid rfl 71 (.tmp 33) rfl g (i * 19) rfl Q _ HRG.out rfl rfl (by rw [HDL.out]; kernel_rfl) ?_)
        refine (HLV.out _).mono ?_
        rintro e V2 ⟨rfl, hb⟩
        have HB2 := Lib.hid (below_trans HB1.out hb)
        clear hb
        go_wp2_with fail
        go_ret2
        refine ⟨?_, HB2.out⟩
        rw [HTE.out]
        rfl
    · go_wp2_with fail
      refine (r09_any t false ⟨fun e => (by cases e), fun k => absurd k ht⟩ X).mono ?_
      rintro e w2 ⟨rfl, rfl⟩
      go_wp2_with fail
      go_ret2
      refine ⟨?_, HX.out⟩
      rw [← HTT.out]
      unfold tell
      dsimp only
      rw [if_neg ht]
      rfl
end Lim
end Go.Proofs.Ytlccgplgbokgkaa
