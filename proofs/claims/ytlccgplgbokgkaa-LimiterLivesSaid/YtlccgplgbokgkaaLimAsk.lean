/- Package limiter: Allow, at any limiter, address and time. -/
import Derived.Test.YtlccgplgbokgkaaLimAllow
namespace Go.Proofs.Ytlccgplgbokgkaa
namespace Lim
open Go.ChangeShapes Go.WideShapes Go.ChangeAt Go.RowKit Go.Maps
open Num Mem Words Chacha Aead Poly Adr Ops Quiet Stamp RowV

theorem cut_post {F : Exit → Act → World → Prop} {e : Exit} {a : Act} {w : World} (R : World → Prop) (hR : R w) (h : ∀ w', R w' → F e a w') : F e a w := h w hR
theorem look_any {w : World} {b n : Nat} {D : DataW Unit} {L : List Bk} (hown : w.ownsMap Try.prog 57 pairR b n D) (hag : Ag D L) {key : Value} {k : Lit} (hk : keyOf Try.prog 57 key = some k) :
    (Instr.lookup 42 (.map (some b)) key true).run Try.prog w = .ok (.tuple #[bkV ((lk L k).getD (0, 0)), .bool (lk L k).isSome]) w := by
  obtain ⟨v, ps, hrun, hv⟩ := hown.look_ok keyedP Try.underlying42 (zero_bk w) (pairR_mk (0, 0)) hk
  obtain ⟨c, rfl, hc⟩ := pairR_inv hv
  have hc := congrArg Prod.fst hc
  dsimp only at hc
  rw [hrun, hag.hs k]
  congr 3
  have : c = (lk L k).getD (0, 0) := by
    cases hl : lk L k with
    | some u =>
      rw [hag.at_ k u _ hl] at hc
      rw [← pairD_inj hc]
      rfl
    | none =>
      rw [atKey_of_not_has (by rw [hag.hs k, hl]; rfl)] at hc
      rw [← pairD_inj hc]
      rfl
  rw [this]
/-- the place of a right address -/
theorem place_some {s : Bool} {f : Nat → Nat} (h : rightB s f = true) : placeO Try.prog 57 s f = some (klit Try.prog 57 s (maskF (bitsOf s) f) (bitsOf s)) := by
  unfold placeO
  rw [if_pos h]
theorem place_none {s : Bool} {f : Nat → Nat} (h : rightB s f = false) : placeO Try.prog 57 s f = none := by
  unfold placeO
  rw [if_neg (by rw [h]; decide)]
theorem mask_key {s : Bool} {f : Nat → Nat} (hf : ∀ i, f i < 256) (h : rightB s f = true) : keyOf Try.prog 57 (maskV s f (bitsOf s)) = some (klit Try.prog 57 s (maskF (bitsOf s) f) (bitsOf s)) := by
  have e : maskE s f (bitsOf s) = 0 := by rw [mask_ok, if_pos h]
  unfold maskV mS mF mZ
  rw [if_pos e, if_pos e, if_pos e]
  exact key_pref s _ (maskF_lt hf _) _ (bits_lo s) (bits_hi s)

/-- the walk's state: the limiter's block with the time x, its map, the place's block P -/
structure AskW (w : World) (g b P : Nat) (x : Int) (L : List Bk) (D : DataW Unit) (M : Array Value) (X : World) : Prop where
  obj : Whole X g 44 #[.map (some b), .int .i64 x]
  own : X.ownsMap Try.prog 57 pairR b 1000000 D
  ag : Ag D L
  p : Whole X P 57 M
  two : Two g b w X
theorem AskW.below {w : World} {g b P : Nat} {x : Int} {L : List Bk} {D : DataW Unit} {M : Array Value} {X Y : World} (h : AskW w g b P x L D M X) (hb : Below X.heap.size X Y) : AskW w g b P x L D M Y :=
  ⟨h.obj.below hb h.obj.lt, h.own.kept (below_none hb) (by simp), h.ag, h.p.below hb h.p.lt, h.two.trans (two_below hb)⟩

set_option maxRecDepth 100000 in
set_option maxHeartbeats 4000000 in
theorem allow_addr (g b : Nat) (L : List Bk) (last : Int) (D : DataW Unit) (s : Bool) (f : Nat → Nat) (hf : ∀ i, f i < 256) (t : Int) (hr : rightB s f = false) (w : World) (h : LW w g b L last D) :
    Calls Try.prog 10 #[.pointer (some ⟨g, 0, none⟩), .agg (addrL s f).toArray, .int .i64 t] w fun e w' =>
      e = .returned (.tuple #[.bool (ask L last (placeO Try.prog 57 s f) t).1, .int .i64 ((ask L last (placeO Try.prog 57 s f) t).2.1 : Nat)]) ∧
      (∃ D', LW w' g b (ask L last (placeO Try.prog 57 s f) t).2.2.1 (ask L last (placeO Try.prog 57 s f) t).2.2.2 D') ∧ Two g b w w' := by
  obtain ⟨zs, hz, hzs⟩ : ∃ zs : Array Value, (∀ w, (zeroValue 57).run Try.prog w = .ok (.agg zs) w) ∧ zs.size = 18 := ⟨_, zero_pref, pref_size _ _ _⟩
  have HZS := Lib.hid hzs
  obtain ⟨hlg, hlb, hbg⟩ := h.lt
  have HG := Lib.hid h.good
  have HC := Lib.hid (fun w => placeOf_any s f hf w)
  have HEQ := Lib.hid (mask_ok (s := s) (f := f))
  rw [hr] at HEQ
  rw [place_none hr]
  clear hr
  obtain ⟨M, hM, hMs, hMo⟩ : ∃ cs : Array Value, maskV s f (bitsOf s) = .agg cs ∧ cs.size = 18 ∧ cs.all (·.oneCell') = true := ⟨_, rfl, pref_size _ _ _, pref_one _ _ _⟩
  have HMS := Lib.hid hMs
  have HMO := Lib.hid hMo
  rw [hM] at HC
  clear hzs hf hM hMs hMo
  obtain ⟨A, hA⟩ : ∃ A, addrL s f = A := ⟨_, rfl⟩
  have HAS := Lib.hid (show A.toArray.size = 17 from by rw [← hA, addr_size])
  rw [hA] at HC ⊢
  clear hA
  rw [HEQ.out] at HC
  have H := Lib.hid h
  clear h HEQ
  go_enter Try.func10, Try.ntmps10
  go_upto_region 1 with fail
  refine cut_world (fun X => Whole X w.heap.size 25 A.toArray ∧ LW X g b L last D ∧ Two g b w X) (by
    have hb := below_alloc (Below.refl w.heap.size w) (.cells A.toArray 25)
    exact ⟨Whole.new _ _ _, H.out.below hb, two_below hb⟩) ?_
  rintro W ⟨p1, p2, p3⟩
  have P1 := Lib.hid p1
  have P2 := Lib.hid p2
  have P3 := Lib.hid p3
  clear p1 p2 p3 H
  generalize hB : w.heap.size = B at P1 hlg hlb ⊢
  have HB := Lib.hid hB
  clear hB
  go_wp2_with fail
  refine (none_some g b last W P2.out.obj).mono ?_
  rintro e w1 ⟨rfl, rfl⟩
  go_wp2_with (first | (refine wpList_load_row rfl 25 (.tmp 4) rfl B rfl 25 A.toArray (0, 0) _ P1.out rfl rfl (by rw [HAS.out]; kernel_rfl) ?_))
  refine (HC.out W).mono ?_
  rintro e w1 ⟨rfl, hb1⟩
  have P2' := Lib.hid (P2.out.below hb1)
  have P3' := Lib.hid (P3.out.trans (two_below hb1))
  clear hb1 P1 P2 P3 HC
  go_upto_region 4 with (first | (refine wpList_store_row rfl 57 (.tmp 8) (.tmp 18) rfl w1.heap.size M rfl rfl 57 _ (Whole.new _ _ zs) (by rw [HMS.out]; kernel_rfl) (by rw [HMS.out, HZS.out]) HMO.out ?_))
  have hPg : g ≠ w1.heap.size ∧ b ≠ w1.heap.size ∧ B ≤ w1.heap.size := by
    have h1 := P3'.out.size
    have h2 := HB.out
    exact ⟨by omega, by omega, by omega⟩
  generalize hP : w1.heap.size = P at hPg ⊢
  have hb2 : Below w1.heap.size w1 ((w1.alloc (.cells zs 57)).setRow P M) := by
    rw [← hP]; exact below_setRow (below_alloc (Below.refl _ _) _) (Nat.le_refl _) _
  refine cut_world (fun X => AskW w g b P last L D M X) ⟨Whole.below P2'.out.obj hb2 P2'.out.obj.lt, P2'.out.own.kept (below_none hb2) (by simp), P2'.out.ag, by rw [← hP]; exact setRow_heap _ _ _ _ _ _ (Whole.new _ _ zs), P3'.out.trans (two_below hb2)⟩ ?_
  clear hb2 hP P2' P3'
  intro X hX
  have HX := Lib.hid hX
  clear hX w1 W
  go_wp2_with fail
  go_ret2
  exact ⟨rfl, ⟨D, HX.out.obj, HX.out.own, HX.out.ag, HG.out⟩, HX.out.two⟩

set_option maxRecDepth 100000 in
set_option maxHeartbeats 4000000 in
theorem allow_time (g b : Nat) (L : List Bk) (last : Int) (D : DataW Unit) (s : Bool) (f : Nat → Nat) (hf : ∀ i, f i < 256) (t : Int) (hr : rightB s f = true) (ht : ¬ okT t ∨ t < last) (w : World) (h : LW w g b L last D) :
    Calls Try.prog 10 #[.pointer (some ⟨g, 0, none⟩), .agg (addrL s f).toArray, .int .i64 t] w fun e w' =>
      e = .returned (.tuple #[.bool (ask L last (placeO Try.prog 57 s f) t).1, .int .i64 ((ask L last (placeO Try.prog 57 s f) t).2.1 : Nat)]) ∧
      (∃ D', LW w' g b (ask L last (placeO Try.prog 57 s f) t).2.2.1 (ask L last (placeO Try.prog 57 s f) t).2.2.2 D') ∧ Two g b w w' := by
  obtain ⟨zs, hz, hzs⟩ : ∃ zs : Array Value, (∀ w, (zeroValue 57).run Try.prog w = .ok (.agg zs) w) ∧ zs.size = 18 := ⟨_, zero_pref, pref_size _ _ _⟩
  have HZS := Lib.hid hzs
  obtain ⟨hlg, hlb, hbg⟩ := h.lt
  have HG := Lib.hid h.good
  have HC := Lib.hid (fun w => placeOf_any s f hf w)
  have HEQ := Lib.hid (mask_ok (s := s) (f := f))
  rw [hr] at HEQ
  have hkM := mask_key hf hr
  rw [place_some hr]
  obtain ⟨k, hk⟩ : ∃ k, klit Try.prog 57 s (maskF (bitsOf s) f) (bitsOf s) = k := ⟨_, rfl⟩
  rw [hk] at hkM ⊢
  clear hr hk
  have hE : spanE last t = 1 := by
    have hl := h.good.last0
    unfold spanE right okT at *
    rw [if_neg (by omega)]
  have CS := Lib.hid (span_any last t)
  rw [hE] at CS
  rw [show ∀ k, ask L last (some k) t = (false, 1, L, last) from fun k => by unfold ask; dsimp only; rw [if_pos ht]]
  clear hE ht
  obtain ⟨M, hM, hMs, hMo⟩ : ∃ cs : Array Value, maskV s f (bitsOf s) = .agg cs ∧ cs.size = 18 ∧ cs.all (·.oneCell') = true := ⟨_, rfl, pref_size _ _ _, pref_one _ _ _⟩
  have HMS := Lib.hid hMs
  have HMO := Lib.hid hMo
  rw [hM] at HC hkM
  clear hzs hf hM hMs hMo
  obtain ⟨A, hA⟩ : ∃ A, addrL s f = A := ⟨_, rfl⟩
  have HAS := Lib.hid (show A.toArray.size = 17 from by rw [← hA, addr_size])
  rw [hA] at HC ⊢
  clear hA
  rw [HEQ.out] at HC
  have H := Lib.hid h
  clear h HEQ
  go_enter Try.func10, Try.ntmps10
  go_upto_region 1 with fail
  refine cut_world (fun X => Whole X w.heap.size 25 A.toArray ∧ LW X g b L last D ∧ Two g b w X) (by
    have hb := below_alloc (Below.refl w.heap.size w) (.cells A.toArray 25)
    exact ⟨Whole.new _ _ _, H.out.below hb, two_below hb⟩) ?_
  rintro W ⟨p1, p2, p3⟩
  have P1 := Lib.hid p1
  have P2 := Lib.hid p2
  have P3 := Lib.hid p3
  clear p1 p2 p3 H
  generalize hB : w.heap.size = B at P1 hlg hlb ⊢
  have HB := Lib.hid hB
  clear hB
  go_wp2_with fail
  refine (none_some g b last W P2.out.obj).mono ?_
  rintro e w1 ⟨rfl, rfl⟩
  go_wp2_with (first | (refine wpList_load_row rfl 25 (.tmp 4) rfl B rfl 25 A.toArray (0, 0) _ P1.out rfl rfl (by rw [HAS.out]; kernel_rfl) ?_))
  refine (HC.out W).mono ?_
  rintro e w1 ⟨rfl, hb1⟩
  have P2' := Lib.hid (P2.out.below hb1)
  have P3' := Lib.hid (P3.out.trans (two_below hb1))
  clear hb1 P1 P2 P3 HC
  go_upto_region 4 with (first | (refine wpList_store_row rfl 57 (.tmp 8) (.tmp 18) rfl w1.heap.size M rfl rfl 57 _ (Whole.new _ _ zs) (by rw [HMS.out]; kernel_rfl) (by rw [HMS.out, HZS.out]) HMO.out ?_))
  have hPg : g ≠ w1.heap.size ∧ b ≠ w1.heap.size ∧ B ≤ w1.heap.size := by
    have h1 := P3'.out.size
    have h2 := HB.out
    exact ⟨by omega, by omega, by omega⟩
  generalize hP : w1.heap.size = P at hPg ⊢
  have hb2 : Below w1.heap.size w1 ((w1.alloc (.cells zs 57)).setRow P M) := by
    rw [← hP]; exact below_setRow (below_alloc (Below.refl _ _) _) (Nat.le_refl _) _
  refine cut_world (fun X => AskW w g b P last L D M X) ⟨Whole.below P2'.out.obj hb2 P2'.out.obj.lt, P2'.out.own.kept (below_none hb2) (by simp), P2'.out.ag, by rw [← hP]; exact setRow_heap _ _ _ _ _ _ (Whole.new _ _ zs), P3'.out.trans (two_below hb2)⟩ ?_
  clear hb2 hP P2' P3'
  intro X hX
  have HX := Lib.hid hX
  clear hX w1 W
  have HKM := Lib.hid hkM
  clear hkM
  have c1 : X.cell? ⟨g, 1, none⟩ = some (.int .i64 last) := HX.out.obj.cell 1
  go_wp2_with fail
  refine (CS.out X).mono ?_
  rintro e w1 ⟨rfl, rfl⟩
  go_wp2_with fail
  go_ret2
  exact ⟨rfl, ⟨D, HX.out.obj, HX.out.own, HX.out.ag, HG.out⟩, HX.out.two⟩

theorem two_set2 {g b B Q : Nat} {w X : World} (h : Two g b w X) (hQ : B ≤ Q) (hB : w.heap.size ≤ B) (u v : Value) : Two g b w ((X.setCell ⟨Q, 0, none⟩ u).setCell ⟨Q, 1, none⟩ v) := by
  have hb := ((Below.refl w.heap.size X).setCell (p := ⟨Q, 0, none⟩) (by show w.heap.size ≤ Q; omega) u).setCell (p := ⟨Q, 1, none⟩) (by show w.heap.size ≤ Q; omega) v
  exact ⟨hb.os.trans h.os, hb.tape.trans h.tape, hb.output.trans h.output, Nat.le_trans h.size hb.size, fun i hi h1 h2 => (hb.block i hi).trans (h.block i hi h1 h2)⟩

theorem own_back {w : World} {b n : Nat} {D : DataW Unit} {L : List Bk} (h : w.ownsMap Try.prog 57 pairR b n D) (ha : Ag D L) (hl : L.length ≤ 1000000) : w.ownsMap Try.prog 57 pairR b 1000000 D := by
  have hs : Maps.size D = L.length := ha.size (h.tidy keyedP) (fun es he p hp => by
    obtain ⟨es', he', _, hk⟩ := h.entries keyedP
    rw [he] at he'
    injection he' with he'
    subst he'
    exact hk p hp)
  exact (own_tight h).mono (by rw [hs]; exact hl)
theorem own_size {w : World} {b n : Nat} {D : DataW Unit} {L : List Bk} (h : w.ownsMap Try.prog 57 pairR b n D) (ha : Ag D L) : Maps.size D = L.length := ha.size (h.tidy keyedP) (fun es he p hp => by
    obtain ⟨es', he', _, hk⟩ := h.entries keyedP
    rw [he] at he'
    injection he' with he'
    subst he'
    exact hk p hp)

end Lim
end Go.Proofs.Ytlccgplgbokgkaa
