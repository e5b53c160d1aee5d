/- The walk of TrieLongest. -/
import Derived.Test.YtobfpbmgipgdcaaTrPlay
import Derived.BigQuiet
namespace Go.Proofs.Ytobfpbmgipgdcaa
namespace TrieLongest
open Go.ChangeShapes Go.WideShapes Go.ChangeAt Go.RowKit
open Num Mem Words Chacha Aead Poly Quiet Ops Adr RowS Tri

theorem hold_sub {t : Tm} (h : t.Fit) {s : Bool} {f : Nat → Nat} {x : Rt} (hx : x ∈ holdR s f t.a t.b) : x ∈ t.L := by
  obtain ⟨_, hs, hm⟩ := mem_holdR hx
  refine mem_routes2.2 ?_
  rw [hs]
  exact (hold_len (ok_pick h.oka h.okb) hm).2
theorem last_mem {L : List Rt} (h : L ≠ []) : lastR L ∈ L := by
  unfold lastR
  rw [List.getLastD_eq_getLast?, List.getLast?_eq_some_getLast h]
  exact List.getLast_mem h
/-- what is found -/
theorem found {t : Tm} (h : t.Fit) (s : Bool) (f : Nat → Nat) : ((lastR (holdR s f t.a t.b)).p.length : Int) ≤ digitsI (lastR (holdR s f t.a t.b)).s ∧ (((lastR (holdR s f t.a t.b)).o ≠ 0 ∧ lastR (holdR s f t.a t.b) ∈ holdR s f t.a t.b ∧ 1 ≤ (lastR (holdR s f t.a t.b)).o) ∨ ((lastR (holdR s f t.a t.b)).o = 0 ∧ holdR s f t.a t.b = [])) := by
  by_cases he : holdR s f t.a t.b = []
  · rw [he]
    exact ⟨by show ((0 : Nat) : Int) ≤ 32; decide, .inr ⟨rfl, rfl⟩⟩
  · have hm := last_mem he
    have ho := h.own _ (hold_sub h hm)
    exact ⟨ho.1, .inl ⟨by omega, hm, ho.2.2⟩⟩
theorem last_in {t : Tm} (h : t.Fit) (s : Bool) (f : Nat → Nat) : lastR (holdR s f t.a t.b) ∈ t.L ↔ (lastR (holdR s f t.a t.b)).o ≠ 0 := by
  rcases (found h s f).2 with ⟨h1, h2, _⟩ | ⟨h1, h2⟩
  · exact ⟨fun _ => h1, fun _ => hold_sub h h2⟩
  · exact ⟨fun k => by have := (h.own _ k).2.2; omega, fun k => absurd h1 k⟩
theorem holds_in {t : Tm} (h : t.Fit) {s : Bool} {f : Nat → Nat} (hf : ∀ i, f i < 256) {x : Rt} (hx : x ∈ t.L) (hp : (x.p.length : Int) ≤ digitsI x.s) (hh : holdsPB x.s (byt x.p) (x.p.length : Int) s f = true) : x ∈ holdR s f t.a t.b := by
  obtain ⟨h1, h2, h3⟩ := (holds_iff (byt_lt x.p) hf (right_byt hp)).1 hh
  rw [bs_byt] at h3
  have hm := mem_routes2.1 hx
  subst h2
  unfold holdR subR
  rw [if_pos h1]
  refine List.mem_map.2 ⟨(x.p, x.o), ?_, rfl⟩
  show (x.p, x.o) ∈ (pickT x.s t.a t.b).hold _
  rw [hold_filter _ (ok_pick (s := x.s) h.oka h.okb), List.mem_filter, decide_eq_true_eq]
  exact ⟨hm, h3⟩
theorem hold_in {t : Tm} (h : t.Fit) {s : Bool} {f : Nat → Nat} (hf : ∀ i, f i < 256) {x : Rt} (hx : x ∈ holdR s f t.a t.b) : holdsPB x.s (byt x.p) (x.p.length : Int) s f = true := by
  have ho := h.own _ (hold_sub h hx)
  obtain ⟨h1, hs, hm⟩ := mem_holdR hx
  refine (holds_iff (byt_lt x.p) hf (right_byt ho.1)).2 ⟨h1, hs.symm, ?_⟩
  rw [bs_byt, hs]
  exact (hold_len (ok_pick h.oka h.okb) hm).1
theorem rises {t : Tm} (h : t.Fit) (s : Bool) (f : Nat → Nat) : (holdR s f t.a t.b).Pairwise (fun x y => x.p.length < y.p.length) := by
  unfold holdR subR
  split
  · rw [List.pairwise_map]
    exact hold_rise (ok_pick (s := s) h.oka h.okb) _
  · exact List.Pairwise.nil
theorem shorter {t : Tm} (h : t.Fit) {s : Bool} {f : Nat → Nat} {x : Rt} (hx : x ∈ holdR s f t.a t.b) (hne : x ≠ lastR (holdR s f t.a t.b)) : x.p.length < (lastR (holdR s f t.a t.b)).p.length := by
  have hp := rises h s f
  have hn : holdR s f t.a t.b ≠ [] := fun e => by rw [e] at hx; cases hx
  have hl : lastR (holdR s f t.a t.b) = (holdR s f t.a t.b).getLast hn := by unfold lastR; rw [List.getLastD_eq_getLast?, List.getLast?_eq_some_getLast hn]; rfl
  rw [hl] at hne ⊢
  rw [← List.dropLast_concat_getLast hn] at hp hx
  rcases List.mem_append.1 hx with k | k
  · exact (List.pairwise_append.1 hp).2.2 x k _ List.mem_cons_self
  · exact absurd (List.mem_singleton.1 k) hne
/-- the world in the loop -/
structure LoW (w : World) (AL C : List Value) (M : Nat) (R : Option Addr) (L : List Rt) (T : Tm) (q : Option Nat) (X : World) : Prop where
  a : Whole X w.heap.size 27 AL.toArray
  r : Whole X M 38 C.toArray
  l : RdQ X R L
  t : TrW X T q
  bel : Below w.heap.size w X
theorem LoW.below {w : World} {AL C : List Value} {M : Nat} {R : Option Addr} {L : List Rt} {T : Tm} {q : Option Nat} {X Y : World} (h : LoW w AL C M R L T q X) (hb : Below X.heap.size X Y) : LoW w AL C M R L T q Y :=
  ⟨h.a.below hb h.a.lt, h.r.below hb h.r.lt, h.l.below hb (Nat.le_refl _), h.t.below hb, h.bel.trans (hb.mono h.bel.size)⟩
set_option maxRecDepth 100000 in
set_option maxHeartbeats 8000000 in
theorem walk0 {w : World} {A : Option Addr} {n c : Nat} {Q : Nat → Opm} (h : IsOps w A n Q) (hn : n ≤ 9223372036854775807) (s : Bool) (f : Nat → Nat) (hf : ∀ i, f i < 256) :
    Calls Try.prog 4 #[.slice A n c, .agg (addrL s f).toArray] w fun e w' => e = .returned (.bool true) ∧ Below w.heap.size w w' := by
  have HPL := Lib.hid (fun (X : World) (hX : Below w.heap.size w X) => played_any (c := c) (h.below hX) hn)
  have hfit0 : (playT Q emT (min n 80)).Fit := play_fit em_fit fun i hi => h.ok i (by omega)
  obtain ⟨T, hT⟩ : ∃ T, playT Q emT (min n 80) = T := ⟨_, rfl⟩
  rw [hT] at HPL hfit0
  clear hT h
  have HF := Lib.hid hfit0
  have HFIND := Lib.hid (fun (X : World) (q : Option Nat) (h : TrW X T q) => find_any h hfit0.oka hfit0.okb s f hf)
  have HROU := Lib.hid (show ∀ (X : World) (q : Option Nat), TrW X T q → Calls Try.prog 17 #[ptrV q] X fun e w' => ∃ R, e = .returned (.slice R T.L.length T.L.length) ∧ RdR w' R (flatR T.L) ∧ Below X.heap.size X w' from fun (X : World) (q : Option Nat) (h : TrW X T q) => routes_any h (Nat.le_trans hfit0.len (by decide)))
  have HCNT := Lib.hid (show ∀ (X : World) (q : Option Nat), TrW X T q → Calls Try.prog 14 #[ptrV q] X fun e w' => e = .returned (.int .i64 (T.L.length : Nat)) ∧ Below X.heap.size X w' from fun (X : World) (q : Option Nat) (h : TrW X T q) => count_any h (Nat.le_trans hfit0.len (by decide)))
  have HHOLD := Lib.hid (fun (x : Rt) (h0 : (x.p.length : Int) ≤ digitsI x.s) X => holds_any x.s (byt x.p) (byt_lt x.p) (x.p.length : Int) (by omega) (by have := digits_le x.s; omega) s f hf X)
  have HFO := Lib.hid (found hfit0 s f)
  have HLI := Lib.hid (last_in hfit0 s f)
  have HHI := Lib.hid (fun (x : Rt) (hx : x ∈ T.L) (hh : holdsPB x.s (byt x.p) (x.p.length : Int) s f = true) => holds_in hfit0 hf hx (hfit0.own x hx).1 hh)
  have HIH := Lib.hid (fun (x : Rt) (hx : x ∈ holdR s f T.a T.b) => hold_in hfit0 hf hx)
  have HSH := Lib.hid (fun (x : Rt) (hx : x ∈ holdR s f T.a T.b) (hne : x ≠ lastR (holdR s f T.a T.b)) => shorter hfit0 hx hne)
  have HOW := Lib.hid (hfit0.own)
  have HLL := Lib.hid hfit0.len
  have HAL := Lib.hid (addrL_length s f)
  obtain ⟨AL, hAL⟩ : ∃ AL, addrL s f = AL := ⟨_, rfl⟩
  rw [hAL] at HFIND HHOLD HAL ⊢
  obtain ⟨H, hH⟩ : ∃ H, holdR s f T.a T.b = H := ⟨_, rfl⟩
  rw [hH] at HFIND HFO HLI HHI HIH HSH
  obtain ⟨r, hr⟩ : ∃ r, lastR H = r := ⟨_, rfl⟩
  rw [hr] at HFIND HFO HLI HSH
  obtain ⟨L, hL⟩ : ∃ L, T.L = L := ⟨_, rfl⟩
  rw [hL] at HROU HCNT HLI HHI HOW HLL
  obtain ⟨m, hm⟩ : ∃ m, L.length = m := ⟨_, rfl⟩
  rw [hm] at HROU HCNT HLL
  have HMM := Lib.hid hm
  obtain ⟨TH, hTH⟩ : ∃ TH, decide (r.o ≠ 0) = TH := ⟨_, rfl⟩
  rw [hTH] at HFIND
  have HTH := Lib.hid (show TH = true ↔ r.o ≠ 0 by rw [← hTH, decide_eq_true_eq])
  have hz := zero_route
  have HZS := Lib.hid (show (routeL false nought 0 0).toArray.size = 19 by rw [List.size_toArray, routeL_length])
  obtain ⟨Z, hZ⟩ : ∃ Z, (routeL false nought 0 0).toArray = Z := ⟨_, rfl⟩
  rw [hZ] at hz HZS
  have HRC := Lib.hid (show r.cells.length = 19 ∧ r.cells.toArray.all (·.oneCell') = true from ⟨r.len, by rw [List.all_toArray, List.all_eq_true]; exact r.each⟩)
  obtain ⟨C, hC⟩ : ∃ C, r.cells = C := ⟨_, rfl⟩
  have HCE := Lib.hid hC
  rw [hC] at HFIND HRC
  clear hAL hH hr hL hm hTH hZ hC hfit0
  go_enter Try.func4, Try.ntmps4
  go_upto_region 1 with fail
  refine cut_world (fun X => Whole X w.heap.size 27 AL.toArray ∧ Below w.heap.size w X) ⟨Whole.new _ _ _, below_alloc (Below.refl _ _) _⟩ ?_
  rintro X0 h0
  have HX0 := Lib.hid h0
  clear h0
  go_upto_region 2 with (go_at_call 19; refine (HPL.out _ HX0.out.2).mono ?_; rintro e X1 ⟨q, rfl, ht, hb⟩; have HX1 := Lib.hid (show Whole X1 w.heap.size 27 AL.toArray ∧ TrW X1 T q ∧ Below w.heap.size w X1 from ⟨HX0.out.1.below hb HX0.out.1.lt, ht, HX0.out.2.trans (hb.mono HX0.out.2.size)⟩); clear ht hb HPL HX0)
  go_upto_region 3 with (first
    | (refine wpList_load_row rfl 27 (.tmp 3) rfl w.heap.size rfl 27 AL.toArray (0, 0) _ HX1.out.1 rfl rfl (by rw [List.size_toArray, HAL.out]; kernel_rfl) ?_)
    | (go_at_call 10; refine (HFIND.out _ q HX1.out.2.1).mono ?_; rintro e X2 ⟨rfl, hb⟩; have HX2 := Lib.hid (show Whole X2 w.heap.size 27 AL.toArray ∧ TrW X2 T q ∧ Below w.heap.size w X2 from ⟨HX1.out.1.below hb HX1.out.1.lt, HX1.out.2.1.below hb, HX1.out.2.2.trans (hb.mono HX1.out.2.2.size)⟩); clear hb HX1)
    | (refine wpList_store_row rfl 38 (.tmp 6) (.tmp 17) rfl X2.heap.size C.toArray rfl rfl 38 Z (Whole.new _ _ _) (by rw [List.size_toArray, HRC.out.1]; kernel_rfl) (by rw [HZS.out, List.size_toArray, HRC.out.1]) HRC.out.2 ?_))
  refine cut_world (fun X => Whole X w.heap.size 27 AL.toArray ∧ Whole X X2.heap.size 38 C.toArray ∧ TrW X T q ∧ Below w.heap.size w X) ⟨HX2.out.1.below (below_var _ _ _ _) HX2.out.1.lt, setRow_heap _ _ _ _ _ _ (Whole.new _ _ _), HX2.out.2.1.below (below_var _ _ _ _), HX2.out.2.2.trans ((below_var _ _ _ _).mono HX2.out.2.2.size)⟩ ?_
  rintro X3 h3
  have HX3 := Lib.hid h3
  clear h3 HX2
  generalize X2.heap.size = M at HX3 ⊢
  go_wp2_with (go_at_call 17; refine (HROU.out _ q HX3.out.2.2.1).mono ?_; rintro e X4 ⟨R, rfl, hr4, hb⟩; have HX4 := Lib.hid (show LoW w AL C M R L T q X4 from ⟨HX3.out.1.below hb HX3.out.1.lt, HX3.out.2.1.below hb HX3.out.2.1.lt, rdQ_of hr4, HX3.out.2.2.1.below hb, HX3.out.2.2.2.trans (hb.mono HX3.out.2.2.2.size)⟩); clear hr4 hb HX3)
  go_loopw [9, 10] (fun t9 t10 X => ∃ (k : Nat) (sn : Bool), k ≤ m ∧ t10 = .int .i64 k ∧ t9 = .bool sn ∧ (sn = true ↔ r ∈ L.take k) ∧ LoW w AL C M R L T q X) (fun _ i _ => m - (intOf i).toNat)
  case atStart => exact ⟨0, false, Nat.zero_le _, rfl, rfl, ⟨(fun h => by cases h), (fun h => by cases h)⟩, HX4.out⟩
  case round =>
    have hm64 := HLL.out
    obtain ⟨k, sn, hk, rfl, rfl, hsn, hW⟩ := hrel
    have HW := Lib.hid hW
    have HSN := Lib.hid hsn
    clear hW hsn
    by_cases hlt : k < m
    · have hkL : k < L.length := by rw [HMM.out]; exact hlt
      have hx := List.getElem?_eq_getElem hkL
      have hts : L.take (k + 1) = L.take k ++ [L[k]] := List.take_succ_eq_append_getElem hkL
      have hxm : L[k] ∈ L := List.getElem_mem hkL
      generalize L[k] = x at hx hts hxm
      have hxo := HOW.out x hxm
      obtain ⟨g, rfl, hgl, hrg⟩ := HW.out.l.out k x hx
      have HRG := Lib.hid (fun V (hV : Below wr.heap.size wr V) => range_below hrg hV hgl)
      have HRP := Lib.hid (show ∀ V, Below wr.heap.size wr V → V.rangeAt g (k * 19) (prefL x.s (byt x.p) (x.p.length : Int)) ∧ V.cell? ⟨g, k * 19 + 17, none⟩ = some (.int .i64 (x.p.length : Int)) from fun V hV => ⟨fun j v hj => (range_below hrg hV hgl) j v (route_pre _ _ _ _ hj), (range_below hrg hV hgl) 17 _ (route_pre _ _ _ _ (pref_bits _ _ _))⟩)
      have HPX := Lib.hid (prefL_length x.s (byt x.p) (x.p.length : Int))
      have HXL := Lib.hid x.len
      have HH := Lib.hid (HHOLD.out x hxo.1)
      have HR17 := Lib.hid (show ∀ V, LoW w AL C M (some ⟨g, 0, none⟩) L T q V → V.cell? ⟨M, 17, none⟩ = some (.int .i64 (r.p.length : Int)) from fun V hV => by rw [hV.r.cell, List.getElem?_toArray, ← HCE.out]; exact route_pre _ _ _ _ (pref_bits _ _ _))
      obtain ⟨d, hd⟩ : ∃ d : Bool, d = true ↔ x = r := by
        by_cases e : x = r
        · exact ⟨true, fun _ => e, fun _ => rfl⟩
        · exact ⟨false, (fun c => by cases c), fun c => absurd c e⟩
      have HEQ := Lib.hid (fun w => eqin_route 9995 x r hxo.1 HFO.out.1 d hd w)
      rw [HCE.out] at HEQ
      have HD := Lib.hid hd
      have HTS := Lib.hid (show r ∈ L.take (k + 1) ↔ (r ∈ L.take k ∨ x = r) from by rw [hts, List.mem_append, List.mem_singleton]; exact ⟨fun h => h.imp id Eq.symm, fun h => h.imp id Eq.symm⟩)
      have HXM := Lib.hid hxm
      obtain ⟨PX, hPX⟩ : ∃ PX, prefL x.s (byt x.p) (x.p.length : Int) = PX := ⟨_, rfl⟩
      rw [hPX] at HRP HPX HH
      obtain ⟨U, hU⟩ : ∃ U, x.cells = U := ⟨_, rfl⟩
      rw [hU] at HEQ HXL HRG
      clear hPX hU hx hts hxm hxo hrg hd hkL hgl
      go_upto_region 8 with fail
      refine q_start (by kernel_rfl) (by kernel_rfl) ?_
      refine Ops.wq_in ?_
      refine Ops.wq_take _ (by rfl) (fun X hx => by go_simp; try with_reducible rfl) ?_
      try simp only [Act.put, List.setIfInBounds_toArray, List.set_cons_zero, List.set_cons_succ]
      refine Ops.wq_take _ (by rfl) (fun X hx => by go_simp; try with_reducible rfl) ?_
      try simp only [Act.put, List.setIfInBounds_toArray, List.set_cons_zero, List.set_cons_succ]
      refine Ops.wq_take _ (by rfl) (fun X hx => by go_simp; try with_reducible rfl) ?_
      try simp only [Act.put, List.setIfInBounds_toArray, List.set_cons_zero, List.set_cons_succ]
      refine Ops.wq_take (.agg U.toArray) (by rfl) (fun X hx => run_mid_in 38 (.tmp 29) rfl g (k * 19) (by go_simp) U _ (HRG.out _ hx) rfl rfl (by rw [HXL.out]; kernel_rfl)) ?_
      try simp only [Act.put, List.setIfInBounds_toArray, List.set_cons_zero, List.set_cons_succ]
      refine Ops.wq_take (.agg C.toArray) (by rfl) (fun X hx => run_load_in 38 (.tmp 6) rfl M rfl C.toArray 19 (by rw [List.size_toArray, HRC.out.1]) (HW.out.below hx).r rfl rfl (by kernel_rfl)) ?_
      try simp only [Act.put, List.setIfInBounds_toArray, List.set_cons_zero, List.set_cons_succ]
      refine Ops.wq_take (.bool d) (by rfl) (fun X hx => Ops.run_eql_op 38 (.tmp 30) (.tmp 31) 38 rfl U.toArray C.toArray rfl rfl d (by kernel_rfl) (fun w => HEQ.out w) X) ?_
      try simp only [Act.put, List.setIfInBounds_toArray, List.set_cons_zero, List.set_cons_succ]
      refine Ops.wq_end ?_
      intro X5 hb5
      have HX5 := Lib.hid (HW.out.below hb5)
      have HB5 := Lib.hid hb5
      clear hb5
      cases d with
      | true =>
        have he := HD.out.1 rfl
        have HNX := Lib.hid (show (true = true ↔ r ∈ L.take (k + 1)) from ⟨fun _ => HTS.out.2 (.inr he), fun _ => rfl⟩)
        clear he
        go_wp2_with fail
        go_round
        case rel => exact ⟨k + 1, true, by omega, by go_num, rfl, HNX.out, HX5.out⟩
        case measure => simp only [intOf]; omega
      | false =>
        have hne : x ≠ r := fun e => by have := HD.out.2 e; cases this
        have HNX := Lib.hid (show (sn = true ↔ r ∈ L.take (k + 1)) from by rw [HSN.out, HTS.out]; exact ⟨.inl, fun h => h.elim id fun e => absurd e hne⟩)
        have HNE := Lib.hid hne
        clear hne
        go_upto_region 10 with fail
        have h5 := HX5.out.below (Below.drew (Below.refl _ _))
        have HRP5 := Lib.hid (show ∀ V, LoW w AL C M (some ⟨g, 0, none⟩) L T q V ∧ Below wr.heap.size wr V → V.rangeAt g (k * 19) PX ∧ V.cell? ⟨g, k * 19 + 17, none⟩ = some (.int .i64 (x.p.length : Int)) from fun V hV => HRP.out V hV.2)
        obtain ⟨hb, hhb⟩ : ∃ hb, holdsPB x.s (byt x.p) (x.p.length : Int) s f = hb := ⟨_, rfl⟩
        rw [hhb] at HH
        have HHB := Lib.hid hhb
        clear hhb
        refine region_class (C := fun X => LoW w AL C M (some ⟨g, 0, none⟩) L T q X ∧ Below wr.heap.size wr X) (by kernel_rfl) (by kernel_rfl) ⟨h5, HB5.out.trans ((Below.drew (Below.refl _ _)).mono HB5.out.size)⟩ ?_
        refine Ops.wq_in ?_
        refine Ops.wq_take _ (by rfl) (fun X hx => by go_simp; try with_reducible rfl) ?_
        try simp only [Act.put, List.setIfInBounds_toArray, List.set_cons_zero, List.set_cons_succ]
        refine Ops.wq_take _ (by rfl) (fun X hx => by go_simp; try with_reducible rfl) ?_
        try simp only [Act.put, List.setIfInBounds_toArray, List.set_cons_zero, List.set_cons_succ]
        refine Ops.wq_take _ (by rfl) (fun X hx => by go_simp; try with_reducible rfl) ?_
        try simp only [Act.put, List.setIfInBounds_toArray, List.set_cons_zero, List.set_cons_succ]
        refine Ops.wq_take _ (by rfl) (fun X hx => by go_simp; try with_reducible rfl) ?_
        try simp only [Act.put, List.setIfInBounds_toArray, List.set_cons_zero, List.set_cons_succ]
        refine Ops.wq_take (.agg PX.toArray) (by rfl) (fun X hx => run_mid_in 29 (.tmp 36) rfl g (k * 19) (by go_simp) PX _ (HRP5.out _ hx).1 rfl rfl (by rw [HPX.out]; kernel_rfl)) ?_
        try simp only [Act.put, List.setIfInBounds_toArray, List.set_cons_zero, List.set_cons_succ]
        refine Ops.wq_take (.agg AL.toArray) (by rfl) (fun X hx => run_load_in 27 (.tmp 3) rfl w.heap.size rfl AL.toArray 17 (by rw [List.size_toArray, HAL.out]) hx.1.a rfl rfl (by kernel_rfl)) ?_
        try simp only [Act.put, List.setIfInBounds_toArray, List.set_cons_zero, List.set_cons_succ]
        refine wq_call (.bool hb) 20 #[.agg PX.toArray, .agg AL.toArray] (by rfl) (by intro w; go_simp; try with_reducible rfl) (fun X hx => (HH.out X).mono (fun e w' k => ⟨k.1, hx.1.below k.2, hx.2.trans (k.2.mono hx.2.size)⟩)) ?_
        try simp only [Act.put, List.setIfInBounds_toArray, List.set_cons_zero, List.set_cons_succ]
        cases hb with
        | false =>
          refine Ops.wq_take _ (by rfl) (fun X hx => by go_simp; try with_reducible rfl) ?_
          try simp only [Act.put, List.setIfInBounds_toArray, List.set_cons_zero, List.set_cons_succ]
          refine Ops.wq_pass (by rfl) ?_
          try simp only [Act.put, List.setIfInBounds_toArray, List.set_cons_zero, List.set_cons_succ]
          refine Ops.wq_pass (by rfl) ?_
          try simp only [Act.put, List.setIfInBounds_toArray, List.set_cons_zero, List.set_cons_succ]
          refine Ops.wq_pass (by rfl) ?_
          try simp only [Act.put, List.setIfInBounds_toArray, List.set_cons_zero, List.set_cons_succ]
          refine Ops.wq_pass (by rfl) ?_
          try simp only [Act.put, List.setIfInBounds_toArray, List.set_cons_zero, List.set_cons_succ]
          refine Ops.wq_pass (by rfl) ?_
          try simp only [Act.put, List.setIfInBounds_toArray, List.set_cons_zero, List.set_cons_succ]
          refine Ops.wq_pass (by rfl) ?_
          try simp only [Act.put, List.setIfInBounds_toArray, List.set_cons_zero, List.set_cons_succ]
          refine Ops.wq_pass (by rfl) ?_
          try simp only [Act.put, List.setIfInBounds_toArray, List.set_cons_zero, List.set_cons_succ]
          refine Ops.wq_pass (by rfl) ?_
          try simp only [Act.put, List.setIfInBounds_toArray, List.set_cons_zero, List.set_cons_succ]
          refine Ops.wq_pass (by rfl) ?_
          try simp only [Act.put, List.setIfInBounds_toArray, List.set_cons_zero, List.set_cons_succ]
          refine Ops.wq_pass (by rfl) ?_
          try simp only [Act.put, List.setIfInBounds_toArray, List.set_cons_zero, List.set_cons_succ]
          refine Ops.wq_pass (by rfl) ?_
          try simp only [Act.put, List.setIfInBounds_toArray, List.set_cons_zero, List.set_cons_succ]
          refine Ops.wq_pass (by rfl) ?_
          try simp only [Act.put, List.setIfInBounds_toArray, List.set_cons_zero, List.set_cons_succ]
          refine Ops.wq_pass (by rfl) ?_
          try simp only [Act.put, List.setIfInBounds_toArray, List.set_cons_zero, List.set_cons_succ]
          refine Ops.wq_pass (by rfl) ?_
          try simp only [Act.put, List.setIfInBounds_toArray, List.set_cons_zero, List.set_cons_succ]
          refine Ops.wq_take _ (by rfl) (fun X hx => by go_simp; try with_reducible rfl) ?_
          try simp only [Act.put, List.setIfInBounds_toArray, List.set_cons_zero, List.set_cons_succ]
          refine Ops.wq_end ?_
          intro X6 h6
          have HX6 := Lib.hid h6.1
          clear h6 h5
          go_wp2_with fail
          go_round
          case rel => exact ⟨k + 1, sn, by omega, by go_num, rfl, HNX.out, HX6.out⟩
          case measure => simp only [intOf]; omega
        | true =>
          have hxh := HHI.out x HXM.out HHB.out
          have hlt2 := HSH.out x hxh HNE.out
          have hth : TH = true := by
            rw [HTH.out]
            rcases HFO.out.2 with ⟨h1, _⟩ | ⟨_, h2⟩
            · exact h1
            · rw [h2] at hxh; cases hxh
          subst hth
          have hge : decide ((r.p.length : Int) ≤ (x.p.length : Int)) = false := decide_eq_false (by omega)
          clear hxh
          refine Ops.wq_take _ (by rfl) (fun X hx => by go_simp; try with_reducible rfl) ?_
          try simp only [Act.put, List.setIfInBounds_toArray, List.set_cons_zero, List.set_cons_succ]
          refine Ops.wq_take _ (by rfl) (fun X hx => by go_simp; try with_reducible rfl) ?_
          try simp only [Act.put, List.setIfInBounds_toArray, List.set_cons_zero, List.set_cons_succ]
          refine Ops.wq_take _ (by rfl) (fun X hx => by go_simp; try with_reducible rfl) ?_
          try simp only [Act.put, List.setIfInBounds_toArray, List.set_cons_zero, List.set_cons_succ]
          refine Ops.wq_take _ (by rfl) (fun X hx => by go_simp; try with_reducible rfl) ?_
          try simp only [Act.put, List.setIfInBounds_toArray, List.set_cons_zero, List.set_cons_succ]
          refine Ops.wq_take _ (by rfl) (fun X hx => by go_simp; try with_reducible rfl) ?_
          try simp only [Act.put, List.setIfInBounds_toArray, List.set_cons_zero, List.set_cons_succ]
          refine Ops.wq_take _ (by rfl) (fun X hx => by go_simp; try with_reducible rfl) ?_
          try simp only [Act.put, List.setIfInBounds_toArray, List.set_cons_zero, List.set_cons_succ]
          refine Ops.wq_take _ (by rfl) (fun X hx => by go_simp; try with_reducible rfl) ?_
          try simp only [Act.put, List.setIfInBounds_toArray, List.set_cons_zero, List.set_cons_succ]
          refine Ops.wq_take _ (by rfl) (fun X hx => by go_simp; try with_reducible rfl) ?_
          try simp only [Act.put, List.setIfInBounds_toArray, List.set_cons_zero, List.set_cons_succ]
          refine Ops.wq_take _ (by rfl) (fun X hx => by go_simp; try with_reducible rfl) ?_
          try simp only [Act.put, List.setIfInBounds_toArray, List.set_cons_zero, List.set_cons_succ]
          refine Ops.wq_take _ (by rfl) (fun X hx => by have cl := (HRP5.out X hx).2; go_simp; try with_reducible rfl) ?_
          try simp only [Act.put, List.setIfInBounds_toArray, List.set_cons_zero, List.set_cons_succ]
          refine Ops.wq_take _ (by rfl) (fun X hx => by go_simp; try with_reducible rfl) ?_
          try simp only [Act.put, List.setIfInBounds_toArray, List.set_cons_zero, List.set_cons_succ]
          refine Ops.wq_take _ (by rfl) (fun X hx => by go_simp; try with_reducible rfl) ?_
          try simp only [Act.put, List.setIfInBounds_toArray, List.set_cons_zero, List.set_cons_succ]
          refine Ops.wq_take _ (by rfl) (fun X hx => by have cl := HR17.out X hx.1; go_simp; try with_reducible rfl) ?_
          try simp only [Act.put, List.setIfInBounds_toArray, List.set_cons_zero, List.set_cons_succ]
          refine Ops.wq_take (.bool false) (by rfl) (fun X hx => by go_simp; try with_reducible rfl) ?_
          try simp only [Act.put, List.setIfInBounds_toArray, List.set_cons_zero, List.set_cons_succ]
          refine Ops.wq_take _ (by rfl) (fun X hx => by go_simp; try with_reducible rfl) ?_
          try simp only [Act.put, List.setIfInBounds_toArray, List.set_cons_zero, List.set_cons_succ]
          refine Ops.wq_take _ (by rfl) (fun X hx => by go_simp; try with_reducible rfl) ?_
          try simp only [Act.put, List.setIfInBounds_toArray, List.set_cons_zero, List.set_cons_succ]
          refine Ops.wq_end ?_
          intro X6 h6
          have HX6 := Lib.hid h6.1
          clear h6 h5 hge hlt2
          go_wp2_with fail
          go_round
          case rel => exact ⟨k + 1, sn, by omega, by go_num, rfl, HNX.out, HX6.out⟩
          case measure => simp only [intOf]; omega
    · obtain rfl : k = m := by omega
      have hall : L.take k = L := List.take_of_length_le (Nat.le_of_eq HMM.out)
      have hst : sn = TH := by
        rw [Bool.eq_iff_iff, HSN.out, hall, HTH.out]
        exact HLI.out
      subst hst
      clear hall
      have HMX := Lib.hid (show ∀ V, LoW w AL C M R L T q V → V.rangeAt M 0 (prefL r.s (byt r.p) (r.p.length : Int)) ∧ V.cell? ⟨M, 18, none⟩ = some (.int .i64 r.o) from fun V hV => ⟨fun j v hj => by rw [Nat.zero_add, hV.r.cell, List.getElem?_toArray, ← HCE.out]; exact route_pre _ _ _ _ hj, by rw [hV.r.cell, List.getElem?_toArray, ← HCE.out]; exact r.own⟩)
      have HPR := Lib.hid (prefL_length r.s (byt r.p) (r.p.length : Int))
      have HHR := Lib.hid (HHOLD.out r HFO.out.1)
      obtain ⟨PR, hPR⟩ : ∃ PR, prefL r.s (byt r.p) (r.p.length : Int) = PR := ⟨_, rfl⟩
      rw [hPR] at HMX HPR HHR
      clear hPR
      go_upto_region 12 with fail
      go_wp2_with fail
      refine (alive_any _).mono ?_
      rintro e Y1 ⟨rfl, hb1⟩
      have HY1 := Lib.hid (HW.out.below hb1)
      clear hb1 HW
      have hee : (sn == sn) = true := by simp
      cases sn with
      | false =>
        go_wp2_with fail
        refine (HCNT.out _ q HY1.out.t).mono ?_
        rintro e Y2 ⟨rfl, hb2⟩
        have HBE := Lib.hid (HY1.out.below hb2).bel
        have hmm : (((k : Nat) : Int) == ((k : Nat) : Int)) = true := by simp
        clear hb2 HY1
        go_wp2_with fail
        go_ret
        exact ⟨rfl, HBE.out⟩
      | true =>
        have hro : r.o ≠ 0 ∧ r ∈ H ∧ 1 ≤ r.o := by
          rcases HFO.out.2 with h1 | ⟨h1, _⟩
          · exact h1
          · exact absurd h1 (HTH.out.1 rfl)
        have hhr := HIH.out r hro.2.1
        rw [hhr] at HHR
        have hpos : 0 < r.o := by omega
        have c18 := (HMX.out _ HY1.out).2
        clear hhr hro
        go_wp2_with (first
          | (refine Ops.wpList_value_if (by rfl) (.agg PR.toArray) (run_mid_in 29 (.tmp 66) rfl M 0 rfl PR _ (HMX.out _ HY1.out).1 rfl rfl (by rw [HPR.out]; kernel_rfl)) ?_)
          | (refine Ops.wpList_value_if (by rfl) (.agg AL.toArray) (run_load_in 27 (.tmp 3) rfl w.heap.size rfl AL.toArray 17 (by rw [List.size_toArray, HAL.out]) HY1.out.a rfl rfl (by kernel_rfl)) ?_))
        refine (HHR.out _).mono ?_
        rintro e Y2 ⟨rfl, hb2⟩
        have HY2 := Lib.hid (HY1.out.below hb2)
        clear hb2 HY1 c18
        have c18 := (HMX.out _ HY2.out).2
        go_wp2_with fail
        refine (HCNT.out _ q HY2.out.t).mono ?_
        rintro e Y3 ⟨rfl, hb3⟩
        have HBE := Lib.hid (HY2.out.below hb3).bel
        have hmm : (((k : Nat) : Int) == ((k : Nat) : Int)) = true := by simp
        clear hb3 HY2
        go_wp2_with fail
        go_ret
        exact ⟨rfl, HBE.out⟩
theorem walk (A : Option Addr) (n c : Nat) (s : Bool) (f : Nat → Nat) (w : World) (h : Shp.Good w (.list (.obj shO)) [.slice A n c]) (hf : ∀ i, f i < 256) : Calls Try.prog 4 #[.slice A n c, .agg (addrL s f).toArray] w fun e w' => e = .returned (.bool true) ∧ Below w.heap.size w w' := by
  obtain ⟨hn, Q, hQ⟩ := open_ops h
  exact walk0 hQ hn s f hf
end TrieLongest
end Go.Proofs.Ytobfpbmgipgdcaa
