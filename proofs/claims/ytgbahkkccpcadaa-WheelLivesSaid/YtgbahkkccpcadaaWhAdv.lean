/- Package wheel: Advance. -/
import Derived.Test.YtgbahkkccpcadaaWhNext
namespace Go.Proofs.Ytgbahkkccpcadaa
namespace Wh
open Go.ChangeShapes Go.WideShapes Go.ChangeAt Go.RowKit Go.Maps
open Num Mem Words Chacha Aead Poly Quiet RowV RowS Ops EqLits Stamp

set_option maxRecDepth 100000 in
theorem advance_bad {w : World} {F : Nat → Prop} {g : Nat} {now : Int} {T : List Tm} (h : WW w F g now T) (t : Int) (hbad : ¬ right t ∨ t < now) :
    Calls Try.prog 16 #[.pointer (some ⟨g, 0, none⟩), .int .i64 t] w fun e w' => e = .returned (.tuple #[.slice none 0 0, .int .i64 1]) ∧ w = w' := by
  obtain ⟨b, s, D, cs, h1, h2⟩ := h
  have HN := Lib.hid (none_some g s _ _ w h1.obj)
  have c0 : w.cell? ⟨g, 0, none⟩ = some (.int .i64 now) := h1.obj.cell 0
  have HSP := Lib.hid (show Calls Try.prog 29 #[.int .i64 now, .int .i64 t] w fun e w' => e = .returned (.tuple #[.int .i64 (spanV now t), .int .i64 1]) ∧ w = w' from (span_any now t w).mono (by
    rintro e w' ⟨rfl, rfl⟩
    unfold spanE
    rw [if_neg (by rintro ⟨_, h2, h3⟩; rcases hbad with h | h; exact h h2; omega)]
    exact ⟨rfl, rfl⟩))
  generalize spanV now t = v at HSP
  clear h1 h2 hbad
  go_enter Try.func16, Try.ntmps16
  go_wp2_with fail
  refine HN.out.mono ?_
  rintro e w1 ⟨rfl, rfl⟩
  go_wp2_with fail
  refine HSP.out.mono ?_
  rintro e w1 ⟨rfl, rfl⟩
  go_wp2_with fail
  go_ret2
  exact ⟨rfl, rfl⟩

def lenV : Value → Nat
  | .slice _ n _ => n
  | _ => 0
theorem WW.setNow {X : World} {F : Nat → Prop} {g : Nat} {now t : Int} {R : List Tm} (h : WW X F g now R) (h0 : 0 ≤ t) (h1 : t ≤ 1099511627776) (hR : ∀ x ∈ R, t ≤ x.t) : WW (X.setCell ⟨g, 0, none⟩ (.int .i64 t)) F g t R ∧ Fk F X (X.setCell ⟨g, 0, none⟩ (.int .i64 t)) := by
  obtain ⟨b, s, D, cs, hm, hs⟩ := h
  have hg : X.grownBy (X.setCell ⟨g, 0, none⟩ (.int .i64 t)) (some g) := ⟨rfl, rfl, rfl, by simp, fun i hi hne => Below.heap_setCell X ⟨g, 0, none⟩ _ i (fun e => hne (by rw [e]))⟩
  have hfar : ∀ j t' c, j ≠ g → Whole X j t' c → Whole (X.setCell ⟨g, 0, none⟩ (.int .i64 t)) j t' c := fun j t' c hj hw => hw.far hj _
  have hsg : s ≠ g := by rintro rfl; exact absurd (whole_type hm.obj hm.slots) (by decide)
  refine ⟨⟨b, s, D, cs, { hm with obj := ?_, slots := hfar _ _ _ hsg hm.slots, row := fun q hq => ?_, good := ?_ }, (still_k b).keep X _ D (some g) hs hg (fun j e => ⟨_, _, (Option.some.inj e) ▸ hm.obj⟩)⟩, Fk.grown hg (fun j e => by injection e with e; rw [← e]; exact hm.fg)⟩
  · exact hm.obj.put 0 (.int .i64 t)
  · obtain ⟨A, c, h1, h2⟩ := hm.row q hq
    exact ⟨A, c, h1, row_keep h2 fun j cs' _ hw => hfar _ _ _ (by rintro rfl; exact absurd (whole_type hw hm.obj) (by decide)) hw⟩
  · exact ⟨hm.good.srt, hm.good.unq, h0, h1, fun x hx => by have := hm.good.ok x hx; have := hR x hx; omega, hm.good.room⟩
theorem below_var (w : World) (zs cs : Array Value) (t : TypeId) : Below w.heap.size w ((w.alloc (.cells zs t)).setRow w.heap.size cs) := below_setRow (below_alloc (Below.refl _ _) _) (Nat.le_refl _) _
/-- the world in the loop -/
structure AdW (w : World) (F : Nat → Prop) (g : Nat) (now t : Int) (T E R : List Tm) (A : Option Addr) (c k : Nat) (X : World) : Prop where
  ww : WW X F g now R
  row : X.ownsRow w.heap.size 38 3 (.slice A E.length c) E.length (flatT E)
  var : Whole X k 38 (frL R.head?).toArray
  off : (Value.slice A E.length c).ownBlock ≠ some k
  kB : w.heap.size ≤ k
  fk : Fk F w X
  all : T = E ++ R
  le : ∀ x ∈ E, x.t ≤ t
  nil : E = [] → A = none ∧ c = 0
theorem rem_head {x : Tm} {R : List Tm} (hu : Unq (x :: R)) (hs : Srt (x :: R)) : rem x.o x.k (x :: R) = R := by
  rw [rem_eq hu List.mem_cons_self, List.filter_cons_of_neg (by simp), List.filter_eq_self.2]
  intro y hy
  have := (List.pairwise_cons.1 hs).1 y hy
  have hne : y ≠ x := fun e => by rw [e, lt_irr] at this; cases this
  simp [hne]
theorem own_fk {w w' : World} {F : Nat → Prop} {B : Nat} {e size : Nat} {v : Value} {n : Nat} {xs : List Value} (h : w.ownsRow B e size v n xs) (hk : Fk F w w') (hB : ∀ i, B ≤ i → ¬ F i) : w'.ownsRow B e size v n xs := by
  refine ⟨h.1, ?_⟩
  rcases h.2 with h0 | ⟨c, cap, cur, hv, hb, hh, rest⟩
  · exact Or.inl h0
  · have hw : Whole w c e cur := hh
    exact Or.inr ⟨c, cap, cur, hv, hb, (hk.block c hw.lt (hB c hb)).trans hh, rest⟩
theorem own_lt' {w : World} {B : Nat} {e size n : Nat} {v : Value} {xs : List Value} (h : w.ownsRow B e size v n xs) : ∀ g, v.ownBlock = some g → B ≤ g ∧ g < w.heap.size := by
  intro g hg
  rcases h.2 with ⟨rfl, _⟩ | ⟨b, cap, cur, rfl, hB, hh, _⟩
  · cases hg
  · injection hg with hg
    subst hg
    have hw : Whole w b e cur := hh
    exact ⟨hB, hw.lt⟩
theorem own_off {w : World} {B g : Nat} {e size n : Nat} {v : Value} {xs : List Value} (h : w.ownsRow B e size v n xs) (hg : v.ownBlock ≠ some g) (cs : Array Value) : (w.setRow g cs).ownsRow B e size v n xs := by
  refine ⟨h.1, ?_⟩
  rcases h.2 with k | ⟨b, cap, cur, hv, hb, hh, r⟩
  · exact .inl k
  · refine .inr ⟨b, cap, cur, hv, hb, (setRow_other _ _ _ _ (fun e => ?_)).trans hh, r⟩
    rw [hv] at hg
    exact hg (by rw [← e]; rfl)
theorem WW.grown {w w' : World} {F : Nat → Prop} {g : Nat} {now : Int} {T : List Tm} (h : WW w F g now T) {row : Option Nat} (hg : w.grownBy w' row) (hr : ∀ j, row = some j → ¬ F j ∧ ∃ t cs, Whole w j t cs) : WW w' F g now T := by
  obtain ⟨b, s, D, cs, h1, h2⟩ := h
  refine ⟨b, s, D, cs, h1.keep fun j t c hj hw => (hg.block j hw.lt (fun e => (hr j e.symm).1 ?_)).trans hw, (still_k b).keep w w' D row h2 hg (fun j e => (hr j e).2)⟩
  rcases hj with rfl | rfl | ⟨q, hq⟩
  · exact h1.fg
  · exact h1.fs
  · exact h1.fr q j hq
/-- Clear of the first one -/
theorem clear_head {w : World} {F : Nat → Prop} {g : Nat} {now : Int} {x : Tm} {R : List Tm} (h : WW w F g now (x :: R)) :
    Calls Try.prog 18 #[.pointer (some ⟨g, 0, none⟩), .int .i64 x.o, .int .i64 x.k] w fun e w' => e = .returned (.bool true) ∧ Fk F w w' ∧ WW w' F g now R := by
  obtain ⟨b, s, D, cs, h1, h2⟩ := h
  have hx : x ∈ x :: R := List.mem_cons_self
  refine (clear_gen (still_k b) h1 h2 x.o x.k (h1.good.io hx) (h1.good.ik hx)).mono ?_
  rintro e w' (⟨hf, _⟩ | ⟨y, hf, rfl, hk, cs', hw, hs⟩)
  · exact absurd ⟨rfl, rfl⟩ (find_none hf x hx)
  · rw [rem_head h1.good.unq h1.good.srt] at hw
    exact ⟨rfl, hk, b, s, _, cs', hw, hs⟩

set_option maxRecDepth 100000 in
set_option maxHeartbeats 4000000 in
theorem advance_any {w : World} {F : Nat → Prop} {g : Nat} {now : Int} {T : List Tm} (h : WW w F g now T) (hFw : ∀ i, F i → i < w.heap.size) (t : Int) (ht : right t) (htn : now ≤ t) :
    Calls Try.prog 16 #[.pointer (some ⟨g, 0, none⟩), .int .i64 t] w fun e w' => ∃ (E R : List Tm) (A : Option Addr) (c : Nat), e = .returned (.tuple #[.slice A E.length c, .int .i64 0]) ∧
      T = E ++ R ∧ (∀ x ∈ E, x.t ≤ t) ∧ (∀ x ∈ R, t < x.t) ∧ w'.ownsRow w.heap.size 38 3 (.slice A E.length c) E.length (flatT E) ∧ WW w' F g t R ∧ Fk F w w' ∧ (E = [] → A = none ∧ c = 0) := by
  have hrn : right now := ⟨h.good.nn, h.good.nm⟩
  have H := Lib.hid h
  have HFW := Lib.hid hFw
  have hT64 := h.good.room
  obtain ⟨b, s, D, cs, h1, h2⟩ := h
  have HN := Lib.hid (none_some g s _ _ w h1.obj)
  have c0 : w.cell? ⟨g, 0, none⟩ = some (.int .i64 now) := h1.obj.cell 0
  have HSP := Lib.hid (show Calls Try.prog 29 #[.int .i64 now, .int .i64 t] w fun e w' => e = .returned (.tuple #[.int .i64 (spanV now t), .int .i64 0]) ∧ w = w' from (span_any now t w).mono (by
    rintro e w' ⟨rfl, rfl⟩
    unfold spanE
    rw [if_pos ⟨hrn, ht, htn⟩]
    exact ⟨rfl, rfl⟩))
  generalize spanV now t = v at HSP
  have HT := Lib.hid (show 0 ≤ t ∧ t ≤ 1099511627776 ∧ now ≤ t from ⟨ht.1, ht.2, htn⟩)
  have HX := Lib.hid (next_any H.out)
  obtain ⟨Z, hZ⟩ : ∃ Z, (frL T.head?).toArray = Z := ⟨_, rfl⟩
  obtain ⟨sm, hsm⟩ : ∃ sm, T.head?.isSome = sm := ⟨_, rfl⟩
  have HZS := Lib.hid (show Z.size = 3 from by rw [← hZ, List.size_toArray, frL_length])
  have HZO := Lib.hid (show Z.all (·.oneCell') = true from by rw [← hZ]; exact frL_one _)
  rw [hZ, hsm] at HX
  have HZ := Lib.hid hZ
  have HSM := Lib.hid hsm
  clear h1 h2 ht htn hrn hZ hsm hFw
  go_enter Try.func16, Try.ntmps16
  go_wp2_with fail
  refine HN.out.mono ?_
  rintro e w1 ⟨rfl, rfl⟩
  go_wp2_with fail
  refine HSP.out.mono ?_
  rintro e w1 ⟨rfl, rfl⟩
  go_wp2_with fail
  refine HX.out.mono ?_
  rintro e w1 ⟨rfl, hb1⟩
  have HB1 := Lib.hid hb1
  clear hb1 HX
  go_wp2_with (refine wpList_store_row rfl 38 (.tmp 9) (.tmp 28) rfl w1.heap.size Z rfl rfl 38 _ (Whole.new _ _ _) (by rw [HZS.out]; kernel_rfl) (by rw [HZS.out]; rfl) HZO.out ?_)
  go_loopw [8, 9, 10] (fun out p s X => ∃ E R A c k, out = .slice A (E : List Tm).length c ∧ p = .pointer (some ⟨k, 0, none⟩) ∧ s = .bool (R : List Tm).head?.isSome ∧ AdW w F g now t T E R A c k X) (fun out _ _ _ => T.length - lenV out)
  case atStart =>
    have hb := below_setRow (below_trans HB1.out (below_alloc (Below.refl w1.heap.size w1) (.cells #[Value.int .i64 0, .int .i64 0, .int .i64 0] 38))) HB1.out.size Z
    exact ⟨[], T, none, 0, w1.heap.size, rfl, rfl, by rw [HSM.out], ⟨H.out.below hb, ⟨rfl, .inl ⟨rfl, rfl⟩⟩, HZ.out ▸ setRow_heap _ _ _ _ _ _ (Whole.new _ _ _), by simp [Value.ownBlock], HB1.out.size, Fk.of_below hb, rfl, (by intro x hx; cases hx), fun _ => ⟨rfl, rfl⟩⟩⟩
  case round =>
    obtain ⟨E, R, A, c, k, rfl, rfl, rfl, hW⟩ := hrel
    have HW := Lib.hid hW
    clear hW H HB1
    have hgw : wr.cell? ⟨g, 0, none⟩ = some (.int .i64 now) ∧ wr.frozen? ⟨g, 0, none⟩ = false := by
      obtain ⟨b, s, D, cs, hm, _⟩ := HW.out.ww
      exact ⟨hm.obj.cell 0, hm.obj.free 0⟩
    rcases R with _ | ⟨x, R⟩
    · obtain ⟨cg, fg⟩ := hgw
      go_wp2_with fail
      go_ret2
      have hs := HW.out.ww.setNow HT.out.1 HT.out.2.1 (by intro x hx; cases hx)
      exact ⟨E, [], A, c, rfl, HW.out.all, HW.out.le, (by intro x hx; cases hx), own_fk HW.out.row hs.2 (fun i hi hf => by have := HFW.out i hf; omega), hs.1, HW.out.fk.trans hs.2 (fun _ _ h => h), HW.out.nil⟩
    · have HV := Lib.hid (show Whole wr k 38 (tmL x).toArray from HW.out.var)
      have ck : wr.cell? ⟨k, 2, none⟩ = some (.int .i64 x.t) := HV.out.cell 2
      by_cases hle : x.t ≤ t
      · have d1 : decide (x.t ≤ t) = true := decide_eq_true hle
        have ck0 : wr.cell? ⟨k, 0, none⟩ = some (.int .i64 x.o) := HV.out.cell 0
        have ck1 : wr.cell? ⟨k, 1, none⟩ = some (.int .i64 x.k) := HV.out.cell 1
        have HCL := Lib.hid (clear_head HW.out.ww)
        have hkF : ¬ F k := fun hf => by have := HFW.out k hf; have := HW.out.kB; omega
        go_wp2_with fail
        refine HCL.out.mono ?_
        rintro e w1 ⟨rfl, hk1, hw1⟩
        have HK1 := Lib.hid hk1
        have HW1 := Lib.hid hw1
        have HV1 := Lib.hid (show Whole w1 k 38 #[.int .i64 x.o, .int .i64 x.k, .int .i64 x.t] from hk1.whole HV.out hkF)
        obtain ⟨n, hn⟩ : ∃ n, E.length = n := ⟨_, rfl⟩
        have hEl : E.length < T.length := by rw [HW.out.all, List.length_append, List.length_cons]; omega
        have hnl : n ≤ 100 := by omega
        have HN := Lib.hid hn
        have HRO := Lib.hid (show w1.ownsRow w.heap.size 38 3 (.slice A n c) n (flatT E) from hn ▸ own_fk HW.out.row hk1 (fun i hi hf => by have := HFW.out i hf; omega))
        have HOF := Lib.hid (show (Value.slice A n c).ownBlock ≠ some k from hn ▸ HW.out.off)
        have hsz : w.heap.size ≤ w1.heap.size := Nat.le_trans HW.out.fk.size hk1.size
        have HSZ := Lib.hid hsz
        rw [hn]
        clear hk1 hw1 hn HCL HV ck ck0 ck1 hgw
        go_upto_region 12 with (first | (refine wpList_load_row rfl 38 (.tmp 9) rfl k rfl 38 #[.int .i64 x.o, .int .i64 x.k, .int .i64 x.t] (0, 0) _ HV1.out rfl rfl (by kernel_rfl) ?_) | (at_builtin; refine wpList_pushG2 (tmL x) 3 rfl _ _ 45 38 (.agg zeroT.toArray) 24 Try.underlying45 infoT rfl (by omega) rfl rfl rfl HRO.out HSZ.out rfl (tm_each x) (by omega) (by omega) ?_; intro A' c' w2 hown hbel hgr hoff))
        have hrow : ∀ j, (Value.slice A n c).ownBlock = some j → ¬ F j ∧ ∃ t cs, Whole w1 j t cs := fun j e => by
          obtain ⟨h1, h2⟩ := own_lt' HRO.out j e
          refine ⟨fun hf => by have := HFW.out j hf; omega, ?_⟩
          rcases HRO.out.2 with ⟨h0, _⟩ | ⟨g', cap, cur, hv, hB, hh, _⟩
          · rw [h0] at e; cases e
          · rw [hv] at e
            injection e with e
            have e : g' = j := e
            subst e
            exact ⟨_, _, hh⟩
        have HX := Lib.hid (show WW w2 F g now R ∧ w2.ownsRow w.heap.size 38 3 (.slice A' (n + 1) c') (n + 1) (flatT (E ++ [x])) ∧ Fk F w w2 from by
          refine ⟨HW1.out.grown hgr hrow, ?_, ?_⟩
          · rw [flatT_append, flatT_one]; exact hown
          · have h1 := HW.out.fk.trans HK1.out (fun _ _ h => h)
            exact ⟨hgr.os.trans h1.os, hgr.tape.trans h1.tape, hgr.output.trans h1.output, Nat.le_trans h1.size hgr.size, fun i hi hf => (hgr.block i (Nat.lt_of_lt_of_le hi h1.size) (fun e => by have := own_lt' HRO.out i e.symm; omega)).trans (h1.block i hi hf)⟩)
        have HV2 := Lib.hid (show Whole w2 k 38 #[.int .i64 x.o, .int .i64 x.k, .int .i64 x.t] from (hgr.block k HV1.out.lt (fun e => HOF.out e.symm)).trans HV1.out)
        clear hown hbel hgr hoff hrow
        go_upto_region 9 with (first | (refine wpList_load_row rfl 38 (.tmp 9) rfl k rfl 38 #[.int .i64 x.o, .int .i64 x.k, .int .i64 x.t] (0, 0) _ HV2.out rfl rfl (by kernel_rfl) ?_) | (refine wpList_store_row rfl 38 (.tmp 9) (.tmp 52) rfl w2.heap.size #[.int .i64 x.o, .int .i64 x.k, .int .i64 x.t] rfl rfl 38 _ (Whole.new _ _ _) (by kernel_rfl) rfl (tm_one x) ?_))
        have hoff2 : (Value.slice A' (n + 1) c').ownBlock ≠ some w2.heap.size := fun e => by
          have := (own_lt' HX.out.2.1 _ e).2
          omega
        refine cut_world (fun X => WW X F g now R ∧ X.ownsRow w.heap.size 38 3 (.slice A' (n + 1) c') (n + 1) (flatT (E ++ [x])) ∧ Fk F w X ∧ ∃ cs : Array Value, cs.size = 3 ∧ Whole X w2.heap.size 38 cs) (by
          have hb := below_var w2 #[.int .i64 0, .int .i64 0, .int .i64 0] #[.int .i64 x.o, .int .i64 x.k, .int .i64 x.t] 38
          exact ⟨HX.out.1.below hb, own_keep HX.out.2.1 hb, HX.out.2.2.trans (Fk.of_below (F := F) hb) (fun _ _ h => h), _, rfl, setRow_heap _ _ _ _ _ _ (Whole.new _ _ _)⟩) ?_
        have hk2w : w.heap.size ≤ w2.heap.size := HX.out.2.2.size
        have HALL := Lib.hid (show T = (E ++ [x]) ++ R from by rw [HW.out.all]; simp)
        have HLE := Lib.hid (show ∀ y ∈ E ++ [x], y.t ≤ t from fun y hy => by
          rcases List.mem_append.1 hy with hy | hy
          · exact HW.out.le y hy
          · rw [List.mem_singleton.1 hy]; exact hle)
        have HOF2 := Lib.hid hoff2
        obtain ⟨k2, hk2⟩ : ∃ k2, w2.heap.size = k2 := ⟨_, rfl⟩
        rw [hk2] at HOF2 hk2w ⊢
        obtain ⟨E2, hE2⟩ : ∃ E2, E ++ [x] = E2 := ⟨_, rfl⟩
        have HE2 := Lib.hid (show E2.length = n + 1 from by rw [← hE2, List.length_append, HN.out]; rfl)
        rw [hE2] at HALL HLE ⊢
        clear hoff2 hk2 hE2 HX HV2 HRO HOF HW HV1 HW1 HK1
        intro X hX
        obtain ⟨hww, hro, hfk, cs, hcs, hv⟩ := hX
        have HWX := Lib.hid hww
        have HRO := Lib.hid hro
        have HYK := Lib.hid hfk
        have HVX := Lib.hid hv
        have HC := Lib.hid (next_any hww)
        clear hww hro hfk hv
        obtain ⟨Z2, hZ2⟩ : ∃ Z2, (frL R.head?).toArray = Z2 := ⟨_, rfl⟩
        have HZS2 := Lib.hid (show Z2.size = 3 from by rw [← hZ2, List.size_toArray, frL_length])
        have HZO2 := Lib.hid (show Z2.all (·.oneCell') = true from by rw [← hZ2]; exact frL_one _)
        rw [hZ2] at HC
        have HZ2 := Lib.hid hZ2
        clear hZ2
        go_wp2_with fail
        refine HC.out.mono ?_
        rintro e w3 ⟨rfl, hb3⟩
        have HB3 := Lib.hid hb3
        have HV3 := Lib.hid (HVX.out.below hb3 HVX.out.lt)
        have HCS := Lib.hid hcs
        clear hb3 HC hcs
        go_wp2_with (refine wpList_store_row rfl 38 (.tmp 9) (.tmp 40) rfl k2 Z2 rfl rfl 38 _ HV3.out (by rw [HZS2.out]; kernel_rfl) (by rw [HZS2.out]; exact HCS.out) HZO2.out ?_)
        go_round
        case rel =>
          have hg := grown_setRow w3 k2 Z2
          have hkF2 : ¬ F k2 := fun hf => by have := HFW.out k2 hf; omega
          have hfk3 : Fk F w w3 := HYK.out.trans (Fk.of_below (F := F) HB3.out) (fun _ _ h => h)
          refine ⟨E2, R, A', c', k2, by rw [HE2.out], rfl, rfl, ⟨(HWX.out.below HB3.out).grown hg (fun j e => by injection e with e; subst e; exact ⟨hkF2, _, _, HV3.out⟩), ?_, HZ2.out ▸ setRow_heap _ _ _ _ _ _ HV3.out, ?_, hk2w, ?_, HALL.out, HLE.out, fun e => by rw [e] at HE2; have := HE2.out; simp at this⟩⟩
          · rw [HE2.out]; exact own_off (own_keep HRO.out HB3.out) HOF2.out _
          · rw [HE2.out]; exact HOF2.out
          · exact ⟨hfk3.os, hfk3.tape, hfk3.output, Nat.le_trans hfk3.size hg.size, fun i hi hf => (hg.block i (Nat.lt_of_lt_of_le hi hfk3.size) (fun e => by injection e with e; omega)).trans (hfk3.block i hi hf)⟩
        case measure => show T.length - (n + 1) < T.length - E.length; have := HN.out; omega
      · have d1 : decide (x.t ≤ t) = false := decide_eq_false hle
        obtain ⟨cg, fg⟩ := hgw
        go_wp2_with fail
        go_ret2
        have hR : ∀ y ∈ x :: R, t < y.t := fun y hy => by have := t_le (head_min HW.out.ww.good.srt rfl y hy); omega
        have hs := HW.out.ww.setNow HT.out.1 HT.out.2.1 (fun y hy => Int.le_of_lt (hR y hy))
        exact ⟨E, x :: R, A, c, rfl, HW.out.all, HW.out.le, hR, own_fk HW.out.row hs.2 (fun i hi hf => by have := HFW.out i hf; omega), hs.1, HW.out.fk.trans hs.2 (fun _ _ h => h), HW.out.nil⟩
end Wh
end Go.Proofs.Ytgbahkkccpcadaa
