/- Package feed: Take; Push. -/
import Derived.Test.YtlbfjdpcnnplnaaFdTake
namespace Go.Proofs.Ytlbfjdpcnnplnaa
namespace Fee
open Go.ChangeShapes Go.WideShapes Go.ChangeAt Go.RowKit Go.Maps
open Num Mem Words Chacha Aead Poly Quiet RowV RowS

theorem FM.put {w w' : World} {F : Nat → Prop} {g b last : Nat} {S : St} {m : Nat → Option Nat} (h : FM w F g b S last m) {o r : Nat} (hm : m o = some r) (hg : w.grownBy w' (some r)) {y : Wt} (hy : WtW w' r y) (hok : OkWt y) : FM w' F g b (putS S o y) last m := by
  obtain ⟨x0, hx0, hr0⟩ := h.mr hm
  obtain ⟨v0, hv0, _⟩ := hr0
  have hk : ∀ i t cs, Whole w i t cs → i ≠ r → Whole w' i t cs := fun i t cs hw ne => (hg.block i hw.lt (fun e => ne (by injection e with e))).trans hw
  have hki : ∀ i t cs, Whole w i t cs → t ≠ 74 → Whole w' i t cs := fun i t cs hw ht => hk i t cs hw (fun e => ht (whole_type (e ▸ hw) hv0))
  refine ⟨hki _ _ _ h.obj (by decide), fun id x hx => ?_, fun id r e => by rw [ids_put]; exact h.dom id r e, h.inj, by rw [ids_put]; exact h.srt, by rw [ids_put]; exact h.low, fun p hp => ?_, h.fg, h.fb, h.fr⟩
  · by_cases c : id = o
    · subst c
      rw [at_put_same (h.dom id r hm)] at hx
      injection hx with hx
      subst hx
      exact ⟨r, hm, hy⟩
    · rw [at_put_other c] at hx
      obtain ⟨r2, e, hr⟩ := h.row id x hx
      exact ⟨r2, e, hr.keep (fun cs hw => hk _ _ _ hw (fun e2 => c (h.inj id o r (e2 ▸ e) hm))) (fun i cs hw => hki _ _ _ hw (by decide))⟩
  · obtain ⟨j, z⟩ := p
    rcases mem_put hp with ⟨_, rfl⟩ | ⟨_, hp⟩
    · exact hok
    · exact h.ok _ hp
theorem size_putS (S : St) (o : Nat) (y : Wt) : (putS S o y).length = S.length := List.length_map _

set_option maxRecDepth 100000 in
theorem take_no {p : Value} {w : World} (h : No w p) (o : Nat) (n : Int) : Calls Try.prog 17 #[p, .int .u64 (o : Nat), .int .i64 n] w fun e w' => e = .returned (.tuple #[.slice none 0 0, .int .i64 6]) ∧ w = w' := by
  have HN := Lib.hid (none_no h)
  clear h
  go_enter Try.func17, Try.ntmps17
  go_wp2_with fail
  refine HN.out.mono ?_
  rintro e w1 ⟨rfl, rfl⟩
  go_wp2_with fail
  go_ret2
  exact ⟨rfl, rfl⟩
set_option maxRecDepth 100000 in
theorem take_out {w : World} {F : Nat → Prop} {g last : Nat} {S : St} (h : FW w F g S last) (o : Nat) (hk : okU o) (n : Int) (hn : o ∉ ids S) : Calls Try.prog 17 #[.pointer (some ⟨g, 0, none⟩), .int .u64 (o : Nat), .int .i64 n] w fun e w' => e = .returned (.tuple #[.slice none 0 0, .int .i64 4]) ∧ w = w' := by
  obtain ⟨b, D, m, h1, h2, h3, h4⟩ := h
  have HN := Lib.hid (none_some g b _ w h1.obj)
  have HF := Lib.hid (find_any h1 h2 h4 o hk)
  rw [lk_none h1 hn] at HF
  clear h1 h2 h3 h4 hk hn
  go_enter Try.func17, Try.ntmps17
  go_wp2_with fail
  refine HN.out.mono ?_
  rintro e w1 ⟨rfl, rfl⟩
  go_wp2_with fail
  refine HF.out.mono ?_
  rintro e w1 ⟨rfl, rfl⟩
  simp only [ptrV]
  go_wp2_with fail
  go_ret2
  exact ⟨rfl, rfl⟩
set_option maxRecDepth 100000 in
theorem take_in {w : World} {F : Nat → Prop} {g last : Nat} {S : St} (h : FW w F g S last) (o : Nat) (hk : okU o) (n : Int) {x : Wt} (hx : at_ S o = some x) : Calls Try.prog 17 #[.pointer (some ⟨g, 0, none⟩), .int .u64 (o : Nat), .int .i64 n] w fun e w' => ∃ z, e = .returned (.tuple #[z, .int .i64 0]) ∧ Its w' z (takeL x n) ∧ FW w' F g (putS S o (takeW x n)) last ∧ Fk F w w' := by
  obtain ⟨b, D, m, h1, h2, h3, h4⟩ := h
  have HN := Lib.hid (none_some g b _ w h1.obj)
  have HF := Lib.hid (find_any h1 h2 h4 o hk)
  obtain ⟨r, hm, hr⟩ := h1.row o x hx
  rw [hm] at HF
  have HT := Lib.hid (wtake_any r x n w hr (h1.ok _ (at_mem hx)).few)
  have H := Lib.hid (show FM w F g b S last m ∧ PAg D m ∧ Maps.size D = S.length ∧ w.ownsMap Try.prog 23 ptrR b last D ∧ at_ S o = some x ∧ m o = some r from ⟨h1, h2, h3, h4, hx, hm⟩)
  clear h1 h2 h3 h4 hk hx hr hm
  go_enter Try.func17, Try.ntmps17
  go_wp2_with fail
  refine HN.out.mono ?_
  rintro e w1 ⟨rfl, rfl⟩
  go_wp2_with fail
  refine HF.out.mono ?_
  rintro e w1 ⟨rfl, rfl⟩
  simp only [ptrV]
  go_wp2_with fail
  refine HT.out.mono ?_
  rintro e w2 ⟨z, rfl, hz, hwt, hg⟩
  have HE := Lib.hid (show Its w2 z (takeL x n) ∧ FW w2 F g (putS S o (takeW x n)) last ∧ Fk F w w2 from by
    obtain ⟨h1, h2, h3, h4, hx, hm⟩ := H.out
    obtain ⟨x0, hx0, v0, hv0, _⟩ := h1.mr hm
    exact ⟨hz, ⟨b, D, m, h1.put hm hg hwt (ok_take (h1.ok _ (at_mem hx)) n), h2, by rw [size_putS]; exact h3, h4.kept hg (fun e => owns_row h4 hv0 (Option.some.inj e).symm)⟩, Fk.grown hg hv0 (h1.fr _ _ hm) (by decide)⟩)
  clear hz hwt hg
  go_wp2_with fail
  go_ret2
  exact ⟨_, rfl, HE.out⟩

/-! ### Push -/
set_option maxRecDepth 100000 in
theorem push_no {p : Value} {w : World} (h : No w p) (v : Value) : Calls Try.prog 14 #[p, v] w fun e w' => e = .returned (.tuple #[]) ∧ w = w' := by
  have HN := Lib.hid (none_no h)
  clear h
  go_enter Try.func14, Try.ntmps14
  go_wp2_with fail
  refine HN.out.mono ?_
  rintro e w1 ⟨rfl, rfl⟩
  go_wp2_with fail
  refine bodyPost_ret (results_none (by rfl) _ _ _) rfl ?_
  exact ⟨rfl, rfl⟩

/-- a slice of events reads as a list -/
def RdE (w : World) (A : Option Addr) (l : List Ev) : Prop := l = [] ∨ ∃ b off, A = some ⟨b, off, none⟩ ∧ b < w.heap.size ∧ ∀ i e, l[i]? = some e → w.rangeAt b (off + i * 34) (evL e)
theorem RdE.fk {w w' : World} {A : Option Addr} {l : List Ev} {F : Nat → Prop} (h : RdE w A l) (hk : Fk F w w') (ha : ∀ b off, A = some ⟨b, off, none⟩ → ¬ F b) : RdE w' A l := by
  refine h.imp id fun ⟨b, off, e, hl, hc⟩ => ⟨b, off, e, Nat.lt_of_lt_of_le hl hk.size, fun i x hx j v hv => ?_⟩
  have h0 := hc i x hx j v hv
  have : w'.cell? ⟨b, off + i * 34 + j, none⟩ = w.cell? ⟨b, off + i * 34 + j, none⟩ := by
    unfold World.cell?
    rw [hk.block b hl (ha b off e)]
  exact this.trans h0
theorem zero_ev (w : World) : (zeroValue 45).run Try.prog w = .ok (.agg (evL noEv).toArray) w := by kernel_rfl
/-- the round's world: what has been pushed to one watcher -/
structure InW (w : World) (F : Nat → Prop) (g b : Nat) (S : St) (last : Nat) (m : Nat → Option Nat) (r : Nat) (D : DataW Unit) (left : Lit → Bool) (cnt : Nat) (id : Nat) (x : Wt) (l : List Ev) (k : Nat) (X : World) : Prop where
  fm : FM X F g b (putS S id (pushAll x (l.take k))) last m
  rg : X.ranges Try.prog 23 ptrR b r last D left cnt
  fk : Fk F w X
/-- what a feed has when some watchers are left -/
def halfS (S : St) (l : List Ev) (left : Lit → Bool) : St := S.map (fun p => (p.1, if left (keyO p.1) = true then p.2 else pushAll p.2 l))
structure OutW (w : World) (F : Nat → Prop) (g b : Nat) (S : St) (last : Nat) (m : Nat → Option Nat) (r : Nat) (D : DataW Unit) (l : List Ev) (left : Lit → Bool) (cnt : Nat) (X : World) : Prop where
  fm : FM X F g b (halfS S l left) last m
  rg : X.ranges Try.prog 23 ptrR b r last D left cnt
  fk : Fk F w X
  has : ∀ o, left (keyO o) = true → (m o).isSome = true
theorem half_start (S : St) (l : List Ev) {D : DataW Unit} {m : Nat → Option Nat} (ha : PAg D m) (hm : ∀ id ∈ ids S, (m id).isSome = true) : halfS S l (Maps.has D) = S := by
  unfold halfS
  refine (List.map_congr_left fun p hp => ?_).trans (List.map_id S)
  rw [ha.hs, hm p.1 (List.mem_map_of_mem hp), if_pos rfl]
  rfl
theorem half_end (S : St) (l : List Ev) {left : Lit → Bool} (h : ∀ k, left k = false) : halfS S l left = pushS S l := by
  unfold halfS pushS
  refine List.map_congr_left fun p _ => ?_
  rw [h, if_neg (by simp)]
theorem ids_half (S : St) (l : List Ev) (left : Lit → Bool) : ids (halfS S l left) = ids S := by
  unfold ids halfS
  rw [List.map_map]
  rfl
theorem at_half (S : St) (l : List Ev) (left : Lit → Bool) (id : Nat) : at_ (halfS S l left) id = (at_ S id).map (fun x => if left (keyO id) = true then x else pushAll x l) := by
  induction S with
  | nil => rfl
  | cons p S ih =>
    show at_ ((p.1, if left (keyO p.1) = true then p.2 else pushAll p.2 l) :: halfS S l left) id = _
    rw [at_cons, at_cons, ih]
    by_cases c : p.1 = id
    · rw [if_pos c, if_pos c, ← c]
      rfl
    · rw [if_neg c, if_neg c]
theorem half_step {S : St} {l : List Ev} {left : Lit → Bool} {id : Nat} {x : Wt} (hn : (ids S).Nodup) (hx : at_ S id = some x) : putS (halfS S l left) id (pushAll x l) = halfS S l (fun z => left z && !z.sameKey (keyO id)) := by
  unfold putS halfS
  rw [List.map_map]
  refine List.map_congr_left fun p hp => ?_
  show (if p.1 = id then (p.1, pushAll x l) else (p.1, if left (keyO p.1) = true then p.2 else pushAll p.2 l)) = _
  by_cases c : p.1 = id
  · have e := at_of_mem hn (show (p.1, p.2) ∈ S from hp)
    rw [c, hx] at e
    injection e with e
    have hs : (keyO id).sameKey (keyO id) = true := by simp [keyO, Lit.sameKey]
    have hb : ¬ (left (keyO id) && !(keyO id).sameKey (keyO id)) = true := by rw [hs]; simp
    rw [if_pos c, c]
    dsimp only
    rw [if_neg hb, e]
  · have hb : (left (keyO p.1) && !(keyO p.1).sameKey (keyO id)) = left (keyO p.1) := by rw [sameKey_ne (keyO_ne c)]; simp
    rw [if_neg c]
    simp only [hb]
theorem put_id {S : St} {id : Nat} {x : Wt} (hn : (ids S).Nodup) (hx : at_ S id = some x) : putS S id x = S := by
  unfold putS
  refine (List.map_congr_left fun p hp => ?_).trans (List.map_id S)
  by_cases c : p.1 = id
  · have e := at_of_mem hn (show (p.1, p.2) ∈ S from hp)
    rw [c, hx] at e
    injection e with e
    rw [if_pos c, e]
    rfl
  · rw [if_neg c]
    rfl
theorem put_put (S : St) (id : Nat) (x y : Wt) : putS (putS S id x) id y = putS S id y := by
  unfold putS
  rw [List.map_map]
  refine List.map_congr_left fun p _ => ?_
  show (if (if p.1 = id then (p.1, x) else p).1 = id then ((if p.1 = id then (p.1, x) else p).1, y) else (if p.1 = id then (p.1, x) else p)) = _
  by_cases c : p.1 = id
  · simp [c]
  · simp [c]
theorem ok_pushAll : ∀ (l : List Ev) {x : Wt}, OkWt x → (∀ e ∈ l, OkEv e) → x.lost + l.length ≤ 1000000000 → OkWt (pushAll x l)
  | [], _, h, _, _ => h
  | e :: l, x, h, he, hl => ok_pushAll l (ok_push h (he e List.mem_cons_self) (by omega)) (fun d hd => he d (List.mem_cons_of_mem _ hd)) (by have := pushW_lost x e; rw [List.length_cons] at hl; omega)
theorem rg_ne {X : World} {b r n : Nat} {D : DataW Unit} {left : Lit → Bool} {cnt j : Nat} {t : TypeId} {cs : Array Value} (h : X.ranges Try.prog 23 ptrR b r n D left cnt) (hw : Whole X j t cs) : j ≠ r ∧ j ≠ b := by
  refine ⟨?_, owns_row h.owns hw⟩
  rintro rfl
  obtain ⟨es, clock, since, seen, c0, _, _, _, _, hb, _⟩ := h
  unfold Whole at hw
  rw [hw] at hb
  cases hb
theorem rg_below {X Y : World} {b r n : Nat} {D : DataW Unit} {left : Lit → Bool} {cnt : Nat} (h : X.ranges Try.prog 23 ptrR b r n D left cnt) (hb : Below X.heap.size X Y) : Y.ranges Try.prog 23 ptrR b r n D left cnt := h.kept (row := none) ⟨hb.os, hb.tape, hb.output, hb.size, fun i hi _ => hb.block i hi⟩ (by simp) (by simp)
theorem InW.below {w : World} {F : Nat → Prop} {g b : Nat} {S : St} {last : Nat} {m : Nat → Option Nat} {r : Nat} {D : DataW Unit} {left : Lit → Bool} {cnt : Nat} {id : Nat} {x : Wt} {l : List Ev} {k : Nat} {X Y : World} (h : InW w F g b S last m r D left cnt id x l k X) (hb : Below X.heap.size X Y) : InW w F g b S last m r D left cnt id x l k Y :=
  ⟨h.fm.below hb, rg_below h.rg hb, h.fk.trans (Fk.of_below (F := F) hb) (fun _ _ h => h)⟩
theorem InW.step {w : World} {F : Nat → Prop} {g b : Nat} {S : St} {last : Nat} {m : Nat → Option Nat} {r : Nat} {D : DataW Unit} {left : Lit → Bool} {cnt : Nat} {id : Nat} {x : Wt} {l : List Ev} {k : Nat} {X Y : World} (h : InW w F g b S last m r D left cnt id x l k X) {rr : Nat} (hm : m id = some rr) {e : Ev} (he : l[k]? = some e)
    (hg : X.grownBy Y (some rr)) (hy : WtW Y rr (pushW (pushAll x (l.take k)) e)) (hok : OkWt (pushAll x (l.take (k + 1)))) : InW w F g b S last m r D left cnt id x l (k + 1) Y := by
  have e1 : pushW (pushAll x (l.take k)) e = pushAll x (l.take (k + 1)) := by
    rw [← pushAll_snoc, List.take_add_one, he]
    rfl
  rw [e1] at hy
  obtain ⟨x0, _, v0, hv0, _⟩ := h.fm.mr hm
  have hne := rg_ne h.rg hv0
  refine ⟨?_, h.rg.kept hg (fun e => hne.2 (Option.some.inj e).symm) (fun e => hne.1 (Option.some.inj e).symm), h.fk.trans (Fk.grown hg hv0 (h.fm.fr _ _ hm) (by decide)) (fun _ _ h => h)⟩
  have := h.fm.put hm hg hy hok
  rw [put_put] at this
  exact this
set_option maxRecDepth 100000 in
set_option maxHeartbeats 2000000 in
theorem push_any {w : World} {F : Nat → Prop} {g last : Nat} {S : St} (h : FW w F g S last) (A : Option Addr) (c : Nat) (l : List Ev) (hA : RdE w A l) (hAF : ∀ b off, A = some ⟨b, off, none⟩ → ¬ F b) (hFw : ∀ i, F i → i < w.heap.size)
    (hok : ∀ e ∈ l, OkEv e) (hl : ∀ p ∈ S, p.2.lost + l.length ≤ 1000000000) (hll : l.length ≤ 1000000000) :
    Calls Try.prog 14 #[.pointer (some ⟨g, 0, none⟩), .slice A l.length c] w fun e w' => e = .returned (.tuple #[]) ∧ FW w' F g (pushS S l) last ∧ Fk F w w' := by
  obtain ⟨b, D, m, h1, h2, h3, h4⟩ := h
  have HN := Lib.hid (none_some g b _ w h1.obj)
  have c0 : w.cell? ⟨g, 0, none⟩ = some (.map (some b)) := h1.obj.cell 0
  have H := Lib.hid (show FM w F g b S last m ∧ PAg D m ∧ Maps.size D = S.length ∧ w.ownsMap Try.prog 23 ptrR b last D from ⟨h1, h2, h3, h4⟩)
  have HL := Lib.hid (show RdE w A l ∧ (∀ b off, A = some ⟨b, off, none⟩ → ¬ F b) ∧ (∀ i, F i → i < w.heap.size) ∧ (∀ e ∈ l, OkEv e) ∧ (∀ p ∈ S, p.2.lost + l.length ≤ 1000000000) from ⟨hA, hAF, hFw, hok, hl⟩)
  obtain ⟨n, hn⟩ : ∃ n, l.length = n := ⟨_, rfl⟩
  have HNL := Lib.hid hn
  rw [hn] at hll ⊢
  clear h1 h2 h3 h4 hA hAF hFw hok hl hn
  go_enter Try.func14, Try.ntmps14
  go_wp2_with fail
  refine HN.out.mono ?_
  rintro e w1 ⟨rfl, rfl⟩
  go_wp2_with (at_range; refine wpList_range_own _ rfl _ 61 rfl 23 72 keyedU Try.underlying61 _ b last D rfl H.out.2.2.2 ?_; intro w0 hrg0 hg0 hs0)
  go_frame
  have H0 := Lib.hid (show OutW w F g b S last m w.heap.size D l (Maps.has D) (Maps.size D) w0 from by
    have hb0 : Below w.heap.size w w0 := ⟨hg0.os, hg0.tape, hg0.output, hg0.size, fun i hi => hg0.block i hi (by simp)⟩
    refine ⟨?_, hrg0, Fk.of_below hb0, fun o ho => by rw [← H.out.2.1.hs]; exact ho⟩
    rw [half_start S l H.out.2.1 (fun id hid => by obtain ⟨x, hx⟩ := at_some_of hid; obtain ⟨r, e, _⟩ := H.out.1.row id x hx; rw [e]; rfl)]
    exact H.out.1.below hb0)
  obtain ⟨r, hr⟩ : ∃ r, w.heap.size = r := ⟨_, rfl⟩
  rw [hr] at H0 ⊢
  have HR := Lib.hid hr
  clear hrg0 hg0 hs0 c0 hr
  go_loopw [5, 7] (fun _ _ wr => ∃ left cnt, OutW w F g b S last m r D l left cnt wr) (fun _ _ wr => wr.rangeLeft b r)
  case atStart => exact ⟨_, _, H0.out⟩
  case round =>
    obtain ⟨left, cnt, hW⟩ := hrel
    have HW := Lib.hid hW
    clear hW H0
    go_wp2_with (at_next; refine wpList_next_ranges _ rfl _ rfl 23 keyedU ptrR (fun x : Int => .int .u64 x) ptrV (fun key kl h => by obtain ⟨x, e, _⟩ := Maps.keyOf_int_inv Try.underlying23 h; exact ⟨x, e⟩) (fun v y h => by obtain ⟨q, e, _⟩ := ptrR_inv h; exact ⟨q, e⟩) b r last D left cnt rfl HW.out.rg ?_ ?_)
    · intro _ hl0
      have HE := Lib.hid (show FW wr F g (pushS S l) last ∧ Fk F w wr from by
        have hfm := HW.out.fm
        rw [half_end S l hl0] at hfm
        exact ⟨⟨b, D, m, hfm, H.out.2.1, by rw [show (pushS S l).length = S.length from List.length_map _]; exact H.out.2.2.1, HW.out.rg.owns⟩, HW.out.fk⟩)
      clear hl0 HW H HL HN
      go_wp2_with fail
      go_end0
      exact ⟨rfl, HE.out⟩
    · intro x0 q kl yd yp wr1 cnt1 hkey hlk hy hat hrg1 hlt hg1 hs1 hen
      obtain ⟨x', ex, rfl, hwx⟩ := Maps.keyOf_int_inv Try.underlying23 hkey
      injection ex with _ ex
      subst ex
      obtain ⟨id, rfl, hid⟩ := nat_u64 hwx
      have hs := HW.out.has id hlk
      obtain ⟨rr, hm⟩ := Option.isSome_iff_exists.1 hs
      have hq : q = some rr := by
        have h1 := hat (ptrD none)
        have h2 := H.out.2.1.at_ id
        unfold keyO at h2
        rw [h2, hm] at h1
        rw [ptrR_mk] at hy
        injection hy with hy
        injection hy with hy
        rw [← hy] at h1
        exact (ptrD_inj h1).symm
      subst hq
      obtain ⟨x, hx, _⟩ := H.out.1.mr hm
      have hxh : at_ (halfS S l left) id = some x := by rw [at_half, hx, Option.map_some, if_pos (show left (keyO id) = true from hlk)]
      have hndh : (ids (halfS S l left)).Nodup := by rw [ids_half]; exact H.out.1.nd
      have H1 := Lib.hid (show InW w F g b (halfS S l left) last m r D (fun z => left z && !z.sameKey (keyO id)) cnt1 id x l 0 wr1 from by
        have hk0 : Fk F w wr1 := ⟨hg1.os.trans HW.out.fk.os, hg1.tape.trans HW.out.fk.tape, hg1.output.trans HW.out.fk.output, Nat.le_trans HW.out.fk.size hg1.size, fun i hi hf => (hg1.block i (Nat.lt_of_lt_of_le hi HW.out.fk.size) (fun e => by
          injection e with e
          have := HR.out
          omega)).trans (HW.out.fk.block i hi hf), fun i cs hw => (hg1.block i (HW.out.fk.items i cs hw).lt (fun e => (rg_ne HW.out.rg (HW.out.fk.items i cs hw)).1 (by injection e with e))).trans (HW.out.fk.items i cs hw)⟩
        refine ⟨?_, hrg1, hk0⟩
        show FM wr1 F g b (putS (halfS S l left) id x) last m
        rw [put_id hndh hxh]
        have hkeep : ∀ i t cs, Whole wr i t cs → Whole wr1 i t cs := fun i t cs hw => (hg1.block i hw.lt (fun e => (rg_ne HW.out.rg hw).1 (by injection e with e))).trans hw
        exact HW.out.fm.keep (hkeep _ _) (fun _ _ _ _ => hkeep _ _ _) (fun _ => hkeep _ _))
      have HX := Lib.hid (show OkWt x ∧ x.lost + l.length ≤ 1000000000 ∧ at_ (halfS S l left) id = some x ∧ (ids (halfS S l left)).Nodup ∧ m id = some rr from ⟨H.out.1.ok _ (at_mem hx), HL.out.2.2.2.2 _ (at_mem hx), hxh, hndh, hm⟩)
      have HXS := Lib.hid hx
      have HLT := Lib.hid hlt
      have HFB := Lib.hid (show ∀ b off, A = some ⟨b, off, none⟩ → ¬ F b from HL.out.2.1)
      clear hkey hlk hy hat hrg1 hlt hg1 hs1 hx hxh hndh hm hs
      simp only [ptrV] at hen ⊢
      go_wp2_with fail
      go_loopw [7, 21] (fun _ i X => ∃ k : Nat, k ≤ n ∧ i = .int .i64 k ∧ InW w F g b (halfS S l left) last m r D (fun z => left z && !z.sameKey (keyO id)) cnt1 id x l k X) (fun _ i _ => n - (intOf i).toNat)
      case atStart => exact ⟨0, Nat.zero_le _, rfl, H1.out⟩
      case round =>
        obtain ⟨k, hk, rfl, hI⟩ := hrel
        have HI := Lib.hid hI
        clear hI H1
        by_cases hlt2 : k < n
        · obtain ⟨e, he⟩ : ∃ e, l[k]? = some e := ⟨_, List.getElem?_eq_getElem (by rw [HNL.out]; exact hlt2)⟩
          have hrd := HL.out.1.fk HI.out.fk HFB.out
          rcases hrd with h0 | ⟨b2, off, rfl, hlt3, hrange⟩
          · have := HNL.out
            rw [h0] at this
            simp at this
            omega
          have HRG := Lib.hid (hrange k e he)
          have HEK := Lib.hid he
          have HES := Lib.hid (show (evL e).toArray.size = 34 by rw [List.size_toArray, evL_length])
          have HEL := Lib.hid (evL_length e)
          have HEO := Lib.hid (evL_one e)
          obtain ⟨E, hE⟩ : ∃ E, evL e = E := ⟨_, rfl⟩
          have HE := Lib.hid hE
          rw [hE] at HRG HES HEL HEO
          have hz := zero_ev
          obtain ⟨Z, hZ⟩ : ∃ Z, (evL noEv).toArray = Z := ⟨_, rfl⟩
          have HZS := Lib.hid (show Z.size = 34 by rw [← hZ, List.size_toArray, evL_length])
          rw [hZ] at hz
          clear hrange he hE hZ hlt3
          go_upto_region 7 with (first | (refine wpList_load_mid rfl 45 (.tmp 23) rfl b2 (off + k * 34) rfl E _ HRG.out rfl rfl (by rw [HEL.out]; kernel_rfl) ?_) | (refine wpList_store_row rfl 45 (.tmp 7) (.tmp 24) rfl wr.heap.size E.toArray rfl rfl 45 _ (Whole.new _ _ _) (by rw [HES.out]; kernel_rfl) (by rw [HZS.out, HES.out]) HEO.out ?_))
          try simp only [Act.put]
          refine cut_world (fun X => InW w F g b (halfS S l left) last m r D (fun z => left z && !z.sameKey (keyO id)) cnt1 id x l k X ∧ Whole X wr.heap.size 45 E.toArray) ⟨HI.out.below (below_setRow (below_alloc (Below.refl _ _) _) (Nat.le_refl _) _), setRow_heap _ _ _ _ _ _ (Whole.new _ _ _)⟩ ?_
          rintro X ⟨hX, hXE⟩
          have HX2 := Lib.hid hX
          have HXE := Lib.hid hXE
          generalize wr.heap.size = N at HXE hXE ⊢
          clear hX hXE HI hz HRG HZS
          go_wp2_with (first | (refine wpList_load_row rfl 45 (.tmp 7) rfl N rfl 45 E.toArray (0, 0) _ HXE.out rfl rfl (by rw [HES.out]; kernel_rfl) ?_) | (go_at_call 29; fail))
          obtain ⟨hox, hlx, hxh, hnd, hm⟩ := HX.out
          have hxi : id ∈ ids (halfS S l left) := by
            rcases Decidable.em (id ∈ ids (halfS S l left)) with c | c
            · exact c
            · rw [at_none_iff.2 c] at hxh; cases hxh
          obtain ⟨r2, hm2, hwt⟩ := HX2.out.fm.row id _ (at_put_same hxi)
          rw [hm] at hm2
          injection hm2 with hm2
          subst hm2
          have htl : (l.take k).length ≤ l.length := by rw [List.length_take]; omega
          have htl2 : (l.take (k + 1)).length ≤ l.length := by rw [List.length_take]; omega
          have hlo := pushAll_lost (l.take k) x
          have hPW := wpush_any rr (pushAll x (l.take k)) e X hwt (pushAll_few _ hox.few) (by omega)
          rw [HE.out] at hPW
          refine hPW.mono ?_
          rintro o Y ⟨rfl, hwY, hgY⟩
          have HY := Lib.hid (HX2.out.step hm HEK.out hgY hwY (ok_pushAll _ hox (fun d hd => HL.out.2.2.2.1 d (List.mem_of_mem_take hd)) (by omega)))
          clear hox hlx hxh hnd hm hxi hwt htl htl2 hlo hPW hwY hgY HX2
          go_wp2_with fail
          go_roundw
          case rel => exact ⟨k + 1, by omega, by go_num, HY.out⟩
          case measure => simp [intOf]; omega
        · obtain rfl : k = n := by omega
          have HO := Lib.hid (show OutW w F g b S last m r D l (fun z => left z && !z.sameKey (keyO id)) cnt1 wr from by
            obtain ⟨hox, hlx, hxh, hnd, hm⟩ := HX.out
            have hfm := HI.out.fm
            rw [List.take_of_length_le (by rw [HNL.out]; exact Nat.le_refl _), half_step H.out.1.nd HXS.out] at hfm
            exact ⟨hfm, HI.out.rg, HI.out.fk, fun o ho => HW.out.has o (by simp only [Bool.and_eq_true] at ho; exact ho.1)⟩)
          clear HI
          go_wp2_with fail
          go_round
          case rel => exact ⟨_, _, HO.out⟩
          case measure => rw [HO.out.rg.left_eq, HW.out.rg.left_eq]; exact HLT.out
end Fee
end Go.Proofs.Ytlbfjdpcnnplnaa
