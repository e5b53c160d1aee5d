/- Package wheel: a wheel in memory. -/
import Derived.Test.YtgbahkkccpcadaaWhIns2
import Derived.Test.YtgbahkkccpcadaaSpan
import Derived.Test.YtgbahkkccpcadaaEqLits
import Derived.DeepKeys5
import Derived.Maps.RangeWalk
import Derived.Maps.Ext
namespace Go.Proofs.Ytgbahkkccpcadaa
namespace Wh
open Go.ChangeShapes Go.WideShapes Go.ChangeAt Go.RowKit Go.Maps
open Num Mem Words Chacha Aead Poly Quiet RowV RowS Ops EqLits

theorem lits_int {P : Program} {e : TypeId} {q : IntKind} (he : P.underlying e = some (.int q)) (d : Nat) (a : Int) (h : (Lit.int q a).wf = true) : (P.keyLits (d + 1) e [.int q a]).isSome = true := by
  unfold Program.keyLits
  simp only [he]
  rw [if_pos ⟨trivial, h⟩]
  rfl
def okI (o : Int) : Prop := (Lit.int .i64 o).wf = true
theorem okI_of {a : Int} (h0 : -9223372036854775808 ≤ a) (h1 : a ≤ 9223372036854775807) : okI a := by
  have e0 : IntKind.min .i64 = -9223372036854775808 := by decide
  have e1 : IntKind.max .i64 = 9223372036854775807 := by decide
  show (decide (IntKind.min .i64 ≤ a) && decide (a ≤ IntKind.max .i64)) = true
  rw [e0, e1, Bool.and_eq_true, decide_eq_true_eq, decide_eq_true_eq]
  exact ⟨h0, h1⟩
theorem lawN : WideMaps.KeyLaw Try.prog 67 := deep_law (m := 4) (by omega) (by kernel_rfl) (by kernel_rfl) (by kernel_rfl)
theorem keyedN : Maps.Keyed Try.prog 67 := Maps.Keyed.of_law lawN
def nmV (o k : Int) : Value := .agg #[.int .i64 o, .int .i64 k]
def klN (P : Program) (T : TypeId) (o k : Int) : Lit := (keyOf P T (nmV o k)).getD (.bool false)
theorem cells_int : Try.prog.cellsOf 3 = 1 := by kernel_rfl
theorem cells_name : Try.prog.cellsOf 67 = 2 := by kernel_rfl
theorem lits_name {o k : Int} (ho : okI o) (hk : okI k) (d : Nat) : (Try.prog.keyLits (d + 2) 67 [.int .i64 o, .int .i64 k]).isSome = true := by
  refine lits_struct Try.underlying67 (d + 1) _ (by rw [cells_name]; rfl) (by decide +kernel) ?_
  intro x hx
  simp only [List.mem_cons, List.not_mem_nil, or_false] at hx
  rcases hx with rfl | rfl
  · rw [cells_int]
    exact lits_int Try.underlying3 d o ho
  · rw [cells_int]
    exact lits_int Try.underlying3 d k hk
theorem key_type : Try.prog.keyType 67 = true := by kernel_rfl
theorem key_name {o k : Int} (ho : okI o) (hk : okI k) : keyOf Try.prog 67 (nmV o k) = some (klN Try.prog 67 o k) := by
  have h : (keyOf Try.prog 67 (nmV o k)).isSome = true := by
    unfold keyOf nmV
    simp only [Try.underlying67]
    have hfm : (Value.agg #[.int .i64 o, .int .i64 k]).formed Try.prog 67 = true := by
      simp only [Value.formed, Try.underlying67, cells_name]
      rfl
    rw [key_type, hfm]
    simp only [Bool.and_self, if_true, Option.isSome_map]
    obtain ⟨d, hd⟩ : ∃ d, Try.prog.types.size + 1 = d + 2 := ⟨Try.prog.types.size - 1, by
      have : 4 ≤ Try.prog.types.size := by decide +kernel
      omega⟩
    rw [hd]
    exact lits_name ho hk d
  unfold klN
  cases hk : keyOf Try.prog 67 (nmV o k) with
  | none => rw [hk] at h; cases h
  | some l => rfl
theorem kl_key {o k : Int} (ho : okI o) (hk : okI k) : WideAt.IsKeyLit (klN Try.prog 67 o k) := keyedN.key (key_name ho hk)
theorem kl_inj {o k o' k' : Int} (ho : okI o) (hk : okI k) (ho' : okI o') (hk' : okI k') (h : klN Try.prog 67 o k = klN Try.prog 67 o' k') : o = o' ∧ k = k' := by
  have e := keyedN.inj (key_name ho hk) (h ▸ key_name ho' hk')
  unfold nmV at e
  injection e with e
  have e := congrArg Array.toList e
  simp at e
  exact e

/-- how a time reads -/
def i64R : Value → Option (DataW Unit × List MemPlace)
  | .int .i64 a => some (.lit (.int .i64 a), [])
  | _ => none
theorem i64R_inv {x : Value} {y : DataW Unit × List MemPlace} (h : i64R x = some y) : ∃ a : Int, x = .int .i64 a ∧ y = (.lit (.int .i64 a), []) := by
  unfold i64R at h
  split at h
  · rename_i a
    exact ⟨a, rfl, (Option.some.inj h).symm⟩
  · cases h
theorem zero_i64 (w : World) : (zeroValue 2).run Try.prog w = .ok (.int .i64 0) w := by kernel_rfl

/-! ### what timers there may be -/
structure Good (now : Int) (T : List Tm) : Prop where
  srt : Srt T
  unq : Unq T
  nn : 0 ≤ now
  nm : now ≤ 1099511627776
  ok : ∀ x ∈ T, 0 ≤ x.o ∧ x.o ≤ 9223372036854775807 ∧ 0 ≤ x.k ∧ x.k ≤ 9223372036854775807 ∧ now ≤ x.t ∧ x.t ≤ 1099511627776
  room : T.length ≤ 64
theorem Good.io {now : Int} {T : List Tm} (h : Good now T) {x : Tm} (hx : x ∈ T) : okI x.o := by have := h.ok x hx; exact okI_of (by omega) (by omega)
theorem Good.ik {now : Int} {T : List Tm} (h : Good now T) {x : Tm} (hx : x ∈ T) : okI x.k := by have := h.ok x hx; exact okI_of (by omega) (by omega)
theorem Good.sub {now : Int} {T T' : List Tm} (h : Good now T) (hs : T'.Sublist T) : Good now T' :=
  ⟨h.srt.sublist hs, h.unq.sub (fun _ hy => hs.subset hy), h.nn, h.nm, fun x hx => h.ok x (hs.subset hx), Nat.le_trans hs.length_le h.room⟩
theorem Good.rem {now : Int} {T : List Tm} (h : Good now T) (o k : Int) : Good now (rem o k T) := h.sub List.filter_sublist
theorem Good.ins {now : Int} {T : List Tm} (h : Good now T) {x : Tm} (hx : ∀ y ∈ T, ¬ (y.o = x.o ∧ y.k = x.k)) (hok : 0 ≤ x.o ∧ x.o ≤ 9223372036854775807 ∧ 0 ≤ x.k ∧ x.k ≤ 9223372036854775807 ∧ now ≤ x.t ∧ x.t ≤ 1099511627776) (hr : T.length < 64) : Good now (ins x T) :=
  ⟨Srt.ins h.srt (fun c => hx x c ⟨rfl, rfl⟩), Unq.ins h.unq hx, h.nn, h.nm, fun y hy => by
    rcases mem_ins.1 hy with rfl | hy
    · exact hok
    · exact h.ok y hy, by rw [length_ins h.srt]; omega⟩

/-! ### when a map agrees -/
structure MAg (D : DataW Unit) (T : List Tm) : Prop where
  hs : ∀ l, has D l = true ↔ ∃ x ∈ T, l = klN Try.prog 67 x.o x.k
  at_ : ∀ x ∈ T, ∀ z, D.atKey (klN Try.prog 67 x.o x.k) z = .lit (.int .i64 x.t)
  sz : Maps.size D = T.length
theorem mag_new : MAg (.map []) [] := ⟨fun l => ⟨fun h => (by cases h), fun ⟨x, hx, _⟩ => (by cases hx)⟩, fun x hx => (by cases hx), rfl⟩
theorem MAg.no {D : DataW Unit} {T : List Tm} {now : Int} (h : MAg D T) (hG : Good now T) {o k : Int} (ho : okI o) (hk : okI k) (hn : ∀ y ∈ T, ¬ (y.o = o ∧ y.k = k)) : has D (klN Try.prog 67 o k) = false := by
  refine Bool.eq_false_iff.2 fun c => ?_
  obtain ⟨x, hx, e⟩ := (h.hs _).1 c
  obtain ⟨e1, e2⟩ := kl_inj ho hk (hG.io hx) (hG.ik hx) e
  exact hn x hx ⟨e1.symm, e2.symm⟩
theorem MAg.put {D : DataW Unit} {T : List Tm} {now : Int} (h : MAg D T) (hG : Good now T) (hD : Tidy D) {x : Tm} (ho : okI x.o) (hk : okI x.k) (hx : ∀ y ∈ T, ¬ (y.o = x.o ∧ y.k = x.k)) :
    MAg (D.put (klN Try.prog 67 x.o x.k) (.lit (.int .i64 x.t))) (ins x T) := by
  have hno := h.no hG ho hk hx
  have hne : ∀ y ∈ T, klN Try.prog 67 y.o y.k ≠ klN Try.prog 67 x.o x.k := fun y hy e => by
    obtain ⟨e1, e2⟩ := kl_inj (hG.io hy) (hG.ik hy) ho hk e
    exact hx y hy ⟨e1, e2⟩
  refine ⟨fun l => ?_, fun y hy z => ?_, ?_⟩
  · by_cases e : l = klN Try.prog 67 x.o x.k
    · subst e
      exact ⟨fun _ => ⟨x, mem_ins.2 (.inl rfl), rfl⟩, fun _ => has_put_same hD.isMap (kl_key ho hk) _⟩
    · rw [has_put_other e, h.hs]
      constructor
      · rintro ⟨y, hy, e2⟩
        exact ⟨y, mem_ins.2 (.inr hy), e2⟩
      · rintro ⟨y, hy, e2⟩
        rcases mem_ins.1 hy with e3 | hy
        · subst e3; exact absurd e2 e
        · exact ⟨y, hy, e2⟩
  · rcases mem_ins.1 hy with e3 | hy
    · subst e3; exact atKey_put_same hD.isMap (kl_key ho hk) _ z
    · rw [atKey_put_other (hne y hy), h.at_ y hy z]
  · rw [size_put hD, hno, length_ins hG.srt, h.sz]
    rfl
theorem MAg.del {D : DataW Unit} {T : List Tm} {now : Int} (h : MAg D T) (hG : Good now T) (hD : Tidy D) {x : Tm} (hx : x ∈ T) : MAg (D.del (klN Try.prog 67 x.o x.k)) (rem x.o x.k T) := by
  have hne : ∀ y ∈ rem x.o x.k T, klN Try.prog 67 y.o y.k ≠ klN Try.prog 67 x.o x.k := fun y hy e => by
    obtain ⟨h1, h2⟩ := mem_rem.1 hy
    exact h2 (kl_inj (hG.io h1) (hG.ik h1) (hG.io hx) (hG.ik hx) e)
  refine ⟨fun l => ?_, fun y hy z => ?_, ?_⟩
  · by_cases e : l = klN Try.prog 67 x.o x.k
    · subst e
      rw [has_del_same]
      refine ⟨fun c => (by cases c), fun ⟨y, hy, e⟩ => absurd e.symm (hne y hy)⟩
    · rw [has_del_other e, h.hs]
      constructor
      · rintro ⟨y, hy, e2⟩
        refine ⟨y, mem_rem.2 ⟨hy, fun ⟨c1, c2⟩ => e ?_⟩, e2⟩
        rw [e2, c1, c2]
      · rintro ⟨y, hy, e2⟩
        exact ⟨y, (mem_rem.1 hy).1, e2⟩
  · rw [atKey_del_other (hne y hy), h.at_ y (mem_rem.1 hy).1 z]
  · have e1 := size_del (k := klN Try.prog 67 x.o x.k) hD
    have e2 := length_rem hG.srt hG.unq hx
    rw [(h.hs _).2 ⟨x, hx, rfl⟩, h.sz] at e1
    simp only [if_true] at e1
    omega

/-! ### a wheel in memory -/
/-- a map under way: how it is kept -/
structure MapK (b : Nat) (Φ : World → DataW Unit → Prop) : Prop where
  own : ∀ w D, Φ w D → ∃ n, n ≤ 1000000 ∧ w.ownsMap Try.prog 67 i64R b n D
  del : ∀ w D key kl ty, Φ w D → keyOf Try.prog 67 key = some kl → ∃ w', (Builtin.delete_ #[47, 67] ty #[.map (some b), key]).run Try.prog w = .ok (.tuple #[]) w' ∧ Φ w' (D.del kl) ∧ w.mapTurned w' b
  keep : ∀ w w' D row, Φ w D → w.grownBy w' row → (∀ j, row = some j → ∃ t cs, Whole w j t cs) → Φ w' D
/-- a map that is not gone through -/
def Still (b : Nat) (w : World) (D : DataW Unit) : Prop := ∃ n, n ≤ 1000000 ∧ w.ownsMap Try.prog 67 i64R b n D
theorem owns_row {w : World} {b n j : Nat} {k : TypeId} {R : Value → Option (DataW Unit × List MemPlace)} {D : DataW Unit} {t : TypeId} {cs : Array Value} (h : w.ownsMap Try.prog k R b n D) (hw : Whole w j t cs) : j ≠ b := by
  rintro rfl
  obtain ⟨es, clock, hb, _⟩ := h
  unfold Whole at hw
  rw [hw] at hb
  cases hb
theorem still_k (b : Nat) : MapK b (Still b) := by
  refine ⟨fun w D h => h, fun w D key kl ty h hk => ?_, fun w w' D row h hg hr => ?_⟩
  · obtain ⟨n, hn, h⟩ := h
    obtain ⟨w', h1, h2, h3⟩ := h.drop keyedN Try.underlying47 hk ty
    exact ⟨w', h1, ⟨n, hn, h2⟩, h3⟩
  · obtain ⟨n, hn, h⟩ := h
    refine ⟨n, hn, h.kept hg fun e => ?_⟩
    obtain ⟨t, cs, hw⟩ := hr b e.symm
    exact owns_row h hw rfl
def slotL (q : Nat) (T : List Tm) : List Tm := T.filter (slotB q)
def blk (cs : List Value) (q : Nat) : Option Nat := (cs[q]?).bind Value.ownBlock
structure WM (w : World) (F : Nat → Prop) (g b s : Nat) (now : Int) (T : List Tm) (D : DataW Unit) (cs : List Value) : Prop where
  obj : Whole w g 50 #[.int .i64 now, .map (some b), .pointer (some ⟨s, 0, none⟩)]
  ag : MAg D T
  slots : Whole w s 63 cs.toArray
  len : cs.length = 64
  row : ∀ q, q < 64 → ∃ A c, cs[q]? = some (.slice A (slotL q T).length c) ∧ RowT w 0 A c (slotL q T)
  apart : ∀ q q' j, blk cs q = some j → blk cs q' = some j → q = q'
  fg : F g
  fb : F b
  fs : F s
  fr : ∀ q j, blk cs q = some j → F j
  good : Good now T
def WW (w : World) (F : Nat → Prop) (g : Nat) (now : Int) (T : List Tm) : Prop := ∃ b s D cs, WM w F g b s now T D cs ∧ Still b w D
/-- all but the wheel's blocks is as it was -/
structure Fk (F : Nat → Prop) (w w' : World) : Prop where
  os : w'.os = w.os
  tape : w'.tape = w.tape
  output : w'.output = w.output
  size : w.heap.size ≤ w'.heap.size
  block : ∀ i, i < w.heap.size → ¬ F i → w'.heap[i]? = w.heap[i]?
def ext (F : Nat → Prop) (w : World) (i : Nat) : Prop := F i ∨ w.heap.size ≤ i
theorem Fk.refl (F : Nat → Prop) (w : World) : Fk F w w := ⟨rfl, rfl, rfl, Nat.le_refl _, fun _ _ _ => rfl⟩
theorem Fk.trans {F F' : Nat → Prop} {x y z : World} (h : Fk F x y) (k : Fk F' y z) (hF : ∀ i, i < x.heap.size → F' i → F i) : Fk F x z :=
  ⟨k.os.trans h.os, k.tape.trans h.tape, k.output.trans h.output, Nat.le_trans h.size k.size, fun i hi hf => (k.block i (Nat.lt_of_lt_of_le hi h.size) (fun c => hf (hF i hi c))).trans (h.block i hi hf)⟩
theorem Fk.of_below {F : Nat → Prop} {w w' : World} (h : Below w.heap.size w w') : Fk F w w' := ⟨h.os, h.tape, h.output, h.size, fun i hi _ => h.block i hi⟩
theorem Fk.grown {F : Nat → Prop} {w w' : World} {row : Option Nat} (h : w.grownBy w' row) (hr : ∀ j, row = some j → F j) : Fk F w w' := ⟨h.os, h.tape, h.output, h.size, fun i hi hf => h.block i hi (fun e => hf (hr i e.symm))⟩
theorem Fk.whole {F : Nat → Prop} {w w' : World} (h : Fk F w w') {i : Nat} {t : TypeId} {cs : Array Value} (hw : Whole w i t cs) (hf : ¬ F i) : Whole w' i t cs := (h.block i hw.lt hf).trans hw
theorem Fk.drew {F : Nat → Prop} {w w' : World} (h : Fk F w w') : Fk F w w'.drew := ⟨h.os, h.tape, h.output, h.size, h.block⟩
theorem Fk.mono {F G : Nat → Prop} {w w' : World} (h : Fk F w w') (hF : ∀ i, i < w.heap.size → F i → G i) : Fk G w w' := ⟨h.os, h.tape, h.output, h.size, fun i hi hg => h.block i hi (fun c => hg (hF i hi c))⟩
section
variable {w w' : World} {F : Nat → Prop} {g b s : Nat} {now : Int} {T : List Tm} {D : DataW Unit} {cs : List Value}
theorem WM.blk_lt (h : WM w F g b s now T D cs) {q j : Nat} (e : blk cs q = some j) : q < 64 ∧ ∃ c, Whole w j 38 c := by
  have hq : q < 64 := by
    rcases Nat.lt_or_ge q 64 with k | k
    · exact k
    · unfold blk at e
      rw [List.getElem?_eq_none (by rw [h.len]; exact k)] at e
      cases e
  refine ⟨hq, ?_⟩
  obtain ⟨A, c, h1, h2⟩ := h.row q hq
  unfold blk at e
  rw [h1, Option.bind_some] at e
  rcases h2.2 with ⟨e1, _⟩ | ⟨g', cap, cur, e1, _, hh, _⟩
  · rw [e1] at e; cases e
  · rw [e1] at e
    injection e with e
    subst e
    exact ⟨cur, hh⟩
theorem row_keep {B c : Nat} {A : Option Addr} {L : List Tm} (h : RowT w B A c L) (hk : ∀ j cs, A = some ⟨j, 0, none⟩ → Whole w j 38 cs → Whole w' j 38 cs) : RowT w' B A c L := by
  refine ⟨h.1, ?_⟩
  rcases h.2 with e | ⟨g', cap, cur, e1, hB, hh, rest⟩
  · exact .inl e
  · refine .inr ⟨g', cap, cur, e1, hB, ?_, rest⟩
    injection e1 with e1
    exact hk g' cur e1 hh
/-- the rest of the wheel stays while other blocks turn -/
theorem WM.keep (h : WM w F g b s now T D cs) (hk : ∀ j t c, (j = g ∨ j = s ∨ ∃ q, blk cs q = some j) → Whole w j t c → Whole w' j t c) : WM w' F g b s now T D cs :=
  { h with
    obj := hk _ _ _ (.inl rfl) h.obj
    slots := hk _ _ _ (.inr (.inl rfl)) h.slots
    row := fun q hq => by
      obtain ⟨A, c, h1, h2⟩ := h.row q hq
      refine ⟨A, c, h1, row_keep h2 fun j cs' e hw => hk _ _ _ (.inr (.inr ⟨q, ?_⟩)) hw⟩
      unfold blk
      rw [h1, Option.bind_some, e]
      rfl }
theorem WM.below (h : WM w F g b s now T D cs) (hb : Below w.heap.size w w') : WM w' F g b s now T D cs := h.keep fun _ _ _ _ hw => hw.below hb hw.lt
theorem Still.below {b : Nat} {D : DataW Unit} (h : Still b w D) (hb : Below w.heap.size w w') : Still b w' D := (still_k b).keep w w' D none h ⟨hb.os, hb.tape, hb.output, hb.size, fun i hi _ => hb.block i hi⟩ (by simp)
theorem WW.below (h : WW w F g now T) (hb : Below w.heap.size w w') : WW w' F g now T := by
  obtain ⟨b, s, D, cs, h1, h2⟩ := h
  exact ⟨b, s, D, cs, h1.below hb, h2.below hb⟩
theorem WM.mono {F' : Nat → Prop} (h : WM w F g b s now T D cs) (hb : b < w.heap.size) (hF : ∀ i, i < w.heap.size → F i → F' i) : WM w F' g b s now T D cs :=
  { h with fg := hF _ h.obj.lt h.fg, fb := hF _ hb h.fb, fs := hF _ h.slots.lt h.fs, fr := fun q j e => by obtain ⟨_, c, hw⟩ := h.blk_lt e; exact hF _ hw.lt (h.fr q j e) }
theorem Still.lt (h : Still b w D) : b < w.heap.size := by obtain ⟨n, _, h⟩ := h; exact h.lt
theorem WW.mono {F' : Nat → Prop} (h : WW w F g now T) (hF : ∀ i, i < w.heap.size → F i → F' i) : WW w F' g now T := by
  obtain ⟨b, s, D, cs, h1, h2⟩ := h
  exact ⟨b, s, D, cs, h1.mono h2.lt hF, h2⟩
theorem WW.good (h : WW w F g now T) : Good now T := by obtain ⟨b, s, D, cs, h1, h2⟩ := h; exact h1.good
theorem WW.lt (h : WW w F g now T) : g < w.heap.size := by obtain ⟨b, s, D, cs, h1, h2⟩ := h; exact h1.obj.lt
theorem WW.own (h : WW w F g now T) : F g := by obtain ⟨b, s, D, cs, h1, h2⟩ := h; exact h1.fg
end
end Wh
end Go.Proofs.Ytgbahkkccpcadaa
