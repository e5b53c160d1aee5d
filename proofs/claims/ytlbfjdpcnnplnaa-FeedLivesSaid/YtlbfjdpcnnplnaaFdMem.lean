/- Package feed: a feed in memory. -/
import Derived.Test.YtlbfjdpcnnplnaaFdNum
import Derived.Test.YtlbfjdpcnnplnaaRowS
import Derived.ArgAppend
namespace Go.Proofs.Ytlbfjdpcnnplnaa
namespace Fee
open Go.ChangeShapes Go.WideShapes Go.ChangeAt Go.RowKit Go.Maps
open Num Mem Words Chacha Aead Poly Quiet RowV RowS

def okU (o : Nat) : Prop := (Lit.int .u64 (o : Int)).wf = true
def okI (o : Int) : Prop := (Lit.int .i64 o).wf = true
theorem okU_of {a : Nat} (h1 : a ≤ 18446744073709551615) : okU a := by
  have e0 : IntKind.min .u64 = 0 := by decide
  have e1 : IntKind.max .u64 = 18446744073709551615 := by decide
  show (decide (IntKind.min .u64 ≤ (a : Int)) && decide ((a : Int) ≤ IntKind.max .u64)) = true
  rw [e0, e1, Bool.and_eq_true, decide_eq_true_eq, decide_eq_true_eq]
  omega
theorem okI_of {a : Int} (h0 : -9223372036854775808 ≤ a) (h1 : a ≤ 9223372036854775807) : okI a := by
  have e0 : IntKind.min .i64 = -9223372036854775808 := by decide
  have e1 : IntKind.max .i64 = 9223372036854775807 := by decide
  show (decide (IntKind.min .i64 ≤ a) && decide (a ≤ IntKind.max .i64)) = true
  rw [e0, e1, Bool.and_eq_true, decide_eq_true_eq, decide_eq_true_eq]
  exact ⟨h0, h1⟩
theorem whole_type {w : World} {g : Nat} {t u : TypeId} {cs ds : Array Value} (h : Whole w g t cs) (k : Whole w g u ds) : t = u := by
  have e := h.symm.trans k
  injection e with e
  injection e with _ e
theorem keyedU : Maps.Keyed Try.prog 23 := int_keyed Try.underlying23
theorem zero_ptr (w : World) : (zeroValue 72).run Try.prog w = .ok (ptrV none) w := by kernel_rfl
theorem key_u {o : Nat} (h : okU o) : keyOf Try.prog 23 (.int .u64 (o : Nat)) = some (keyO o) := keyOf_int_mk Try.underlying23 h

/-- all but G's blocks is as it was, and all rows of items -/
structure Fk (G : Nat → Prop) (w w' : World) : Prop where
  os : w'.os = w.os
  tape : w'.tape = w.tape
  output : w'.output = w.output
  size : w.heap.size ≤ w'.heap.size
  block : ∀ i, i < w.heap.size → ¬ G i → w'.heap[i]? = w.heap[i]?
  items : ∀ i cs, Whole w i 66 cs → Whole w' i 66 cs
def ext (F : Nat → Prop) (w : World) (i : Nat) : Prop := F i ∨ w.heap.size ≤ i
theorem Fk.refl (F : Nat → Prop) (w : World) : Fk F w w := ⟨rfl, rfl, rfl, Nat.le_refl _, fun _ _ _ => rfl, fun _ _ h => h⟩
theorem Fk.trans {F F' : Nat → Prop} {x y z : World} (h : Fk F x y) (k : Fk F' y z) (hF : ∀ i, i < x.heap.size → F' i → F i) : Fk F x z :=
  ⟨k.os.trans h.os, k.tape.trans h.tape, k.output.trans h.output, Nat.le_trans h.size k.size, fun i hi hf => (k.block i (Nat.lt_of_lt_of_le hi h.size) (fun c => hf (hF i hi c))).trans (h.block i hi hf), fun i cs hw => k.items i cs (h.items i cs hw)⟩
theorem Fk.of_below {F : Nat → Prop} {w w' : World} (h : Below w.heap.size w w') : Fk F w w' := ⟨h.os, h.tape, h.output, h.size, fun i hi _ => h.block i hi, fun _ _ hw => hw.below h hw.lt⟩
theorem Fk.grown {F : Nat → Prop} {w w' : World} {g : Nat} {t : TypeId} {cs : Array Value} (h : w.grownBy w' (some g)) (hw : Whole w g t cs) (hr : F g) (ht : t ≠ 66) : Fk F w w' :=
  ⟨h.os, h.tape, h.output, h.size, fun i hi hf => h.block i hi (fun e => hf (by injection e with e; rw [e]; exact hr)), fun i ds hi => (h.block i hi.lt (fun e => ht (by injection e with e; subst e; exact whole_type hw hi))).trans hi⟩
theorem Fk.map {F : Nat → Prop} {w w' : World} {b n : Nat} {k : TypeId} {R : Value → Option (DataW Unit × List MemPlace)} {D : DataW Unit} (h : w.grownBy w' (some b)) (hw : w.ownsMap Try.prog k R b n D) (hr : F b) : Fk F w w' :=
  ⟨h.os, h.tape, h.output, h.size, fun i hi hf => h.block i hi (fun e => hf (by injection e with e; rw [e]; exact hr)), fun i ds hi => (h.block i hi.lt (fun e => by
    injection e with e
    subst e
    obtain ⟨es, clock, hb, _⟩ := hw
    unfold Whole at hi
    rw [hi] at hb
    cases hb)).trans hi⟩
theorem Fk.whole {F : Nat → Prop} {w w' : World} (h : Fk F w w') {i : Nat} {t : TypeId} {cs : Array Value} (hw : Whole w i t cs) (hf : ¬ F i) : Whole w' i t cs := (h.block i hw.lt hf).trans hw
theorem Fk.drew {F : Nat → Prop} {w w' : World} (h : Fk F w w') : Fk F w w'.drew := ⟨h.os, h.tape, h.output, h.size, h.block, h.items⟩
theorem Fk.mono {F G : Nat → Prop} {w w' : World} (h : Fk F w w') (hF : ∀ i, i < w.heap.size → F i → G i) : Fk G w w' := ⟨h.os, h.tape, h.output, h.size, fun i hi hg => h.block i hi (fun c => hg (hF i hi c)), h.items⟩
theorem Fk.below {F : Nat → Prop} {w w' : World} (h : Fk F w w') {B : Nat} (hB : B ≤ w.heap.size) (hF : ∀ i, F i → B ≤ i) : Below B w w' := ⟨h.os, h.tape, h.output, h.size, fun i hi => h.block i (Nat.lt_of_lt_of_le hi hB) (fun c => by have := hF i c; omega)⟩

/-- a slice of items reads as a list of cells; nobody writes to it -/
def RdI (w : World) (A : Option Addr) (xs : List Value) : Prop :=
  xs = [] ∨ ∃ b off cs, A = some ⟨b, off, none⟩ ∧ Whole w b 66 cs ∧ ∀ i v, xs[i]? = some v → cs[off + i]? = some v
theorem RdI.keep {w w' : World} {A : Option Addr} {xs : List Value} (h : RdI w A xs) (hk : ∀ i cs, Whole w i 66 cs → Whole w' i 66 cs) : RdI w' A xs :=
  h.imp id fun ⟨b, off, cs, e, hw, hc⟩ => ⟨b, off, cs, e, hk _ _ hw, hc⟩
theorem RdI.fk {G : Nat → Prop} {w w' : World} {A : Option Addr} {xs : List Value} (h : RdI w A xs) (hk : Fk G w w') : RdI w' A xs := h.keep hk.items
theorem RdI.below {w w' : World} {A : Option Addr} {xs : List Value} (h : RdI w A xs) (hb : Below w.heap.size w w') : RdI w' A xs := h.keep fun _ _ hw => hw.below hb hw.lt
theorem RdI.cell {w : World} {A : Option Addr} {xs : List Value} (h : RdI w A xs) {a : Addr} (hA : A = some a) : ∀ j u, xs[j]? = some u → w.cell? (a.add j) = some u := by
  intro j u hj
  rcases h with rfl | ⟨b, off, cs, e, hw, hc⟩
  · simp at hj
  · rw [e] at hA
    injection hA with hA
    subst hA
    have : (⟨b, off, none⟩ : Addr).add j = ⟨b, off + j, none⟩ := by unfold Addr.add; split <;> simp_all
    rw [this, hw.cell]
    exact hc j u hj
theorem RdI.take {w : World} {A : Option Addr} {xs : List Value} (h : RdI w A xs) (n : Nat) : RdI w A (xs.take n) := by
  rcases h with rfl | ⟨b, off, cs, e, hw, hc⟩
  · exact .inl (by simp)
  · refine .inr ⟨b, off, cs, e, hw, fun i v hv => hc i v ?_⟩
    rw [List.getElem?_take] at hv
    split at hv
    · exact hv
    · cases hv
theorem RdI.drop {w : World} {b off : Nat} {xs : List Value} (h : RdI w (some ⟨b, off, none⟩) xs) (n : Nat) : RdI w (some ⟨b, off + n, none⟩) (xs.drop n) := by
  rcases h with rfl | ⟨b', off', cs, e, hw, hc⟩
  · exact .inl (by simp)
  · injection e with e
    injection e with e1 e2
    subst e1 e2
    refine .inr ⟨b, off + n, cs, rfl, hw, fun i v hv => ?_⟩
    rw [List.getElem?_drop] at hv
    rw [Nat.add_assoc]
    exact hc _ v hv
theorem RdI.of_own {w : World} {B n c : Nat} {A : Option Addr} {xs : List Value} (h : w.ownsRow B 66 35 (.slice A n c) n xs) : RdI w A xs := by
  rcases h.2 with ⟨_, h0⟩ | ⟨g, cap, cur, e1, _, hh, _, _, _, ht⟩
  · refine .inl ?_
    have := h.1
    rw [h0, Nat.zero_mul] at this
    exact List.eq_nil_of_length_eq_zero this
  · injection e1 with e1 e2 e3
    refine .inr ⟨g, 0, cur, e1, hh, fun i v hv => ?_⟩
    rw [Nat.zero_add, ← Array.getElem?_toList]
    rw [← ht, List.getElem?_take] at hv
    split at hv
    · exact hv
    · cases hv
/-- a slice of items, without room behind -/
def Its (w : World) (v : Value) (L : List It) : Prop := ∃ A, v = .slice A L.length L.length ∧ RdI w A (flatI L)
theorem Its.keep {w w' : World} {v : Value} {L : List It} (h : Its w v L) (hk : ∀ i cs, Whole w i 66 cs → Whole w' i 66 cs) : Its w' v L := by
  obtain ⟨A, e, h⟩ := h
  exact ⟨A, e, h.keep hk⟩
theorem Its.below {w w' : World} {v : Value} {L : List It} (h : Its w v L) (hb : Below w.heap.size w w') : Its w' v L := h.keep fun _ _ hw => hw.below hb hw.lt

structure OkEv (e : Ev) : Prop where
  k : okI e.k
  f : ∀ i, e.f i < 256
  v : e.v ≤ 18446744073709551615
def OkIt (x : It) : Prop := OkEv x.e ∧ x.lost ≤ 18446744073709551615
theorem ok_noEv : OkEv noEv := ⟨okI_of (by decide) (by decide), fun _ => Nat.zero_lt_succ 255, Nat.zero_le _⟩

/-- a watcher in memory -/
def WtW (w : World) (r : Nat) (x : Wt) : Prop := ∃ v, Whole w r 74 #[v, .int .u64 (x.lost : Nat)] ∧ Its w v x.L
structure OkWt (x : Wt) : Prop where
  few : x.L.length ≤ 16
  ok : ∀ y ∈ x.L, OkIt y
theorem WtW.keep {w w' : World} {r : Nat} {x : Wt} (h : WtW w r x) (hr : ∀ cs, Whole w r 74 cs → Whole w' r 74 cs) (hk : ∀ i cs, Whole w i 66 cs → Whole w' i 66 cs) : WtW w' r x := by
  obtain ⟨v, h1, h2⟩ := h
  exact ⟨v, hr _ h1, h2.keep hk⟩
theorem WtW.below {w w' : World} {r : Nat} {x : Wt} (h : WtW w r x) (hb : Below w.heap.size w w') : WtW w' r x := h.keep (fun _ hw => hw.below hb hw.lt) (fun _ _ hw => hw.below hb hw.lt)
theorem WtW.lt {w : World} {r : Nat} {x : Wt} (h : WtW w r x) : r < w.heap.size := by
  obtain ⟨v, h1, _⟩ := h
  exact h1.lt
theorem ok_push {x : Wt} {e : Ev} (h : OkWt x) (he : OkEv e) (hl : x.lost ≤ 18446744073709551615) : OkWt (pushW x e) := by
  refine ⟨pushW_few e h.few, fun y hy => ?_⟩
  unfold pushW at hy
  split at hy
  · exact h.ok y hy
  · simp only [List.mem_append, List.mem_cons, List.not_mem_nil, or_false] at hy
    rcases hy with hy | hy | rfl
    · exact h.ok y hy
    · unfold gapL at hy
      split at hy
      · rw [List.mem_singleton] at hy
        subst hy
        exact ⟨ok_noEv, hl⟩
      · cases hy
    · exact ⟨he, by show 0 ≤ _; omega⟩
theorem ok_take {x : Wt} (h : OkWt x) (n : Int) : OkWt (takeW x n) := by
  refine ⟨?_, fun y hy => h.ok y (List.mem_of_mem_drop hy)⟩
  show (x.L.drop _).length ≤ 16
  rw [List.length_drop]
  have := h.few
  omega

/-- a feed in memory, but for its map -/
structure FM (w : World) (F : Nat → Prop) (g b : Nat) (S : St) (last : Nat) (m : Nat → Option Nat) : Prop where
  obj : Whole w g 63 #[.map (some b), .int .u64 (last : Nat)]
  row : ∀ id x, at_ S id = some x → ∃ r, m id = some r ∧ WtW w r x
  dom : ∀ id r, m id = some r → id ∈ ids S
  inj : ∀ i j r, m i = some r → m j = some r → i = j
  srt : (ids S).Pairwise (· < ·)
  low : ∀ id ∈ ids S, 1 ≤ id ∧ id ≤ last
  ok : ∀ p ∈ S, OkWt p.2
  fg : F g
  fb : F b
  fr : ∀ i r, m i = some r → F r
/-- a feed in memory -/
def FW (w : World) (F : Nat → Prop) (g : Nat) (S : St) (last : Nat) : Prop := ∃ b D m, FM w F g b S last m ∧ PAg D m ∧ Maps.size D = S.length ∧ w.ownsMap Try.prog 23 ptrR b last D

theorem owns_row {w : World} {b n j : Nat} {k : TypeId} {R : Value → Option (DataW Unit × List MemPlace)} {D : DataW Unit} {t : TypeId} {cs : Array Value} (h : w.ownsMap Try.prog k R b n D) (hw : Whole w j t cs) : j ≠ b := by
  rintro rfl
  obtain ⟨es, clock, hb, _⟩ := h
  unfold Whole at hw
  rw [hw] at hb
  cases hb
section
variable {w w' : World} {F : Nat → Prop} {g b last : Nat} {S : St} {m : Nat → Option Nat} {D : DataW Unit}
theorem FM.nd (h : FM w F g b S last m) : (ids S).Nodup := h.srt.imp fun h e => absurd e (Nat.ne_of_lt h)
theorem FM.keep (h : FM w F g b S last m) (h1 : ∀ cs, Whole w g 63 cs → Whole w' g 63 cs) (h2 : ∀ i r cs, m i = some r → Whole w r 74 cs → Whole w' r 74 cs) (hk : ∀ i cs, Whole w i 66 cs → Whole w' i 66 cs) : FM w' F g b S last m :=
  { h with obj := h1 _ h.obj, row := fun id x hx => by obtain ⟨r, e, hr⟩ := h.row id x hx; exact ⟨r, e, hr.keep (fun cs => h2 id r cs e) hk⟩ }
theorem FM.below (h : FM w F g b S last m) (hb : Below w.heap.size w w') : FM w' F g b S last m := h.keep (fun _ hw => hw.below hb hw.lt) (fun _ _ _ _ hw => hw.below hb hw.lt) (fun _ _ hw => hw.below hb hw.lt)
theorem FM.mr (h : FM w F g b S last m) {id r : Nat} (e : m id = some r) : ∃ x, at_ S id = some x ∧ WtW w r x := by
  obtain ⟨x, hx⟩ := at_some_of (h.dom id r e)
  obtain ⟨r', e', hr⟩ := h.row id x hx
  rw [e] at e'
  injection e' with e'
  subst e'
  exact ⟨x, hx, hr⟩
theorem FW.below (h : FW w F g S last) (hb : Below w.heap.size w w') : FW w' F g S last := by
  obtain ⟨b, D, m, h1, h2, h3, h4⟩ := h
  exact ⟨b, D, m, h1.below hb, h2, h3, h4.kept (row := none) ⟨hb.os, hb.tape, hb.output, hb.size, fun i hi _ => hb.block i hi⟩ (by simp)⟩
/-- other blocks turn -/
theorem FW.fk {G : Nat → Prop} (h : FW w F g S last) (hk : Fk G w w') (ha : ∀ i, F i → ¬ G i) : FW w' F g S last := by
  obtain ⟨b, D, m, h1, h2, h3, h4⟩ := h
  refine ⟨b, D, m, h1.keep (fun _ hw => hk.whole hw (ha g h1.fg)) (fun i r _ e hw => hk.whole hw (ha r (h1.fr i r e))) hk.items, h2, h3, ?_⟩
  have hlt := h4.lt
  obtain ⟨es, clock, hb, F0, hs, e⟩ := h4
  exact ⟨es, clock, (hk.block b hlt (ha b h1.fb)).trans hb, F0, hs, e⟩
theorem FW.mono {F' : Nat → Prop} (h : FW w F g S last) (hF : ∀ i, i < w.heap.size → F i → F' i) : FW w F' g S last := by
  obtain ⟨b, D, m, h1, h2, h3, h4⟩ := h
  exact ⟨b, D, m, { h1 with fg := hF _ h1.obj.lt h1.fg, fb := hF _ h4.lt h1.fb, fr := fun i r e => by obtain ⟨x, _, hx⟩ := h1.mr e; exact hF _ hx.lt (h1.fr i r e) }, h2, h3, h4⟩
theorem FW.nd (h : FW w F g S last) : (ids S).Nodup := by obtain ⟨b, D, m, h1, _⟩ := h; exact h1.nd
theorem FW.lt (h : FW w F g S last) : g < w.heap.size := by obtain ⟨b, D, m, h1, _⟩ := h; exact h1.obj.lt
theorem FW.ok (h : FW w F g S last) : ∀ p ∈ S, OkWt p.2 := by obtain ⟨b, D, m, h1, _⟩ := h; exact h1.ok
theorem FW.low (h : FW w F g S last) : ∀ id ∈ ids S, 1 ≤ id ∧ id ≤ last := by obtain ⟨b, D, m, h1, _⟩ := h; exact h1.low
theorem look (ha : PAg D m) {n : Nat} (ho : w.ownsMap Try.prog 23 ptrR b n D) {o : Nat} (hk : okU o) : (Instr.lookup 61 (.map (some b)) (.int .u64 (o : Nat)) false).run Try.prog w = .ok (ptrV (m o)) w := by
  obtain ⟨v, ps, hr, hv⟩ := ho.lookup keyedU Try.underlying61 (zero_ptr w) (ptrR_mk none) (key_u hk)
  obtain ⟨q, rfl, hq⟩ := ptrR_inv hv
  have h3 : ptrD (m o) = ptrD q := (ha.at_ o).symm.trans (congrArg Prod.fst hq)
  rw [ptrD_inj h3]
  exact hr
end
end Fee
end Go.Proofs.Ytlbfjdpcnnplnaa
