/- Package staged: a yard in memory; New, none, Waits, Thrown. -/
import Derived.Test.YtbmabfnjjflbnaaYdPut
import Derived.WalkSpells
namespace Go.Proofs.Ytbmabfnjjflbnaa
namespace Yd
open Go.ChangeShapes Go.WideShapes Go.ChangeAt Go.RowKit Go.Maps
open Num Mem Words Chacha Aead Poly Quiet RowV

theorem keyedI : Maps.Keyed Try.prog 3 := int_keyed Try.underlying3
theorem zero_ptr (w : World) : (zeroValue 63).run Try.prog w = .ok (ptrV none) w := by kernel_rfl
def okI (o : Int) : Prop := (Lit.int .i64 o).wf = true
theorem key_int {o : Int} (h : okI o) : keyOf Try.prog 3 (.int .i64 o) = some (keyO o) := keyOf_int_mk Try.underlying3 h

/-- what a yard's calls leave alone: what lies below B, and cells of other types -/
def Foreign (B : Nat) (w : World) (i : Nat) : Prop := i < B ∨ ∃ cs t fz, w.heap[i]? = some (.cells cs t fz) ∧ t ≠ 66 ∧ t ≠ 41
structure Yk (B : Nat) (w w' : World) : Prop where
  os : w'.os = w.os
  tape : w'.tape = w.tape
  output : w'.output = w.output
  size : w.heap.size ≤ w'.heap.size
  block : ∀ i, i < w.heap.size → Foreign B w i → w'.heap[i]? = w.heap[i]?
theorem Yk.refl (B : Nat) (w : World) : Yk B w w := ⟨rfl, rfl, rfl, Nat.le_refl _, fun _ _ _ => rfl⟩
theorem Yk.trans {B : Nat} {x y z : World} (h : Yk B x y) (k : Yk B y z) : Yk B x z := by
  refine ⟨k.os.trans h.os, k.tape.trans h.tape, k.output.trans h.output, Nat.le_trans h.size k.size, fun i hi hf => ?_⟩
  have e := h.block i hi hf
  refine (k.block i (Nat.lt_of_lt_of_le hi h.size) ?_).trans e
  rcases hf with hf | ⟨cs, t, fz, h1, h2⟩
  · exact .inl hf
  · exact .inr ⟨cs, t, fz, e.trans h1, h2⟩
theorem Yk.of_below {B : Nat} {w w' : World} (h : Below w.heap.size w w') : Yk B w w' := ⟨h.os, h.tape, h.output, h.size, fun i hi _ => h.block i hi⟩
theorem Yk.below {B : Nat} {w w' : World} (h : Yk B w w') (hB : B ≤ w.heap.size) : Below B w w' := ⟨h.os, h.tape, h.output, h.size, fun i hi => h.block i (Nat.lt_of_lt_of_le hi hB) (.inl hi)⟩
theorem Yk.drew {B : Nat} {w w' : World} (h : Yk B w w') : Yk B w w'.drew := ⟨h.os, h.tape, h.output, h.size, h.block⟩
theorem Yk.whole {B : Nat} {w w' : World} (h : Yk B w w') {i : Nat} {t : TypeId} {cs : Array Value} (hw : Whole w i t cs) (h1 : t ≠ 66) (h2 : t ≠ 41) : Whole w' i t cs := (h.block i hw.lt (.inr ⟨cs, t, (0, 0), hw, h1, h2⟩)).trans hw
theorem Yk.kpb {B : Nat} {w w' : World} (h : Yk B w w') : KpB w w' := fun _ _ e => h.whole e (by decide) (by decide)
theorem Yk.cells {B g : Nat} {w w' : World} {t : TypeId} {cs : Array Value} (h : w.grownBy w' (some g)) (hw : Whole w g t cs) (hB : B ≤ g) (ht : t = 66 ∨ t = 41) : Yk B w w' := by
  refine ⟨h.os, h.tape, h.output, h.size, fun i hi hf => h.block i hi fun e => ?_⟩
  injection e with e
  subst e
  rcases hf with hf | ⟨ds, u, fz, h1, h2, h3⟩
  · omega
  · have e := hw.symm.trans h1
    injection e with e
    injection e with _ e
    rcases ht with ht | ht
    · exact h2 (e ▸ ht)
    · exact h3 (e ▸ ht)
theorem Yk.map {B b : Nat} {w w' : World} {k : TypeId} {R : Value → Option (DataW Unit × List MemPlace)} {n : Nat} {D : DataW Unit} (h : w.grownBy w' (some b)) (hw : w.ownsMap Try.prog k R b n D) (hB : B ≤ b) : Yk B w w' := by
  refine ⟨h.os, h.tape, h.output, h.size, fun i hi hf => h.block i hi fun e => ?_⟩
  injection e with e
  subst e
  obtain ⟨es, clock, hb, _⟩ := hw
  rcases hf with hf | ⟨ds, u, fz, h1, h2, h3⟩
  · omega
  · rw [h1] at hb
    cases hb

/-- a yard in memory -/
structure YM (w : World) (B g b : Nat) (Y : Int → List Pk) (last thrown : Nat) (N : Nat) (D : DataW Unit) (m : Int → Option Nat) : Prop where
  obj : Whole w g 41 #[.map (some b), .int .u64 last, .int .u64 thrown]
  own : w.ownsMap Try.prog 3 ptrR b N D
  ag : PAg D m
  ring : ∀ o r, m o = some r → RingW w r (Y o) ∧ B ≤ r
  inj : ∀ o o' r, m o = some r → m o' = some r → o = o'
  dom : ∀ o, Y o ≠ [] → 1 ≤ o ∧ o ≤ 16
  bg : B ≤ g
  bb : B ≤ b
/-- who has no ring has no packets -/
def Fits (m : Int → Option Nat) (Y : Int → List Pk) : Prop := ∀ o, (m o).isSome = true ↔ Y o ≠ []
def YW (w : World) (B g b : Nat) (Y : Int → List Pk) (last thrown : Nat) : Prop := ∃ D m, YM w B g b Y last thrown last D m ∧ Fits m Y

section
variable {w w' : World} {B g b last thrown N : Nat} {Y : Int → List Pk} {D : DataW Unit} {m : Int → Option Nat}
theorem YM.ne (h : YM w B g b Y last thrown N D m) : b ≠ g := by
  intro e
  obtain ⟨es, clock, hb, _⟩ := h.own
  have := h.obj
  unfold Whole at this
  rw [e, this] at hb
  cases hb
theorem Fits.none_ (h : Fits m Y) {o : Int} (hm : m o = none) : Y o = [] := by
  rcases hy : Y o with _ | ⟨x, L⟩
  · rfl
  · have := (h o).2 (by rw [hy]; simp)
    rw [hm] at this
    cases this
theorem YW.few (h : YW w B g b Y last thrown) (o : Int) : (Y o).length ≤ 8 := by
  obtain ⟨D, m, h, hf⟩ := h
  rcases hm : m o with _ | r
  · rw [hf.none_ hm]; exact Nat.zero_le _
  · obtain ⟨⟨cs, p, hr⟩, _⟩ := h.ring o r hm
    exact hr.few
theorem YM.below (h : YM w B g b Y last thrown N D m) (hb : Below w.heap.size w w') : YM w' B g b Y last thrown N D m :=
  ⟨h.obj.below hb h.obj.lt, h.own.kept (row := none) ⟨hb.os, hb.tape, hb.output, hb.size, fun i hi _ => hb.block i hi⟩ (by simp), h.ag, fun o r hm => ⟨(h.ring o r hm).1.below hb, (h.ring o r hm).2⟩, h.inj, h.dom, h.bg, h.bb⟩
theorem YW.below (h : YW w B g b Y last thrown) (hb : Below w.heap.size w w') : YW w' B g b Y last thrown := by
  obtain ⟨D, m, h, hf⟩ := h
  exact ⟨D, m, h.below hb, hf⟩
theorem YM.look (h : YM w B g b Y last thrown N D m) {o : Int} (ho : okI o) : (Instr.lookup 39 (.map (some b)) (.int .i64 o) false).run Try.prog w = .ok (ptrV (m o)) w := by
  obtain ⟨v, ps, hr, hv⟩ := h.own.lookup keyedI Try.underlying39 (zero_ptr w) (ptrR_mk none) (key_int ho)
  obtain ⟨q, rfl, hq⟩ := ptrR_inv hv
  rw [h.ag.at_] at hq
  injection hq with hq
  rw [ptrD_inj hq]
  exact hr
theorem YM.count (h : YM w B g b Y last thrown N D m) {o : Int} {r : Nat} (hm : m o = some r) : w.cell? ⟨r, 17, none⟩ = some (.int .i64 ((Y o).length : Nat)) := by
  obtain ⟨⟨cs, p, hr⟩, _⟩ := h.ring o r hm
  rw [hr.blk.cell, List.getElem?_toArray]
  exact hr.at17
end

set_option maxRecDepth 100000 in
theorem none_nil (w : World) : Calls Try.prog 22 #[.pointer none] w fun e w' => e = .returned (.bool true) ∧ w = w' := by
  go_enter Try.func22, Try.ntmps22
  go_wp2_with fail
  go_ret
  exact ⟨rfl, rfl⟩
set_option maxRecDepth 100000 in
theorem none_zero (g : Nat) (x y : Value) (w : World) (h : Whole w g 41 #[.map none, x, y]) : Calls Try.prog 22 #[.pointer (some ⟨g, 0, none⟩)] w fun e w' => e = .returned (.bool true) ∧ w = w' := by
  have c0 : w.cell? ⟨g, 0, none⟩ = some (.map none) := h.cell 0
  have hm := run_eql_map_nil (P := Try.prog) w 39 _ _ none Try.underlying39
  clear h
  go_enter Try.func22, Try.ntmps22
  go_wp2_with fail
  go_ret
  exact ⟨rfl, rfl⟩
set_option maxRecDepth 100000 in
theorem none_some (g b : Nat) (x y : Value) (w : World) (h : Whole w g 41 #[.map (some b), x, y]) : Calls Try.prog 22 #[.pointer (some ⟨g, 0, none⟩)] w fun e w' => e = .returned (.bool false) ∧ w = w' := by
  have c0 : w.cell? ⟨g, 0, none⟩ = some (.map (some b)) := h.cell 0
  have hm := run_eql_map_nil (P := Try.prog) w 39 _ _ (some b) Try.underlying39
  clear h
  go_enter Try.func22, Try.ntmps22
  go_wp2_with fail
  go_ret
  exact ⟨rfl, rfl⟩

set_option maxRecDepth 100000 in
theorem new_any (w : World) : Calls Try.prog 8 #[] w fun e w' => ∃ g b, e = .returned (.pointer (some ⟨g, 0, none⟩)) ∧ Below w.heap.size w w' ∧ YW w' w.heap.size g b (fun _ => []) 0 0 := by
  have hmm := @run_makeMap Try.prog
  go_enter Try.func8, Try.ntmps8
  go_wp2_with fail
  go_ret
  have hown : ((w.alloc (.map #[] 0)).alloc (.cells #[.map (some w.heap.size), .int .u64 0, .int .u64 0] 41)).ownsMap Try.prog 3 ptrR w.heap.size 0 (.map []) := (World.ownsMap_made w Try.prog 3 ptrR).alloc _
  exact ⟨w.heap.size + 1, w.heap.size, rfl, below_alloc (below_alloc (Below.refl _ _) _) _, .map [], fun _ => none, ⟨whole_new _ _ (by simp), hown, pag_empty, (by intro o r h; cases h), (by intro o o' r h; cases h), (by intro o h; exact absurd rfl h), Nat.le_succ _, Nat.le_refl _⟩, fun o => by simp⟩

set_option maxRecDepth 100000 in
theorem waits_nil (o : Int) (w : World) : Calls Try.prog 11 #[.pointer none, .int .i64 o] w fun e w' => e = .returned (.int .i64 0) ∧ w = w' := by
  have HN := Lib.hid (none_nil w)
  go_enter Try.func11, Try.ntmps11
  go_wp2_with fail
  refine HN.out.mono ?_
  rintro e w1 ⟨rfl, rfl⟩
  go_wp2_with fail
  go_ret
  exact ⟨rfl, rfl⟩
set_option maxRecDepth 100000 in
theorem waits_zero (g : Nat) (x y : Value) (o : Int) (w : World) (h : Whole w g 41 #[.map none, x, y]) : Calls Try.prog 11 #[.pointer (some ⟨g, 0, none⟩), .int .i64 o] w fun e w' => e = .returned (.int .i64 0) ∧ w = w' := by
  have HN := Lib.hid (none_zero g x y w h)
  clear h
  go_enter Try.func11, Try.ntmps11
  go_wp2_with fail
  refine HN.out.mono ?_
  rintro e w1 ⟨rfl, rfl⟩
  go_wp2_with fail
  go_ret
  exact ⟨rfl, rfl⟩
set_option maxRecDepth 100000 in
theorem waits_any {w : World} {B g b last thrown : Nat} {Y : Int → List Pk} (o : Int) (ho : okI o) (h : YW w B g b Y last thrown) : Calls Try.prog 11 #[.pointer (some ⟨g, 0, none⟩), .int .i64 o] w fun e w' => e = .returned (.int .i64 ((Y o).length : Nat)) ∧ w = w' := by
  obtain ⟨D, m, h, hf⟩ := h
  have HN := Lib.hid (none_some g b _ _ w h.obj)
  have c0 : w.cell? ⟨g, 0, none⟩ = some (.map (some b)) := h.obj.cell 0
  have hlk := h.look ho
  rcases hm : m o with _ | r
  · rw [hm] at hlk
    rw [hf.none_ hm]
    replace hlk : (Instr.lookup 39 (.map (some b)) (.int .i64 o) false).run Try.prog w = .ok (.pointer none) w := hlk
    clear h hm hf
    go_enter Try.func11, Try.ntmps11
    go_wp2_with fail
    refine HN.out.mono ?_
    rintro e w1 ⟨rfl, rfl⟩
    go_wp2_with fail
    go_ret
    exact ⟨rfl, rfl⟩
  · rw [hm] at hlk
    replace hlk : (Instr.lookup 39 (.map (some b)) (.int .i64 o) false).run Try.prog w = .ok (.pointer (some ⟨r, 0, none⟩)) w := hlk
    have c17 := h.count hm
    generalize (Y o).length = n at c17 ⊢
    clear h hm hf
    go_enter Try.func11, Try.ntmps11
    go_wp2_with fail
    refine HN.out.mono ?_
    rintro e w1 ⟨rfl, rfl⟩
    go_wp2_with fail
    go_ret
    exact ⟨rfl, rfl⟩
set_option maxRecDepth 100000 in
theorem thrown_nil (w : World) : Calls Try.prog 14 #[.pointer none] w fun e w' => e = .returned (.int .u64 0) ∧ w = w' := by
  have HN := Lib.hid (none_nil w)
  go_enter Try.func14, Try.ntmps14
  go_wp2_with fail
  refine HN.out.mono ?_
  rintro e w1 ⟨rfl, rfl⟩
  go_wp2_with fail
  go_ret
  exact ⟨rfl, rfl⟩
set_option maxRecDepth 100000 in
theorem thrown_zero (g : Nat) (x y : Value) (w : World) (h : Whole w g 41 #[.map none, x, y]) : Calls Try.prog 14 #[.pointer (some ⟨g, 0, none⟩)] w fun e w' => e = .returned (.int .u64 0) ∧ w = w' := by
  have HN := Lib.hid (none_zero g x y w h)
  clear h
  go_enter Try.func14, Try.ntmps14
  go_wp2_with fail
  refine HN.out.mono ?_
  rintro e w1 ⟨rfl, rfl⟩
  go_wp2_with fail
  go_ret
  exact ⟨rfl, rfl⟩
set_option maxRecDepth 100000 in
theorem thrown_any {w : World} {B g b last thrown : Nat} {Y : Int → List Pk} (h : YW w B g b Y last thrown) : Calls Try.prog 14 #[.pointer (some ⟨g, 0, none⟩)] w fun e w' => e = .returned (.int .u64 (thrown : Nat)) ∧ w = w' := by
  obtain ⟨D, m, h, hf⟩ := h
  have HN := Lib.hid (none_some g b _ _ w h.obj)
  have c2 : w.cell? ⟨g, 2, none⟩ = some (.int .u64 (thrown : Nat)) := h.obj.cell 2
  clear h hf
  go_enter Try.func14, Try.ntmps14
  go_wp2_with fail
  refine HN.out.mono ?_
  rintro e w1 ⟨rfl, rfl⟩
  go_wp2_with fail
  go_ret
  exact ⟨rfl, rfl⟩
end Yd
end Go.Proofs.Ytbmabfnjjflbnaa
