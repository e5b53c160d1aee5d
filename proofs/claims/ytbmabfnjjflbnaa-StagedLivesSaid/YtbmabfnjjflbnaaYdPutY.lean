/- Package staged: Put. -/
import Derived.Test.YtbmabfnjjflbnaaYdYard
namespace Go.Proofs.Ytbmabfnjjflbnaa
namespace Yd
open Go.ChangeShapes Go.WideShapes Go.ChangeAt Go.RowKit Go.Maps
open Num Mem Words Chacha Aead Poly Quiet RowV

/-- of the old blocks only g and r have turned -/
structure Tw (g r : Nat) (w w' : World) : Prop where
  os : w'.os = w.os
  tape : w'.tape = w.tape
  output : w'.output = w.output
  size : w.heap.size ≤ w'.heap.size
  block : ∀ i, i < w.heap.size → i ≠ g → i ≠ r → w'.heap[i]? = w.heap[i]?
theorem Tw.refl (g r : Nat) (w : World) : Tw g r w w := ⟨rfl, rfl, rfl, Nat.le_refl _, fun _ _ _ _ => rfl⟩
theorem Tw.trans {g r : Nat} {x y z : World} (h : Tw g r x y) (k : Tw g r y z) : Tw g r x z :=
  ⟨k.os.trans h.os, k.tape.trans h.tape, k.output.trans h.output, Nat.le_trans h.size k.size, fun i hi h1 h2 => (k.block i (Nat.lt_of_lt_of_le hi h.size) h1 h2).trans (h.block i hi h1 h2)⟩
theorem Tw.below {g r : Nat} {w w' : World} (h : Below w.heap.size w w') : Tw g r w w' := ⟨h.os, h.tape, h.output, h.size, fun i hi _ _ => h.block i hi⟩
theorem Tw.grown {g r : Nat} {w w' : World} (h : w.grownBy w' (some r)) : Tw g r w w' := ⟨h.os, h.tape, h.output, h.size, fun i hi _ h2 => h.block i hi (fun e => h2 (Option.some.inj e))⟩
theorem Tw.grown1 {g r : Nat} {w w' : World} (h : w.grownBy w' (some g)) : Tw g r w w' := ⟨h.os, h.tape, h.output, h.size, fun i hi h1 _ => h.block i hi (fun e => h1 (Option.some.inj e))⟩
theorem Tw.drew {g r : Nat} {w w' : World} (h : Tw g r w w') : Tw g r w w'.drew := ⟨h.os, h.tape, h.output, h.size, h.block⟩
theorem Tw.whole {g r i : Nat} {w w' : World} {t : TypeId} {cs : Array Value} (h : Tw g r w w') (hw : Whole w i t cs) (h1 : i ≠ g) (h2 : i ≠ r) : Whole w' i t cs := (h.block i hw.lt h1 h2).trans hw
theorem Tw.kpb {g r : Nat} {w w' : World} {t u : TypeId} {cs ds : Array Value} (h : Tw g r w w') (hg : Whole w g t cs) (hr : Whole w r u ds) (ht : t ≠ 5) (hu : u ≠ 5) : KpB w w' := fun i es e =>
  h.whole e (by intro k; subst k; exact ht (whole_type hg e)) (by intro k; subst k; exact hu (whole_type hr e))

theorem YM.tw {w w' : World} {B g b last thrown : Nat} {Y : Int → List Pk} {D : DataW Unit} {m : Int → Option Nat} {last' thrown' N N' : Nat} (h : YM w B g b Y last thrown N D m) {o : Int} {r : Nat} (hm : m o = some r) (ht : Tw g r w w') (hobj : Whole w' g 41 #[.map (some b), .int .u64 last', .int .u64 thrown'])
    {L : List Pk} (hring : RingW w' r L) (ho : 1 ≤ o ∧ o ≤ 16) (hle : N ≤ N') : YM w' B g b (upd Y o L) last' thrown' N' D m := by
  obtain ⟨⟨cs, p, hr⟩, hB⟩ := h.ring o r hm
  have hk : KpB w w' := ht.kpb h.obj hr.blk (by decide) (by decide)
  have hbr : b ≠ r := by
    intro e
    obtain ⟨es, clock, hb, _⟩ := h.own
    have := hr.blk
    unfold Whole at this
    rw [e, this] at hb
    cases hb
  refine ⟨hobj, ?_, h.ag, fun o' r' hm' => ?_, h.inj, fun o' ho' => ?_, h.bg, h.bb⟩
  · have hlt := h.own.lt
    obtain ⟨es, clock, hb, hF, hs, hD⟩ := h.own
    exact ⟨es, clock, (ht.block b hlt h.ne hbr).trans hb, hF, Nat.le_trans hs hle, hD⟩
  · by_cases e : o' = o
    · subst e
      rw [hm] at hm'
      injection hm' with hm'
      subst hm'
      rw [upd_same]
      exact ⟨hring, hB⟩
    · rw [upd_other _ _ e]
      obtain ⟨⟨ds, q, hr'⟩, hB'⟩ := h.ring o' r' hm'
      have h1 : r' ≠ g := by intro k; subst k; exact absurd (whole_type h.obj hr'.blk) (by decide)
      have h2 : r' ≠ r := by intro k; subst k; exact e (h.inj _ _ _ hm' hm)
      exact ⟨⟨ds, q, hr'.keep hk (ht.whole hr'.blk h1 h2)⟩, hB'⟩
  · by_cases e : o' = o
    · subst e; exact ho
    · rw [upd_other _ _ e] at ho'
      exact h.dom o' ho'
theorem Yk.tw {w w' : World} {B g b last thrown N : Nat} {Y : Int → List Pk} {D : DataW Unit} {m : Int → Option Nat} (h : YM w B g b Y last thrown N D m) {o : Int} {r : Nat} (hm : m o = some r) (ht : Tw g r w w') : Yk B w w' := by
  obtain ⟨⟨cs, p, hr⟩, hB⟩ := h.ring o r hm
  refine ⟨ht.os, ht.tape, ht.output, ht.size, fun i hi hf => ht.block i hi ?_ ?_⟩
  · rintro rfl
    rcases hf with hf | ⟨ds, u, fz, h1, h2, h3⟩
    · have := h.bg; omega
    · have e := h.obj.symm.trans h1
      injection e with e
      injection e with _ e
      exact h3 e.symm
  · rintro rfl
    rcases hf with hf | ⟨ds, u, fz, h1, h2, h3⟩
    · omega
    · have e := hr.blk.symm.trans h1
      injection e with e
      injection e with _ e
      exact h2 e.symm

def zeroRing : List Value := [.int .u64 0, .slice none 0 0, .int .u64 0, .slice none 0 0, .int .u64 0, .slice none 0 0, .int .u64 0, .slice none 0 0, .int .u64 0, .slice none 0 0, .int .u64 0, .slice none 0 0, .int .u64 0, .slice none 0 0, .int .u64 0, .slice none 0 0, .int .i64 0, .int .i64 0]
theorem ring_built0 : Try.prog.built 66 [] = some zeroRing.toArray := by kernel_rfl
theorem ring_zero {w : World} {r : Nat} (h : Whole w r 66 zeroRing.toArray) : RingC w r [] zeroRing 0 := ⟨h, rfl, by omega, Nat.zero_le _, rfl, rfl, fun i x hx => by simp at hx⟩
theorem wpList_built0 {P : Program} {ops : Array Oper} {rest : List Oper} {o : Oper} {a : Act} {w : World} {Q : Exit → Act → World → Prop} (hg : o.guard = none) (t : TypeId) (ho : o.op = .build t #[])
    (vs : Array Value) (hb : P.built t [] = some vs) (h : wpList P ops Q rest (a.put o.dst (.agg vs)) w) : wpList P ops Q (o :: rest) a w := by
  have e : P.built t ((#[] : Array (Nat × Operand)).map fun (i, x) => (i, a.eval x)).toList = some vs := by simpa using hb
  refine wpList_build hg t #[] ho (by rw [e]; rfl) ?_
  rw [e]
  exact h
/-- what a ring has behind a packet more -/
def pushP (L : List Pk) (x : Pk) : List Pk := if L.length = 8 then L.tail ++ [x] else L ++ [x]

set_option maxRecDepth 100000 in
theorem put_nil (o : Int) (A : Option Addr) (n c : Nat) (w : World) : Calls Try.prog 15 #[.pointer none, .int .i64 o, .slice A n c] w fun e w' => e = .returned (.tuple #[.int .u64 0, .bool false, .int .i64 6]) ∧ w = w' := by
  have HN := Lib.hid (none_nil w)
  go_enter Try.func15, Try.ntmps15
  go_wp2_with fail
  refine HN.out.mono ?_
  rintro e w1 ⟨rfl, rfl⟩
  go_wp2_with fail
  go_ret3
  exact ⟨rfl, rfl⟩
set_option maxRecDepth 100000 in
theorem put_zero (g : Nat) (x y : Value) (o : Int) (A : Option Addr) (n c : Nat) (w : World) (h : Whole w g 41 #[.map none, x, y]) : Calls Try.prog 15 #[.pointer (some ⟨g, 0, none⟩), .int .i64 o, .slice A n c] w fun e w' => e = .returned (.tuple #[.int .u64 0, .bool false, .int .i64 6]) ∧ w = w' := by
  have HN := Lib.hid (none_zero g x y w h)
  clear h
  go_enter Try.func15, Try.ntmps15
  go_wp2_with fail
  refine HN.out.mono ?_
  rintro e w1 ⟨rfl, rfl⟩
  go_wp2_with fail
  go_ret3
  exact ⟨rfl, rfl⟩
set_option maxRecDepth 100000 in
theorem put_low (g b : Nat) (x y : Value) (o : Int) (A : Option Addr) (n c : Nat) (w : World) (h : Whole w g 41 #[.map (some b), x, y]) (ho : o < 1) : Calls Try.prog 15 #[.pointer (some ⟨g, 0, none⟩), .int .i64 o, .slice A n c] w fun e w' => e = .returned (.tuple #[.int .u64 0, .bool false, .int .i64 1]) ∧ w = w' := by
  have HN := Lib.hid (none_some g b x y w h)
  clear h
  go_enter Try.func15, Try.ntmps15
  go_wp2_with fail
  refine HN.out.mono ?_
  rintro e w1 ⟨rfl, rfl⟩
  go_wp2_with fail
  go_ret3
  exact ⟨rfl, rfl⟩
set_option maxRecDepth 100000 in
theorem put_high (g b : Nat) (x y : Value) (o : Int) (A : Option Addr) (n c : Nat) (w : World) (h : Whole w g 41 #[.map (some b), x, y]) (ho : 16 < o) : Calls Try.prog 15 #[.pointer (some ⟨g, 0, none⟩), .int .i64 o, .slice A n c] w fun e w' => e = .returned (.tuple #[.int .u64 0, .bool false, .int .i64 1]) ∧ w = w' := by
  have HN := Lib.hid (none_some g b x y w h)
  have h1 : decide (o < 1) = false := decide_eq_false (by omega)
  have h2 : decide (16 < o) = true := decide_eq_true ho
  clear h
  go_enter Try.func15, Try.ntmps15
  go_wp2_with fail
  refine HN.out.mono ?_
  rintro e w1 ⟨rfl, rfl⟩
  go_wp2_with fail
  go_ret3
  exact ⟨rfl, rfl⟩
set_option maxRecDepth 100000 in
theorem put_long (g b : Nat) (x y : Value) (o : Int) (A : Option Addr) (n c : Nat) (w : World) (h : Whole w g 41 #[.map (some b), x, y]) (ho : 1 ≤ o) (ho2 : o ≤ 16) (hn : 1500 < n) : Calls Try.prog 15 #[.pointer (some ⟨g, 0, none⟩), .int .i64 o, .slice A n c] w fun e w' => e = .returned (.tuple #[.int .u64 0, .bool false, .int .i64 2]) ∧ w = w' := by
  have HN := Lib.hid (none_some g b x y w h)
  have h1 : decide (o < 1) = false := decide_eq_false (by omega)
  have h2 : decide (16 < o) = false := decide_eq_false (by omega)
  clear h
  go_enter Try.func15, Try.ntmps15
  go_wp2_with fail
  refine HN.out.mono ?_
  rintro e w1 ⟨rfl, rfl⟩
  go_wp2_with fail
  go_ret3
  exact ⟨rfl, rfl⟩

theorem run_built2 {P : Program} {o : Oper} {a : Act} {w : World} (t : TypeId) (k m : Nat) (x y : Operand) (ho : o.op = .build t #[(k, x), (m, y)])
    (v u : Value) (hx : a.eval x = v) (hy : a.eval y = u) (vs : Array Value) (hb : P.built t [(k, v), (m, u)] = some vs) : (execOp a.eval o).run P w = .ok (.value (.agg vs)) w := by
  have e : P.built t ((#[(k, x), (m, y)] : Array (Nat × Operand)).map fun (i, x) => (i, a.eval x)).toList = some vs := by simpa [hx, hy] using hb
  unfold execOp
  simp only [ho, Sem.run_bind, run_build w t _ vs e, Result.andThen_ok, Sem.run_pure]
theorem pk_built (a n : Nat) (k : Nat) : Try.prog.built 46 [(0, .int .u64 (k : Nat)), (1, .slice (some ⟨a, 0, none⟩) n n)] = some #[.int .u64 (k : Nat), .slice (some ⟨a, 0, none⟩) n n] := by kernel_rfl
structure PutW (w : World) (g b : Nat) (last thrown : Nat) (r : Nat) (L : List Pk) (A : Option Addr) (n : Nat) (f : Nat → Nat) (X : World) : Prop where
  obj : Whole X g 41 #[.map (some b), .int .u64 last, .int .u64 thrown]
  ring : RingW X r L
  rd : Rd X A n f
  tw : Tw g r w X

theorem Foreign.ne {B : Nat} {w : World} {i j : Nat} {t : TypeId} {cs : Array Value} (h : Foreign B w i) (hw : Whole w j t cs) (hB : B ≤ j) (ht : t = 66 ∨ t = 41) : i ≠ j := by
  rintro rfl
  rcases h with h | ⟨ds, u, fz, h1, h2, h3⟩
  · omega
  · have e := hw.symm.trans h1
    injection e with e
    injection e with _ e
    rcases ht with ht | ht
    · exact h2 (e ▸ ht)
    · exact h3 (e ▸ ht)
theorem Rd.tw {w w' : World} {A : Option Addr} {n : Nat} {f : Nat → Nat} {g r : Nat} (h : Rd w A n f) (ht : Tw g r w w') (hg : ∀ a, A = some a → n ≠ 0 → a.block ≠ g ∧ a.block ≠ r) : Rd w' A n f := by
  rcases h with h0 | ⟨b, off, rfl, hlt, hx⟩
  · exact .inl h0
  · rcases Nat.eq_zero_or_pos n with h0 | h0
    · exact .inl h0
    · refine .inr ⟨b, off, rfl, Nat.lt_of_lt_of_le hlt ht.size, fun i hi => ?_⟩
      have hne := hg _ rfl (by omega)
      have e : w'.cell? ⟨b, off + i, none⟩ = w.cell? ⟨b, off + i, none⟩ := by
        unfold World.cell?
        rw [ht.block b hlt hne.1 hne.2]
      rw [e]
      exact hx i hi

set_option maxRecDepth 100000 in
set_option maxHeartbeats 1000000 in
theorem put_room {w : World} {B g b last thrown : Nat} {Y : Int → List Pk} {D : DataW Unit} {m : Int → Option Nat} (h : YM w B g b Y last thrown last D m) (o : Int) (r : Nat) (hm : m o = some r) (hfew : (Y o).length < 8) (hok : okI o) (ho : 1 ≤ o) (ho2 : o ≤ 16) (A : Option Addr) (n c : Nat) (f : Nat → Nat) (av : Nat) (hav : av < w.heap.size) (hf : ∀ i, f i < 256) (hn : n ≤ 1500) (hl : last < 1000000)
    (hrd : Rd w A n f) (hag : ∀ a, A = some a → n ≠ 0 → Foreign B w a.block) : Calls Try.prog 15 #[.pointer (some ⟨g, 0, none⟩), .int .i64 o, .slice A n c] w fun e w' => e = .returned (.tuple #[.int .u64 (last + 1 : Nat), .bool false, .int .i64 0]) ∧ YM w' B g b (upd Y o (Y o ++ [⟨last + 1, n, f, av⟩])) (last + 1) thrown (last + 1) D m ∧ Yk B w w' := by
  have HAV := Lib.hid hav
  clear hav
  have HN := Lib.hid (none_some g b _ _ w h.obj)
  have h1 : decide (o < 1) = false := decide_eq_false (by omega)
  have h2 : decide (16 < o) = false := decide_eq_false (by omega)
  have h3 : decide (1500 < (n : Int)) = false := decide_eq_false (by omega)
  have c0 : w.cell? ⟨g, 0, none⟩ = some (.map (some b)) := h.obj.cell 0
  have hlk := h.look hok
  rw [hm] at hlk
  replace hlk : (Instr.lookup 39 (.map (some b)) (.int .i64 o) false).run Try.prog w = .ok (.pointer (some ⟨r, 0, none⟩)) w := hlk
  have c17 := h.count hm
  have hlen8 : (((Y o).length : Int) == 8) = false := by rw [beq_eq_false_iff_ne]; omega
  have hlen8' : (((Y o).length : Int) = 8) = False := eq_false (by omega)
  have H := Lib.hid h
  have HM := Lib.hid hm
  have HRD := Lib.hid hrd
  have hring := (h.ring o r hm).1
  have HRG := Lib.hid hring
  obtain ⟨L, hL⟩ : ∃ L, Y o = L := ⟨_, rfl⟩
  have HL := Lib.hid hL
  rw [hL] at hfew hlen8 hlen8' c17 HRG ⊢
  have c1 : w.cell? ⟨g, 1, none⟩ = some (.int .u64 (last : Nat)) := h.obj.cell 1
  have f1 : w.frozen? ⟨g, 1, none⟩ = false := h.obj.free 1
  have hw1 : IntKind.u64.wrap ((last : Int) + 1) = (last : Int) + 1 := by rw [IntKind.wrap_u64]; omega
  have hrg : r ≠ g := by
    obtain ⟨cs, p, hr⟩ := hring
    intro k; subst k; exact absurd (whole_type h.obj hr.blk) (by decide)
  have HF := Lib.hid hf
  have HAG := Lib.hid (show ∀ a, A = some a → n ≠ 0 → a.block ≠ g ∧ a.block ≠ r from fun a ha h0 => by
    obtain ⟨cs, p, hr⟩ := hring
    exact ⟨(hag a ha h0).ne h.obj h.bg (.inr rfl), (hag a ha h0).ne hr.blk (h.ring o r hm).2 (.inl rfl)⟩)
  clear h hm hL hrd hf hring hag
  go_enter Try.func15, Try.ntmps15
  go_wp2_with fail
  refine HN.out.mono ?_
  rintro e w1 ⟨rfl, rfl⟩
  go_upto_region 16 with fail
  obtain ⟨k, hk⟩ : ∃ k, last + 1 = k := ⟨_, rfl⟩
  have hk2 : (last : Int) + 1 = (k : Int) := by omega
  rw [hk2]
  refine cut_world (fun X => PutW w g b k thrown r L A n f X) (by
    have hs := grown_set1 w g 1 (.int .u64 (k : Nat))
    refine ⟨H.out.obj.put 1 _, ?_, ?_, Tw.grown1 hs⟩
    · obtain ⟨cs, p, hr⟩ := HRG.out
      exact ⟨cs, p, hr.keep (KpB.grown hs H.out.obj (by decide)) (whole_grown hr.blk hs (Ne.symm hrg))⟩
    · exact Rd.tw HRD.out (Tw.grown1 (r := r) hs) HAG.out) ?_
  intro X hX
  have HX := Lib.hid hX
  clear hX c1 f1 hw1 HRG HRD hk2 c0 hlk c17 hlen8 hlen8' h1 h2 h3
  refine region_drew (fun X => Whole X g 41 #[.map (some b), .int .u64 (k : Nat), .int .u64 (thrown : Nat)]) (by kernel_rfl) HX.out.obj (fun hS => ?_)
  refine take 0 _ rfl (by kernel_rfl) (by kernel_rfl) (by kernel_rfl) (fun _ _ _ h => h) (by rfl) hS (by intro w _; go_simp; with_reducible rfl) ?_
  try simp only [Act.put, List.setIfInBounds_toArray, List.set_cons_zero, List.set_cons_succ]
  refine take 1 _ rfl (by kernel_rfl) (by kernel_rfl) (by kernel_rfl) (fun _ _ _ h => h) (by rfl) hS (by intro w _; go_simp; with_reducible rfl) ?_
  try simp only [Act.put, List.setIfInBounds_toArray, List.set_cons_zero, List.set_cons_succ]
  refine take 2 _ rfl (by kernel_rfl) (by kernel_rfl) (by kernel_rfl) (fun _ _ _ h => h) (by rfl) hS (by intro w _; go_simp; with_reducible rfl) ?_
  try simp only [Act.put, List.setIfInBounds_toArray, List.set_cons_zero, List.set_cons_succ]
  refine take 3 _ rfl (by kernel_rfl) (by kernel_rfl) (by kernel_rfl) (fun _ _ _ h => h) (by rfl) hS (by intro w _; go_simp; with_reducible rfl) ?_
  try simp only [Act.put, List.setIfInBounds_toArray, List.set_cons_zero, List.set_cons_succ]
  refine take 4 _ rfl (by kernel_rfl) (by kernel_rfl) (by kernel_rfl) (fun _ _ _ h => h) (by rfl) hS (by intro w hw; have hcl := Whole.cell hw 1; go_simp; with_reducible rfl) ?_
  try simp only [Act.put, List.setIfInBounds_toArray, List.set_cons_zero, List.set_cons_succ]
  refine take 5 _ rfl (by kernel_rfl) (by kernel_rfl) (by kernel_rfl) (fun _ _ _ h => h) (by rfl) hS (by intro w _; go_simp; with_reducible rfl) ?_
  try simp only [Act.put, List.setIfInBounds_toArray, List.set_cons_zero, List.set_cons_succ]
  refine alone 6 rfl (by kernel_rfl) (by rfl) ?_
  intro K hK
  go_simp
  refine (twin_any A n c f hn X.drew HX.out.rd).mono ?_
  rintro e X1 ⟨rfl, ht1, hb1⟩
  have hb1' : Below X.heap.size X X1 := ⟨hb1.os, hb1.tape, hb1.output, hb1.size, hb1.block⟩
  obtain ⟨a, ha⟩ : ∃ a, X.heap.size = a := ⟨_, rfl⟩
  have HT1 := Lib.hid (show Whole X1 a 5 (byteCells f n).toArray from ha ▸ ht1)
  have HB1 := Lib.hid hb1'
  clear ht1 hb1 hb1'
  rw [show X.drew.heap.size = a from ha]
  go_simp
  have hS := Whole.below HX.out.obj HB1.out HX.out.obj.lt
  refine hK.out _ _ hS ?_
  clear hK K
  try simp only [Act.put, List.setIfInBounds_toArray, List.set_cons_zero, List.set_cons_succ]
  refine take 7 (pkV a ⟨k, n, f, av⟩) rfl (by kernel_rfl) (by kernel_rfl) (by kernel_rfl) (fun _ _ _ h => h) (by rfl) hS (fun w hw => run_built2 46 0 1 (.tmp 67) (.tmp 69) rfl (.int .u64 (k : Nat)) (.slice (some ⟨a, 0, none⟩) n n) rfl rfl _ (pk_built a n k)) ?_
  try simp only [Act.put, List.setIfInBounds_toArray, List.set_cons_zero, List.set_cons_succ]
  obtain ⟨cs, p, hr1⟩ := HX.out.ring.below HB1.out
  refine alone 8 rfl (by kernel_rfl) (by rfl) ?_
  intro K hK
  go_simp
  refine (put_any r ⟨k, n, f, av⟩ L cs p a X1 hr1 hfew HF.out hn (by show k < _; omega) HT1.out (by have h1 := HX.out.tw.size; have h2 := HAV.out; show a ≠ av; omega)).mono ?_
  rintro e X2 ⟨rfl, hring2, hg2⟩
  have hS2 := whole_grown hS hg2 hrg
  go_simp
  refine hK.out _ _ hS2 ?_
  clear hK K hr1
  try simp only [Act.put]
  refine region_end (by kernel_rfl) ?_
  refine cut_post (F := Exit.then _ _) (fun Z => Whole Z g 41 #[.map (some b), .int .u64 (k : Nat), .int .u64 (thrown : Nat)] ∧ RingW Z r (L ++ [⟨k, n, f, av⟩]) ∧ Tw g r w Z) ⟨hS2, hring2, HX.out.tw.trans ((Tw.below HB1.out).trans (Tw.grown hg2))⟩ ?_
  clear hS hS2 hring2 hg2 HT1 HB1 HX ha
  rintro Z ⟨z1, z2, z3⟩
  have Z1 := Lib.hid z1
  have Z2 := Lib.hid z2
  have Z3 := Lib.hid z3
  have c1 : Z.cell? ⟨g, 1, none⟩ = some (.int .u64 (k : Nat)) := z1.cell 1
  clear z1 z2 z3
  go_wp2_with fail
  go_ret3
  rw [hk]
  refine ⟨rfl, H.out.tw HM.out Z3.out Z1.out Z2.out ⟨ho, ho2⟩ (by omega), Yk.tw H.out HM.out Z3.out⟩

theorem Foreign.yk {B : Nat} {w w' : World} {i : Nat} (h : Foreign B w i) (hy : Yk B w w') (hi : i < w.heap.size) : Foreign B w' i := by
  rcases h with h | ⟨cs, t, fz, h1, h2⟩
  · exact .inl h
  · exact .inr ⟨cs, t, fz, (hy.block i hi (.inr ⟨cs, t, fz, h1, h2⟩)).trans h1, h2⟩
theorem Rd.yk {B : Nat} {w w' : World} {A : Option Addr} {n : Nat} {f : Nat → Nat} (h : Rd w A n f) (hy : Yk B w w') (hag : ∀ a, A = some a → n ≠ 0 → Foreign B w a.block) : Rd w' A n f ∧ ∀ a, A = some a → n ≠ 0 → Foreign B w' a.block := by
  rcases h with h0 | ⟨b, off, rfl, hlt, hx⟩
  · exact ⟨.inl h0, fun a _ hn => absurd h0 hn⟩
  · rcases Nat.eq_zero_or_pos n with h0 | h0
    · exact ⟨.inl h0, fun a _ hn => absurd h0 hn⟩
    · have hf := hag _ rfl (by omega)
      refine ⟨.inr ⟨b, off, rfl, Nat.lt_of_lt_of_le hlt hy.size, fun i hi => ?_⟩, fun a ha _ => ?_⟩
      · have e : w'.cell? ⟨b, off + i, none⟩ = w.cell? ⟨b, off + i, none⟩ := by
          unfold World.cell?
          rw [hy.block b hlt hf]
        rw [e]
        exact hx i hi
      · injection ha with ha
        subst ha
        exact hf.yk hy hlt
theorem own_tight {w : World} {b n : Nat} {D : DataW Unit} {k : TypeId} (h : w.ownsMap Try.prog k ptrR b n D) : w.ownsMap Try.prog k ptrR b (Maps.size D) D := by
  obtain ⟨es, clock, hb, F, hs, rfl⟩ := h
  exact ⟨es, clock, hb, F, by rw [Maps.size_eq, length_sorted]; simp, rfl⟩
/-- a world on the way: the yard, what has turned, the bytes -/
structure OnW (w : World) (B g b : Nat) (Y : Int → List Pk) (last thrown N : Nat) (D : DataW Unit) (m : Int → Option Nat) (A : Option Addr) (n : Nat) (f : Nat → Nat) (X : World) : Prop where
  ym : YM X B g b Y last thrown N D m
  yk : Yk B w X
  rd : Rd X A n f
  ag : ∀ a, A = some a → n ≠ 0 → Foreign B X a.block
theorem OnW.of {w X : World} {B g b last thrown N : Nat} {Y : Int → List Pk} {D : DataW Unit} {m : Int → Option Nat} {A : Option Addr} {n : Nat} {f : Nat → Nat} (h : YM X B g b Y last thrown N D m) (hy : Yk B w X) (hrd : Rd w A n f) (hag : ∀ a, A = some a → n ≠ 0 → Foreign B w a.block) : OnW w B g b Y last thrown N D m A n f X :=
  ⟨h, hy, (Rd.yk hrd hy hag).1, (Rd.yk hrd hy hag).2⟩

set_option maxRecDepth 100000 in
set_option maxHeartbeats 1000000 in
theorem put_full {w : World} {B g b last thrown : Nat} {Y : Int → List Pk} {D : DataW Unit} {m : Int → Option Nat} (h : YM w B g b Y last thrown last D m) (o : Int) (r : Nat) (hm : m o = some r) (x : Pk) (L : List Pk) (hY : Y o = x :: L) (hL : L.length = 7) (hok : okI o) (ho : 1 ≤ o) (ho2 : o ≤ 16) (A : Option Addr) (n c : Nat) (f : Nat → Nat) (av : Nat) (hav : av < w.heap.size) (hf : ∀ i, f i < 256) (hn : n ≤ 1500) (hl : last < 1000000) (ht : thrown < 18446744073709551615)
    (hrd : Rd w A n f) (hag : ∀ a, A = some a → n ≠ 0 → Foreign B w a.block) : Calls Try.prog 15 #[.pointer (some ⟨g, 0, none⟩), .int .i64 o, .slice A n c] w fun e w' => e = .returned (.tuple #[.int .u64 (last + 1 : Nat), .bool true, .int .i64 0]) ∧ YM w' B g b (upd Y o (L ++ [⟨last + 1, n, f, av⟩])) (last + 1) (thrown + 1) (last + 1) D m ∧ Yk B w w' := by
  have HAV := Lib.hid hav
  clear hav
  have HN := Lib.hid (none_some g b _ _ w h.obj)
  have h1 : decide (o < 1) = false := decide_eq_false (by omega)
  have h2 : decide (16 < o) = false := decide_eq_false (by omega)
  have h3 : decide (1500 < (n : Int)) = false := decide_eq_false (by omega)
  have c0 : w.cell? ⟨g, 0, none⟩ = some (.map (some b)) := h.obj.cell 0
  have hlk := h.look hok
  rw [hm] at hlk
  replace hlk : (Instr.lookup 39 (.map (some b)) (.int .i64 o) false).run Try.prog w = .ok (.pointer (some ⟨r, 0, none⟩)) w := hlk
  have c17 : w.cell? ⟨r, 17, none⟩ = some (.int .i64 8) := by
    have := h.count hm
    rw [hY, List.length_cons, hL] at this
    exact this
  obtain ⟨⟨cs, p, hr0⟩, hBr⟩ := h.ring o r hm
  rw [hY] at hr0
  have HT := Lib.hid (take_any r x L cs p w hr0)
  have HF := Lib.hid hf
  have HH := Lib.hid (show YM w B g b Y last thrown last D m ∧ m o = some r ∧ Rd w A n f ∧ (∀ a, A = some a → n ≠ 0 → Foreign B w a.block) from ⟨h, hm, hrd, hag⟩)
  have hrg0 : r ≠ g := by intro k; subst k; exact absurd (whole_type h.obj hr0.blk) (by decide)
  clear h hrd hag hm hf hr0
  go_enter Try.func15, Try.ntmps15
  go_wp2_with fail
  refine HN.out.mono ?_
  rintro e w1 ⟨rfl, rfl⟩
  go_wp2_with fail
  refine HT.out.mono ?_
  rintro e w1 ⟨a0, rfl, -, hring1, hg1⟩
  have HR1 := Lib.hid hring1
  have HG1 := Lib.hid hg1
  have HO1 := Lib.hid (whole_grown HH.out.1.obj hg1 hrg0)
  have c2 : w1.cell? ⟨g, 2, none⟩ = some (.int .u64 (thrown : Nat)) := HO1.out.cell 2
  have f2 : w1.frozen? ⟨g, 2, none⟩ = false := HO1.out.free 2
  have hw2 : IntKind.u64.wrap ((thrown : Int) + 1) = (thrown : Int) + 1 := by rw [IntKind.wrap_u64]; omega
  clear hring1 hg1 c0 hlk c17 h1 h2 h3
  go_upto_region 15 with fail
  obtain ⟨k2, ht2⟩ : ∃ k, thrown + 1 = k := ⟨_, rfl⟩
  have hk3 : (thrown : Int) + 1 = (k2 : Int) := by omega
  rw [hk3]
  refine cut_world (fun X => OnW w B g b (upd Y o L) last k2 last D m A n f X) (by
    have hs := grown_set1 w1 g 2 (.int .u64 (k2 : Nat))
    have htw : Tw g r w (w1.setCell ⟨g, 2, none⟩ (.int .u64 (k2 : Nat))) := (Tw.grown HG1.out).trans (Tw.grown1 hs)
    obtain ⟨cs', p', hr'⟩ := HR1.out
    refine OnW.of (HH.out.1.tw HH.out.2.1 htw (HO1.out.put 2 _) ⟨cs', p', hr'.keep (KpB.grown hs HO1.out (by decide)) (whole_grown hr'.blk hs (Ne.symm hrg0))⟩ ⟨ho, ho2⟩ (Nat.le_refl _)) (Yk.tw HH.out.1 HH.out.2.1 htw) HH.out.2.2.1 HH.out.2.2.2) ?_
  have hm := HH.out.2.1
  clear HR1 HG1 HO1 c2 f2 hw2 hk3 HH hrg0 HT HN
  intro W hW
  have HW := Lib.hid hW
  obtain ⟨h, hyk, hrd, hag⟩ := hW
  have HY := Lib.hid hyk
  have HRD := Lib.hid hrd
  have hfew : L.length < 8 := by omega
  have H := Lib.hid h
  have HM := Lib.hid hm
  have hring := (h.ring o r hm).1
  have HRG := Lib.hid hring
  have c1 : W.cell? ⟨g, 1, none⟩ = some (.int .u64 (last : Nat)) := h.obj.cell 1
  have f1 : W.frozen? ⟨g, 1, none⟩ = false := h.obj.free 1
  have hw1 : IntKind.u64.wrap ((last : Int) + 1) = (last : Int) + 1 := by rw [IntKind.wrap_u64]; omega
  have hrg : r ≠ g := by
    obtain ⟨cs, p, hr⟩ := hring
    intro k; subst k; exact absurd (whole_type h.obj hr.blk) (by decide)
  have HAG := Lib.hid (show ∀ a, A = some a → n ≠ 0 → a.block ≠ g ∧ a.block ≠ r from fun a ha h0 => by
    obtain ⟨cs, p, hr⟩ := hring
    exact ⟨(hag a ha h0).ne h.obj h.bg (.inr rfl), (hag a ha h0).ne hr.blk (h.ring o r hm).2 (.inl rfl)⟩)
  rw [upd_same] at HRG
  clear h hm hrd hring hag hyk HW
  go_upto_region 16 with fail
  obtain ⟨k, hk⟩ : ∃ k, last + 1 = k := ⟨_, rfl⟩
  have hk2 : (last : Int) + 1 = (k : Int) := by omega
  rw [hk2]
  refine cut_world (fun X => PutW W g b k k2 r L A n f X) (by
    have hs := grown_set1 W g 1 (.int .u64 (k : Nat))
    refine ⟨H.out.obj.put 1 _, ?_, ?_, Tw.grown1 hs⟩
    · obtain ⟨cs, p, hr⟩ := HRG.out
      exact ⟨cs, p, hr.keep (KpB.grown hs H.out.obj (by decide)) (whole_grown hr.blk hs (Ne.symm hrg))⟩
    · exact Rd.tw HRD.out (Tw.grown1 (r := r) hs) HAG.out) ?_
  intro X hX
  have HX := Lib.hid hX
  clear hX c1 f1 hw1 HRG HRD hk2 
  refine region_drew (fun X => Whole X g 41 #[.map (some b), .int .u64 (k : Nat), .int .u64 (k2 : Nat)]) (by kernel_rfl) HX.out.obj (fun hS => ?_)
  refine take 0 _ rfl (by kernel_rfl) (by kernel_rfl) (by kernel_rfl) (fun _ _ _ h => h) (by rfl) hS (by intro w _; go_simp; with_reducible rfl) ?_
  try simp only [Act.put, List.setIfInBounds_toArray, List.set_cons_zero, List.set_cons_succ]
  refine take 1 _ rfl (by kernel_rfl) (by kernel_rfl) (by kernel_rfl) (fun _ _ _ h => h) (by rfl) hS (by intro w _; go_simp; with_reducible rfl) ?_
  try simp only [Act.put, List.setIfInBounds_toArray, List.set_cons_zero, List.set_cons_succ]
  refine take 2 _ rfl (by kernel_rfl) (by kernel_rfl) (by kernel_rfl) (fun _ _ _ h => h) (by rfl) hS (by intro w _; go_simp; with_reducible rfl) ?_
  try simp only [Act.put, List.setIfInBounds_toArray, List.set_cons_zero, List.set_cons_succ]
  refine take 3 _ rfl (by kernel_rfl) (by kernel_rfl) (by kernel_rfl) (fun _ _ _ h => h) (by rfl) hS (by intro w _; go_simp; with_reducible rfl) ?_
  try simp only [Act.put, List.setIfInBounds_toArray, List.set_cons_zero, List.set_cons_succ]
  refine take 4 _ rfl (by kernel_rfl) (by kernel_rfl) (by kernel_rfl) (fun _ _ _ h => h) (by rfl) hS (by intro w hw; have hcl := Whole.cell hw 1; go_simp; with_reducible rfl) ?_
  try simp only [Act.put, List.setIfInBounds_toArray, List.set_cons_zero, List.set_cons_succ]
  refine take 5 _ rfl (by kernel_rfl) (by kernel_rfl) (by kernel_rfl) (fun _ _ _ h => h) (by rfl) hS (by intro w _; go_simp; with_reducible rfl) ?_
  try simp only [Act.put, List.setIfInBounds_toArray, List.set_cons_zero, List.set_cons_succ]
  refine alone 6 rfl (by kernel_rfl) (by rfl) ?_
  intro K hK
  go_simp
  refine (twin_any A n c f hn X.drew HX.out.rd).mono ?_
  rintro e X1 ⟨rfl, ht1, hb1⟩
  have hb1' : Below X.heap.size X X1 := ⟨hb1.os, hb1.tape, hb1.output, hb1.size, hb1.block⟩
  obtain ⟨a, ha⟩ : ∃ a, X.heap.size = a := ⟨_, rfl⟩
  have HT1 := Lib.hid (show Whole X1 a 5 (byteCells f n).toArray from ha ▸ ht1)
  have HB1 := Lib.hid hb1'
  clear ht1 hb1 hb1'
  rw [show X.drew.heap.size = a from ha]
  go_simp
  have hS := Whole.below HX.out.obj HB1.out HX.out.obj.lt
  refine hK.out _ _ hS ?_
  clear hK K
  try simp only [Act.put, List.setIfInBounds_toArray, List.set_cons_zero, List.set_cons_succ]
  refine take 7 (pkV a ⟨k, n, f, av⟩) rfl (by kernel_rfl) (by kernel_rfl) (by kernel_rfl) (fun _ _ _ h => h) (by rfl) hS (fun w hw => run_built2 46 0 1 (.tmp 67) (.tmp 69) rfl (.int .u64 (k : Nat)) (.slice (some ⟨a, 0, none⟩) n n) rfl rfl _ (pk_built a n k)) ?_
  try simp only [Act.put, List.setIfInBounds_toArray, List.set_cons_zero, List.set_cons_succ]
  obtain ⟨cs, p, hr1⟩ := HX.out.ring.below HB1.out
  refine alone 8 rfl (by kernel_rfl) (by rfl) ?_
  intro K hK
  go_simp
  refine (put_any r ⟨k, n, f, av⟩ L cs p a X1 hr1 hfew HF.out hn (by show k < _; omega) HT1.out (by have h1 := HX.out.tw.size; have h2 := (Nat.lt_of_lt_of_le HAV.out HY.out.size); show a ≠ av; omega)).mono ?_
  rintro e X2 ⟨rfl, hring2, hg2⟩
  have hS2 := whole_grown hS hg2 hrg
  go_simp
  refine hK.out _ _ hS2 ?_
  clear hK K hr1
  try simp only [Act.put]
  refine region_end (by kernel_rfl) ?_
  refine cut_post (F := Exit.then _ _) (fun Z => Whole Z g 41 #[.map (some b), .int .u64 (k : Nat), .int .u64 (k2 : Nat)] ∧ RingW Z r (L ++ [⟨k, n, f, av⟩]) ∧ Tw g r W Z) ⟨hS2, hring2, HX.out.tw.trans ((Tw.below HB1.out).trans (Tw.grown hg2))⟩ ?_
  clear hS hS2 hring2 hg2 HT1 HB1 HX ha
  rintro Z ⟨z1, z2, z3⟩
  have Z1 := Lib.hid z1
  have Z2 := Lib.hid z2
  have Z3 := Lib.hid z3
  have c1 : Z.cell? ⟨g, 1, none⟩ = some (.int .u64 (k : Nat)) := z1.cell 1
  clear z1 z2 z3
  go_wp2_with fail
  go_ret3
  rw [hk, ht2]
  refine ⟨rfl, ?_, HY.out.trans (Yk.tw H.out HM.out Z3.out)⟩
  have hfin := H.out.tw (N' := k) HM.out Z3.out Z1.out Z2.out ⟨ho, ho2⟩ (by omega)
  rw [upd_twice] at hfin
  exact hfin

set_option maxRecDepth 100000 in
set_option maxHeartbeats 1000000 in
theorem put_new {w : World} {B g b last thrown : Nat} {Y : Int → List Pk} {D : DataW Unit} {m : Int → Option Nat} (h : YM w B g b Y last thrown last D m) (hB : B ≤ w.heap.size) (o : Int) (hm : m o = none) (hY : Y o = []) (hok : okI o) (ho : 1 ≤ o) (ho2 : o ≤ 16) (A : Option Addr) (n c : Nat) (f : Nat → Nat) (av : Nat) (hav : av < w.heap.size) (hf : ∀ i, f i < 256) (hn : n ≤ 1500) (hl : last < 1000000)
    (hrd : Rd w A n f) (hag : ∀ a, A = some a → n ≠ 0 → Foreign B w a.block) : Calls Try.prog 15 #[.pointer (some ⟨g, 0, none⟩), .int .i64 o, .slice A n c] w fun e w' => e = .returned (.tuple #[.int .u64 (last + 1 : Nat), .bool false, .int .i64 0]) ∧ (∃ D' r, YM w' B g b (upd Y o [⟨last + 1, n, f, av⟩]) (last + 1) thrown (last + 1) D' (upd m o (some r))) ∧ Yk B w w' := by
  have HAV := Lib.hid hav
  clear hav
  have HN := Lib.hid (none_some g b _ _ w h.obj)
  have h1 : decide (o < 1) = false := decide_eq_false (by omega)
  have h2 : decide (16 < o) = false := decide_eq_false (by omega)
  have h3 : decide (1500 < (n : Int)) = false := decide_eq_false (by omega)
  have c0 : w.cell? ⟨g, 0, none⟩ = some (.map (some b)) := h.obj.cell 0
  have hlk := h.look hok
  rw [hm] at hlk
  replace hlk : (Instr.lookup 39 (.map (some b)) (.int .i64 o) false).run Try.prog w = .ok (.pointer none) w := hlk
  have HF := Lib.hid hf
  have HH := Lib.hid (show YM w B g b Y last thrown last D m ∧ m o = none ∧ Rd w A n f ∧ (∀ a, A = some a → n ≠ 0 → Foreign B w a.block) from ⟨h, hm, hrd, hag⟩)
  obtain ⟨r, hr⟩ : ∃ r, w.heap.size = r := ⟨_, rfl⟩
  obtain ⟨zs, hzs⟩ : ∃ zs, zeroRing = zs := ⟨_, rfl⟩
  have HZS := Lib.hid hzs
  have HRB := Lib.hid (show Try.prog.built 66 [] = some zs.toArray by rw [← hzs]; exact ring_built0)
  have HWB := Lib.hid (show (w.alloc (.cells zs.toArray 66)).ownsMap Try.prog 3 ptrR b (Maps.size D) D from (own_tight h.own).alloc _)
  have HSZ := Lib.hid (show Maps.size D < maxLen from Nat.lt_of_le_of_lt h.own.size_le (by unfold maxLen; omega))
  have HKO := Lib.hid (key_int hok)
  have HPR := Lib.hid (ptrR_mk (some r))
  have hgr : g ≠ r := by have := h.obj.lt; omega
  have hbr : b ≠ r := by have := h.own.lt; omega
  have c0' : (w.alloc (.cells zs.toArray 66)).cell? ⟨g, 0, none⟩ = some (.map (some b)) := (h.obj.alloc _).cell 0
  clear h hrd hag hm hf hzs
  go_enter Try.func15, Try.ntmps15
  go_wp2_with fail
  refine HN.out.mono ?_
  rintro e w1 ⟨rfl, rfl⟩
  go_upto_region 11 with (first | (refine wpList_built0 rfl 66 rfl zs.toArray HRB.out ?_) | (refine wpList_mapUpdate_in _ rfl (.tmp 38) (.tmp 39) (.tmp 40) 39 rfl 3 63 keyedI Try.underlying39 ptrR b (Maps.size D) D rfl HWB.out HSZ.out _ (ptrV (some r)) (keyO o) rfl (by rw [← hr]; rfl) HKO.out _ _ HPR.out ?_; intro w2 hown2 hturn2))
  have hgA : (w.alloc (.cells zs.toArray 66)).grownBy w2 (some b) := by
    have h := hturn2.grown
    exact ⟨h.os, h.tape, h.output, h.size, h.block⟩
  have hbelA : Below w.heap.size w (w.alloc (.cells zs.toArray 66)) := below_alloc (Below.refl _ _) _
  refine cut_world (fun X => OnW w B g b Y last thrown (last + 1) (D.put (keyO o) (ptrD (some r))) (upd m o (some r)) A n f X) (by
    have h := HH.out.1
    have hA := h.below hbelA
    have hrA : Whole (w.alloc (.cells zs.toArray 66)) r 66 zs.toArray := by rw [← hr]; exact Whole.new _ _ _
    have hkA : KpB (w.alloc (.cells zs.toArray 66)) w2 := fun k es e => whole_grown e hgA (by
      rintro rfl
      obtain ⟨es', clock, hb', _⟩ := hA.own
      have := e
      unfold Whole at this
      rw [this] at hb'
      cases hb')
    refine OnW.of ⟨whole_grown hA.obj hgA hA.ne, hown2.mono (Nat.succ_le_succ h.own.size_le), h.ag.put ?_ o r, fun o' r' hm' => ?_, fun o' o2 r' hm' hm2 => ?_, h.dom, h.bg, h.bb⟩ ((Yk.of_below hbelA).trans (Yk.map hgA hA.own h.bb)) HH.out.2.2.1 HH.out.2.2.2
    · obtain ⟨es, clock, _, _, _, hD⟩ := h.own
      exact ⟨_, hD⟩
    · by_cases e : o' = o
      · subst e
        rw [upd_same] at hm'
        injection hm' with hm'
        subst hm'
        rw [hY]
        refine ⟨⟨zeroRing, 0, ring_zero ?_⟩, by omega⟩
        rw [HZS.out]
        exact whole_grown hrA hgA hbr
      · rw [upd_other _ _ e] at hm'
        obtain ⟨⟨ds, q, hr'⟩, hB'⟩ := hA.ring o' r' hm'
        refine ⟨⟨ds, q, hr'.keep hkA (whole_grown hr'.blk hgA ?_)⟩, hB'⟩
        rintro rfl
        obtain ⟨es', clock, hb', _⟩ := hA.own
        have := hr'.blk
        unfold Whole at this
        rw [this] at hb'
        cases hb'
    · have hlt : ∀ o' r', m o' = some r' → r' ≠ r := fun o' r' k => by
        have := (h.ring o' r' k).1.lt
        omega
      by_cases e : o' = o <;> by_cases e2 : o2 = o
      · rw [e, e2]
      · subst e
        rw [upd_same] at hm'
        rw [upd_other _ _ e2] at hm2
        injection hm' with hm'
        exact absurd hm'.symm (hlt _ _ hm2)
      · subst e2
        rw [upd_same] at hm2
        rw [upd_other _ _ e] at hm'
        injection hm2 with hm2
        exact absurd hm2.symm (hlt _ _ hm')
      · rw [upd_other _ _ e] at hm'
        rw [upd_other _ _ e2] at hm2
        exact h.inj _ _ _ hm' hm2) ?_
  clear hgA hbelA hturn2 hown2 c0 c0' hlk h1 h2 h3 HH HWB HSZ HKO HPR HRB HZS HN
  clear w2
  intro W hW
  obtain ⟨h, hyk, hrd, hag⟩ := hW
  have HY := Lib.hid hyk
  have HRD := Lib.hid hrd
  have hm := upd_same m o (some r)
  have c17 : W.cell? ⟨r, 17, none⟩ = some (.int .i64 0) := by
    have := h.count hm
    rw [hY] at this
    exact this
  obtain ⟨L, hLe⟩ : ∃ L : List Pk, L = [] := ⟨_, rfl⟩
  have hfew : L.length < 8 := by rw [hLe]; show 0 < 8; omega
  have H := Lib.hid h
  have HM := Lib.hid hm
  have hring := (h.ring o r hm).1
  have HRG := Lib.hid hring
  have c1 : W.cell? ⟨g, 1, none⟩ = some (.int .u64 (last : Nat)) := h.obj.cell 1
  have f1 : W.frozen? ⟨g, 1, none⟩ = false := h.obj.free 1
  have hw1 : IntKind.u64.wrap ((last : Int) + 1) = (last : Int) + 1 := by rw [IntKind.wrap_u64]; omega
  have hrg : r ≠ g := by
    obtain ⟨cs, p, hr⟩ := hring
    intro k; subst k; exact absurd (whole_type h.obj hr.blk) (by decide)
  have HAG := Lib.hid (show ∀ a, A = some a → n ≠ 0 → a.block ≠ g ∧ a.block ≠ r from fun a ha h0 => by
    obtain ⟨cs, p, hr⟩ := hring
    exact ⟨(hag a ha h0).ne h.obj h.bg (.inr rfl), (hag a ha h0).ne hr.blk (h.ring o r hm).2 (.inl rfl)⟩)
  rw [hY, ← hLe] at HRG
  clear h hm hrd hring hag hyk hgr hbr
  go_upto_region 16 with fail
  obtain ⟨k, hk⟩ : ∃ k, last + 1 = k := ⟨_, rfl⟩
  have hk2 : (last : Int) + 1 = (k : Int) := by omega
  rw [hk2]
  refine cut_world (fun X => PutW W g b k thrown r L A n f X) (by
    have hs := grown_set1 W g 1 (.int .u64 (k : Nat))
    refine ⟨H.out.obj.put 1 _, ?_, ?_, Tw.grown1 hs⟩
    · obtain ⟨cs, p, hr⟩ := HRG.out
      exact ⟨cs, p, hr.keep (KpB.grown hs H.out.obj (by decide)) (whole_grown hr.blk hs (Ne.symm hrg))⟩
    · exact Rd.tw HRD.out (Tw.grown1 (r := r) hs) HAG.out) ?_
  intro X hX
  have HX := Lib.hid hX
  clear hX c1 f1 hw1 HRG HRD hk2 c17
  refine region_drew (fun X => Whole X g 41 #[.map (some b), .int .u64 (k : Nat), .int .u64 (thrown : Nat)]) (by kernel_rfl) HX.out.obj (fun hS => ?_)
  refine take 0 _ rfl (by kernel_rfl) (by kernel_rfl) (by kernel_rfl) (fun _ _ _ h => h) (by rfl) hS (by intro w _; go_simp; with_reducible rfl) ?_
  try simp only [Act.put, List.setIfInBounds_toArray, List.set_cons_zero, List.set_cons_succ]
  refine take 1 _ rfl (by kernel_rfl) (by kernel_rfl) (by kernel_rfl) (fun _ _ _ h => h) (by rfl) hS (by intro w _; go_simp; with_reducible rfl) ?_
  try simp only [Act.put, List.setIfInBounds_toArray, List.set_cons_zero, List.set_cons_succ]
  refine take 2 _ rfl (by kernel_rfl) (by kernel_rfl) (by kernel_rfl) (fun _ _ _ h => h) (by rfl) hS (by intro w _; go_simp; with_reducible rfl) ?_
  try simp only [Act.put, List.setIfInBounds_toArray, List.set_cons_zero, List.set_cons_succ]
  refine take 3 _ rfl (by kernel_rfl) (by kernel_rfl) (by kernel_rfl) (fun _ _ _ h => h) (by rfl) hS (by intro w _; go_simp; with_reducible rfl) ?_
  try simp only [Act.put, List.setIfInBounds_toArray, List.set_cons_zero, List.set_cons_succ]
  refine take 4 _ rfl (by kernel_rfl) (by kernel_rfl) (by kernel_rfl) (fun _ _ _ h => h) (by rfl) hS (by intro w hw; have hcl := Whole.cell hw 1; go_simp; with_reducible rfl) ?_
  try simp only [Act.put, List.setIfInBounds_toArray, List.set_cons_zero, List.set_cons_succ]
  refine take 5 _ rfl (by kernel_rfl) (by kernel_rfl) (by kernel_rfl) (fun _ _ _ h => h) (by rfl) hS (by intro w _; go_simp; with_reducible rfl) ?_
  try simp only [Act.put, List.setIfInBounds_toArray, List.set_cons_zero, List.set_cons_succ]
  refine alone 6 rfl (by kernel_rfl) (by rfl) ?_
  intro K hK
  go_simp
  refine (twin_any A n c f hn X.drew HX.out.rd).mono ?_
  rintro e X1 ⟨rfl, ht1, hb1⟩
  have hb1' : Below X.heap.size X X1 := ⟨hb1.os, hb1.tape, hb1.output, hb1.size, hb1.block⟩
  obtain ⟨a, ha⟩ : ∃ a, X.heap.size = a := ⟨_, rfl⟩
  have HT1 := Lib.hid (show Whole X1 a 5 (byteCells f n).toArray from ha ▸ ht1)
  have HB1 := Lib.hid hb1'
  clear ht1 hb1 hb1'
  rw [show X.drew.heap.size = a from ha]
  go_simp
  have hS := Whole.below HX.out.obj HB1.out HX.out.obj.lt
  refine hK.out _ _ hS ?_
  clear hK K
  try simp only [Act.put, List.setIfInBounds_toArray, List.set_cons_zero, List.set_cons_succ]
  refine take 7 (pkV a ⟨k, n, f, av⟩) rfl (by kernel_rfl) (by kernel_rfl) (by kernel_rfl) (fun _ _ _ h => h) (by rfl) hS (fun w hw => run_built2 46 0 1 (.tmp 67) (.tmp 69) rfl (.int .u64 (k : Nat)) (.slice (some ⟨a, 0, none⟩) n n) rfl rfl _ (pk_built a n k)) ?_
  try simp only [Act.put, List.setIfInBounds_toArray, List.set_cons_zero, List.set_cons_succ]
  obtain ⟨cs, p, hr1⟩ := HX.out.ring.below HB1.out
  refine alone 8 rfl (by kernel_rfl) (by rfl) ?_
  intro K hK
  go_simp
  refine (put_any r ⟨k, n, f, av⟩ L cs p a X1 hr1 hfew HF.out hn (by show k < _; omega) HT1.out (by have h1 := HX.out.tw.size; have h2 := (Nat.lt_of_lt_of_le HAV.out HY.out.size); show a ≠ av; omega)).mono ?_
  rintro e X2 ⟨rfl, hring2, hg2⟩
  have hS2 := whole_grown hS hg2 hrg
  go_simp
  refine hK.out _ _ hS2 ?_
  clear hK K hr1
  try simp only [Act.put]
  refine region_end (by kernel_rfl) ?_
  refine cut_post (F := Exit.then _ _) (fun Z => Whole Z g 41 #[.map (some b), .int .u64 (k : Nat), .int .u64 (thrown : Nat)] ∧ RingW Z r (L ++ [⟨k, n, f, av⟩]) ∧ Tw g r W Z) ⟨hS2, hring2, HX.out.tw.trans ((Tw.below HB1.out).trans (Tw.grown hg2))⟩ ?_
  clear hS hS2 hring2 hg2 HT1 HB1 HX ha
  rintro Z ⟨z1, z2, z3⟩
  have Z1 := Lib.hid z1
  have Z2 := Lib.hid z2
  have Z3 := Lib.hid z3
  have c1 : Z.cell? ⟨g, 1, none⟩ = some (.int .u64 (k : Nat)) := z1.cell 1
  clear z1 z2 z3
  go_wp2_with fail
  go_ret3
  rw [hk]
  refine ⟨rfl, ⟨D.put (keyO o) (ptrD (some r)), r, ?_⟩, HY.out.trans (Yk.tw H.out HM.out Z3.out)⟩
  have hfin := H.out.tw (N' := k) HM.out Z3.out Z1.out Z2.out ⟨ho, ho2⟩ (by omega)
  rw [hLe] at hfin
  exact hfin

/-- Put of any packet that may be put -/
theorem put_okA {w : World} {B g b last thrown : Nat} {Y : Int → List Pk} (h : YW w B g b Y last thrown) (hB : B ≤ w.heap.size) (o : Int) (ho : 1 ≤ o) (ho2 : o ≤ 16) (A : Option Addr) (n c : Nat) (f : Nat → Nat) (av : Nat) (hav : av < w.heap.size) (hf : ∀ i, f i < 256) (hn : n ≤ 1500) (hl : last < 1000000) (ht : thrown < 1000000)
    (hrd : Rd w A n f) (hag : ∀ a, A = some a → n ≠ 0 → Foreign B w a.block) : Calls Try.prog 15 #[.pointer (some ⟨g, 0, none⟩), .int .i64 o, .slice A n c] w fun e w' => e = .returned (.tuple #[.int .u64 (last + 1 : Nat), .bool (decide ((Y o).length = 8)), .int .i64 0]) ∧ YW w' B g b (upd Y o (pushP (Y o) ⟨last + 1, n, f, av⟩)) (last + 1) (thrown + if (Y o).length = 8 then 1 else 0) ∧ Yk B w w' := by
  have hfew := h.few o
  obtain ⟨D, m, h, hF⟩ := h
  have hok : okI o := by
    unfold okI
    have e0 : IntKind.min .i64 = -9223372036854775808 := by decide
    have e1 : IntKind.max .i64 = 9223372036854775807 := by decide
    show (decide (IntKind.min .i64 ≤ o) && decide (o ≤ IntKind.max .i64)) = true
    rw [e0, e1, Bool.and_eq_true, decide_eq_true_eq, decide_eq_true_eq]
    omega
  have hup : ∀ L : List Pk, L ≠ [] → (m o).isSome = true → Fits m (upd Y o L) := fun L hL hs o' => by
    by_cases e : o' = o
    · subst e
      rw [upd_same]
      exact ⟨fun _ => hL, fun _ => hs⟩
    · rw [upd_other _ _ e]
      exact hF o'
  rcases hm : m o with _ | r
  · have hY := hF.none_ hm
    rw [hY]
    refine (put_new h hB o hm hY hok ho ho2 A n c f av hav hf hn hl hrd hag).mono ?_
    rintro e w' ⟨rfl, ⟨D', r, h'⟩, hyk⟩
    refine ⟨rfl, ⟨D', _, h', fun o' => ?_⟩, hyk⟩
    by_cases e : o' = o
    · subst e
      rw [upd_same, upd_same]
      exact ⟨fun _ => by simp [pushP], fun _ => rfl⟩
    · rw [upd_other _ _ e, upd_other _ _ e]
      exact hF o'
  · by_cases h8 : (Y o).length = 8
    · obtain ⟨x, L, hY⟩ : ∃ x L, Y o = x :: L := by
        rcases hy : Y o with _ | ⟨x, L⟩
        · rw [hy] at h8; cases h8
        · exact ⟨x, L, rfl⟩
      have hL : L.length = 7 := by rw [hY, List.length_cons] at h8; omega
      rw [if_pos h8, decide_eq_true h8]
      refine (put_full h o r hm x L hY hL hok ho ho2 A n c f av hav hf hn hl (by omega) hrd hag).mono ?_
      rintro e w' ⟨rfl, h', hyk⟩
      have e2 : pushP (Y o) ⟨last + 1, n, f, av⟩ = L ++ [⟨last + 1, n, f, av⟩] := by unfold pushP; rw [if_pos h8, hY]; rfl
      rw [e2]
      exact ⟨rfl, ⟨D, m, h', hup _ (by simp) (by rw [hm]; rfl)⟩, hyk⟩
    · rw [if_neg h8, decide_eq_false h8]
      refine (put_room h o r hm (by omega) hok ho ho2 A n c f av hav hf hn hl hrd hag).mono ?_
      rintro e w' ⟨rfl, h', hyk⟩
      have e2 : pushP (Y o) ⟨last + 1, n, f, av⟩ = Y o ++ [⟨last + 1, n, f, av⟩] := by unfold pushP; rw [if_neg h8]
      rw [e2]
      exact ⟨rfl, ⟨D, m, h', hup _ (by simp) (by rw [hm]; rfl)⟩, hyk⟩
theorem put_ok {w : World} {B g b last thrown : Nat} {Y : Int → List Pk} (h : YW w B g b Y last thrown) (hB : B ≤ w.heap.size) (o : Int) (ho : 1 ≤ o) (ho2 : o ≤ 16) (A : Option Addr) (n c : Nat) (f : Nat → Nat) (hf : ∀ i, f i < 256) (hn : n ≤ 1500) (hl : last < 1000000) (ht : thrown < 1000000)
    (hrd : Rd w A n f) (hag : ∀ a, A = some a → n ≠ 0 → Foreign B w a.block) : Calls Try.prog 15 #[.pointer (some ⟨g, 0, none⟩), .int .i64 o, .slice A n c] w fun e w' => e = .returned (.tuple #[.int .u64 (last + 1 : Nat), .bool (decide ((Y o).length = 8)), .int .i64 0]) ∧ YW w' B g b (upd Y o (pushP (Y o) ⟨last + 1, n, f, 0⟩)) (last + 1) (thrown + if (Y o).length = 8 then 1 else 0) ∧ Yk B w w' := by
  obtain ⟨D, m, h', hF⟩ := h
  exact put_okA ⟨D, m, h', hF⟩ hB o ho ho2 A n c f 0 (Nat.lt_of_le_of_lt (Nat.zero_le _) h'.obj.lt) hf hn hl ht hrd hag
end Yd
end Go.Proofs.Ytbmabfnjjflbnaa
