/- Package wheel: Set at any input; two wheels beside each other; the ops of an argument. -/
import Derived.Test.YtgbahkkccpcadaaWhAs
import Derived.Test.YtgbahkkccpcadaaSh
namespace Go.Proofs.Ytgbahkkccpcadaa
namespace Wh
open Go.ChangeShapes Go.WideShapes Go.ChangeAt Go.RowKit Go.Maps
open Num Mem Words Chacha Aead Poly Quiet RowV RowS Ops EqLits Stamp

theorem okI_bounds {a : Int} (h : okI a) : -9223372036854775808 ≤ a ∧ a ≤ 9223372036854775807 := by
  have e0 : IntKind.min .i64 = -9223372036854775808 := by decide
  have e1 : IntKind.max .i64 = 9223372036854775807 := by decide
  have h : (decide (IntKind.min .i64 ≤ a) && decide (a ≤ IntKind.max .i64)) = true := h
  rw [e0, e1, Bool.and_eq_true, decide_eq_true_eq, decide_eq_true_eq] at h
  exact h
theorem set_any {w : World} {F : Nat → Prop} {g : Nat} {now : Int} {T : List Tm} (h : WW w F g now T) (o k t : Int) (hio : okI o) (hik : okI k) :
    Calls Try.prog 17 #[.pointer (some ⟨g, 0, none⟩), .int .i64 o, .int .i64 k, .int .i64 t] w fun e w' => e = .returned (.int .i64 (setT now T o k t).1) ∧ WW w' (ext F w) g now (setT now T o k t).2 ∧ Fk F w w' := by
  unfold setT
  by_cases h1 : ¬ right t ∨ t < now ∨ o < 0 ∨ k < 0
  · rw [if_pos h1]
    refine (set_bad h o k t h1).mono ?_
    rintro e w' ⟨rfl, rfl⟩
    exact ⟨rfl, h.mono (fun _ _ h => .inl h), Fk.refl _ _⟩
  · rw [if_neg h1]
    have hr : right t := Decidable.not_not.1 (fun c => h1 (.inl c))
    have hb := okI_bounds hio
    have hb2 := okI_bounds hik
    by_cases h2 : findT o k T = none ∧ 64 ≤ T.length
    · rw [if_pos h2]
      refine (set_full h o k t (by omega) (by omega) hio hik hr (by omega) h2.1 h2.2).mono ?_
      rintro e w' ⟨rfl, rfl⟩
      exact ⟨rfl, h.mono (fun _ _ h => .inl h), Fk.refl _ _⟩
    · rw [if_neg h2]
      exact set_ok h o k t (by omega) (by omega) hio hik (by omega) (by omega) hr (by omega) (fun hf => by
        rcases Nat.lt_or_ge T.length 64 with c | c
        · exact c
        · exact absurd ⟨hf, c⟩ h2)
theorem WW.fk {w w' : World} {F G : Nat → Prop} {g : Nat} {now : Int} {T : List Tm} (h : WW w F g now T) (hk : Fk G w w') (ha : ∀ i, F i → ¬ G i) : WW w' F g now T := by
  obtain ⟨b, s, D, cs, h1, n, hn, h2⟩ := h
  refine ⟨b, s, D, cs, h1.keep fun j t c hj hw => hk.whole hw (ha j ?_), n, hn, ?_⟩
  · rcases hj with rfl | rfl | ⟨q, hq⟩
    · exact h1.fg
    · exact h1.fs
    · exact h1.fr q j hq
  · have hlt := h2.lt
    obtain ⟨es, clock, hb, F0, hs, e⟩ := h2
    exact ⟨es, clock, (hk.block b hlt (ha b h1.fb)).trans hb, F0, hs, e⟩
theorem own_fk' {w w' : World} {F : Nat → Prop} {B : Nat} {e size : Nat} {v : Value} {n : Nat} {xs : List Value} (h : w.ownsRow B e size v n xs) (hk : Fk F w w') (hv : ∀ j, v.ownBlock = some j → ¬ F j) : w'.ownsRow B e size v n xs := by
  refine ⟨h.1, ?_⟩
  rcases h.2 with h0 | ⟨c, cap, cur, rfl, hb, hh, rest⟩
  · exact Or.inl h0
  · have hw : Whole w c e cur := hh
    exact Or.inr ⟨c, cap, cur, rfl, hb, (hk.block c hw.lt (hv c rfl)).trans hh, rest⟩
/-- a wheel whose blocks lie from B on -/
def WB (B : Nat) (w : World) (F : Nat → Prop) (g : Nat) (now : Int) (T : List Tm) : Prop := WW w F g now T ∧ ∀ i, F i → B ≤ i ∧ i < w.heap.size
theorem WB.turn {B : Nat} {w w' : World} {F F' : Nat → Prop} {g : Nat} {now : Int} {T : List Tm} (h : WW w' F' g now T) (hF : ∀ i, F' i → ext F w i) (hk : Fk F w w') (ht : ∀ i, F i → B ≤ i ∧ i < w.heap.size) (hB : B ≤ w.heap.size) : ∃ F2, WB B w' F2 g now T ∧ (∀ i, i < w.heap.size → F2 i → F i) ∧ Fk F w w' := by
  refine ⟨fun i => F' i ∧ i < w'.heap.size, ⟨h.mono (fun i h1 h2 => ⟨h2, h1⟩), fun i hi => ⟨?_, hi.2⟩⟩, fun i hi h2 => ?_, hk⟩
  · rcases hF i hi.1 with h | h
    · exact (ht i h).1
    · exact Nat.le_trans hB h
  · rcases hF i h2.1 with h | h
    · exact h
    · omega
theorem WB.new {B : Nat} {w w' : World} {g : Nat} {t : Int} (h : WW w' (fun i => w.heap.size ≤ i) g t []) (hB : B ≤ w.heap.size) : ∃ F2, WB B w' F2 g t [] ∧ ∀ i, F2 i → w.heap.size ≤ i := by
  refine ⟨fun i => w.heap.size ≤ i ∧ i < w'.heap.size, ⟨h.mono (fun i h1 h2 => ⟨h2, h1⟩), fun i hi => ⟨Nat.le_trans hB hi.1, hi.2⟩⟩, fun i hi => hi.1⟩

/-! ### the ops of an argument -/
/-- an op: which call, and with what -/
structure OpV where
  c : Int
  o : Int
  k : Int
  t : Int
def opL (q : OpV) : List Value := [.int .i64 q.c, .int .i64 q.o, .int .i64 q.k, .int .i64 q.t]
def shOp : Shp.Sh := .cons (.int .i64) (.cons (.int .i64) (.cons (.int .i64) (.cons (.int .i64) .nil)))
structure OkV (q : OpV) : Prop where
  c : okI q.c
  o : okI q.o
  k : okI q.k
  t : okI q.t
structure IsOps (w : World) (A : Option Addr) (n : Nat) (Q : Nat → OpV) : Prop where
  ok : ∀ i, i < n → OkV (Q i)
  rd : n = 0 ∨ ∃ b off, A = some ⟨b, off, none⟩ ∧ b < w.heap.size ∧ ∀ i, i < n → ∀ j v, (opL (Q i))[j]? = some v → w.cell? ⟨b, off + (i * 4 + j), none⟩ = some v
theorem IsOps.below {w w' : World} {A : Option Addr} {n : Nat} {Q : Nat → OpV} (h : IsOps w A n Q) (hb : Below w.heap.size w w') : IsOps w' A n Q :=
  ⟨h.ok, h.rd.imp id fun ⟨b, off, e, hl, hc⟩ => ⟨b, off, e, Nat.lt_of_lt_of_le hl hb.size, fun i hi j v hj => (hb.cell (p := ⟨b, off + (i * 4 + j), none⟩) hl).trans (hc i hi j v hj)⟩⟩
theorem open_op {w : World} {cs : List Value} (hl : cs.length = 4) (h : Shp.Good w shOp cs) : ∃ q : OpV, cs = opL q ∧ OkV q := by
  unfold shOp at h
  obtain ⟨v0, r0, rfl, ⟨c, e0, hc⟩, h, hl⟩ := Shp.good_cons1 h rfl hl
  obtain ⟨v1, r1, rfl, ⟨o, e1, ho⟩, h, hl⟩ := Shp.good_cons1 h rfl hl
  obtain ⟨v2, r2, rfl, ⟨k, e2, hk⟩, h, hl⟩ := Shp.good_cons1 h rfl hl
  obtain ⟨v3, r3, rfl, ⟨t, e3, ht⟩, h, hl⟩ := Shp.good_cons1 h rfl hl
  obtain rfl := Shp.good_nil hl
  injection e0 with e0
  injection e1 with e1
  injection e2 with e2
  injection e3 with e3
  subst e0 e1 e2 e3
  exact ⟨⟨c, o, k, t⟩, rfl, ⟨hc, ho, hk, ht⟩⟩
theorem open_ops {w : World} {A : Option Addr} {n c : Nat} (h : Shp.Good w (.list (.obj shOp)) [.slice A n c]) : n ≤ 9223372036854775807 ∧ ∃ Q, IsOps w A n Q := by
  obtain ⟨h1, h2, h3, C, hC, h4⟩ := Shp.list_rows h (by show 0 < 4; omega)
  haveI : Inhabited OpV := ⟨⟨0, 0, 0, 0⟩⟩
  obtain ⟨Q, hQ⟩ := Go.Deep.choose_lt (p := fun i (q : OpV) => C i = opL q ∧ OkV q) (fun i hi => open_op (hC i hi).1 (hC i hi).2)
  refine ⟨by have : maxLen = 9223372036854775807 := rfl; omega, Q, fun i hi => (hQ i hi).2, ?_⟩
  rcases h4 with h0 | ⟨b, off, e, hlt, hx⟩
  · exact .inl h0
  · exact .inr ⟨b, off, e, hlt, fun i hi j v hv => hx i hi j v (by rw [(hQ i hi).1]; exact hv)⟩
theorem IsOps.range {w w' : World} {A : Option Addr} {n : Nat} {Q : Nat → OpV} (h : IsOps w A n Q) (hb : Below w.heap.size w w') {i : Nat} (hi : i < n) : ∃ b off, A = some ⟨b, off, none⟩ ∧ w'.rangeAt b (off + i * 4) (opL (Q i)) := by
  rcases h.2 with h0 | ⟨b, off, e, hlt, hx⟩
  · omega
  · refine ⟨b, off, e, fun j v hj => ?_⟩
    have := hx i hi j v hj
    rw [← this, Nat.add_assoc]
    exact hb.cell (p := ⟨b, off + (i * 4 + j), none⟩) hlt
end Wh
end Go.Proofs.Ytgbahkkccpcadaa
