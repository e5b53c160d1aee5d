/- Calls as arguments of the statements of layer 22; the yard's numbers. -/
import Derived.Test.YtbmabfnjjflbnaaYdAlive
import Derived.Test.YtbmabfnjjflbnaaSh
namespace Go.Proofs.Ytbmabfnjjflbnaa
namespace Yd
open Go.ChangeShapes Go.WideShapes Go.ChangeAt Go.RowKit Go.Maps
open Num Mem Words Chacha Aead Poly Quiet RowV

/-- a call -/
structure OpV where
  k : Int
  o : Int
  A : Option Addr
  m : Nat
  c : Nat
  f : Nat → Nat
def opL (q : OpV) : List Value := [.int .i64 q.k, .int .i64 q.o, .slice q.A q.m q.c]
def shOp : Shp.Sh := .cons (.int .i64) (.cons (.int .i64) (.cons (.list (.int .u8)) .nil))
def IsOps (w : World) (A : Option Addr) (n : Nat) (Q : Nat → OpV) : Prop :=
  (∀ i, i < n → okI (Q i).k ∧ okI (Q i).o ∧ (∀ j, (Q i).f j < 256) ∧ Rd w (Q i).A (Q i).m (Q i).f ∧ (Q i).m ≤ 9223372036854775807 ∧ (∀ a, (Q i).A = some a → (Q i).m ≠ 0 → a.block < w.heap.size)) ∧
  (n = 0 ∨ ∃ b off, A = some ⟨b, off, none⟩ ∧ b < w.heap.size ∧ ∀ i, i < n → ∀ j v, (opL (Q i))[j]? = some v → w.cell? ⟨b, off + (i * 3 + j), none⟩ = some v)
theorem open_op {w : World} {cs : List Value} (hl : cs.length = 3) (h : Shp.Good w shOp cs) : ∃ q : OpV, cs = opL q ∧ okI q.k ∧ okI q.o ∧ (∀ j, q.f j < 256) ∧ Rd w q.A q.m q.f ∧ q.m ≤ 9223372036854775807 ∧ (∀ a, q.A = some a → q.m ≠ 0 → a.block < w.heap.size) := by
  unfold shOp at h
  obtain ⟨v0, r0, rfl, ⟨k, e0, hk⟩, h, hl⟩ := Shp.good_cons1 h rfl hl
  obtain ⟨v1, r1, rfl, ⟨o, e1, ho⟩, h, hl⟩ := Shp.good_cons1 h rfl hl
  obtain ⟨v2, r2, rfl, hb, h, hl⟩ := Shp.good_cons1 h rfl hl
  obtain rfl := Shp.good_nil hl
  have hb' := hb
  obtain ⟨A, n, c, e2, h1, h2, _⟩ := hb
  injection e0 with e0
  injection e1 with e1
  injection e2 with e2
  subst e0 e1 e2
  obtain ⟨f, hf, hrd, _, _, _⟩ := Shp.good_bytes hb'
  refine ⟨⟨k, o, A, n, c, f⟩, rfl, hk, ho, hf, hrd, by have : maxLen = 9223372036854775807 := rfl; show n ≤ _; omega, fun a ha hn => ?_⟩
  rcases hrd with h0 | ⟨b, off, e, hlt, _⟩
  · exact absurd h0 hn
  · rw [show A = some a from ha] at e
    injection e with e
    rw [e]
    exact hlt
theorem open_ops {w : World} {A : Option Addr} {n c : Nat} (h : Shp.Good w (.list (.obj shOp)) [.slice A n c]) : n ≤ 9223372036854775807 ∧ ∃ Q, IsOps w A n Q := by
  obtain ⟨h1, h2, h3, C, hC, h4⟩ := Shp.list_rows h (by show 0 < 3; omega)
  haveI : Inhabited OpV := ⟨⟨0, 0, none, 0, 0, fun _ => 0⟩⟩
  obtain ⟨Q, hQ⟩ := Go.Deep.choose_lt (p := fun i (q : OpV) => C i = opL q ∧ okI q.k ∧ okI q.o ∧ (∀ j, q.f j < 256) ∧ Rd w q.A q.m q.f ∧ q.m ≤ 9223372036854775807 ∧ (∀ a, q.A = some a → q.m ≠ 0 → a.block < w.heap.size)) (fun i hi => open_op (hC i hi).1 (hC i hi).2)
  refine ⟨by have : maxLen = 9223372036854775807 := rfl; omega, Q, fun i hi => (hQ i hi).2, ?_⟩
  rcases h4 with h0 | ⟨b, off, e, hlt, hx⟩
  · exact .inl h0
  · exact .inr ⟨b, off, e, hlt, fun i hi j v hv => hx i hi j v (by rw [(hQ i hi).1]; exact hv)⟩
theorem IsOps.range {w w' : World} {A : Option Addr} {n : Nat} {Q : Nat → OpV} (h : IsOps w A n Q) (hb : Below w.heap.size w w') {i : Nat} (hi : i < n) : ∃ b off, A = some ⟨b, off, none⟩ ∧ w'.rangeAt b (off + i * 3) (opL (Q i)) := by
  rcases h.2 with h0 | ⟨b, off, e, hlt, hx⟩
  · omega
  · refine ⟨b, off, e, fun j v hj => ?_⟩
    have := hx i hi j v hj
    rw [← this, Nat.add_assoc]
    exact hb.cell (p := ⟨b, off + (i * 3 + j), none⟩) hlt
theorem op_one (q : OpV) : (opL q).toArray.all (·.oneCell') = true := by simp [opL, Value.oneCell']

/-- how many wait, behind a call -/
theorem allN_upd {Y : Int → List Pk} (o : Int) (h1 : 1 ≤ o) (h2 : o ≤ 16) (L : List Pk) : allN (upd Y o L) + (Y o).length = allN Y + L.length := by
  have e : (fun o' => (upd Y o L o').length) = upd (fun o' => (Y o').length) o L.length := by
    funext x
    unfold upd
    split <;> rfl
  have h := sum16_upd (fun o' => (Y o').length) o h1 h2 L.length
  unfold allN
  rw [e]
  exact h
theorem pushP_length (L : List Pk) (x : Pk) : (pushP L x).length + (if L.length = 8 then 1 else 0) = L.length + 1 := by
  unfold pushP
  split
  · rename_i h
    rw [List.length_append, List.length_tail]
    simp only [List.length_cons, List.length_nil]
    omega
  · rw [List.length_append]; rfl
theorem YW.dom {w : World} {B g b last thrown : Nat} {Y : Int → List Pk} (h : YW w B g b Y last thrown) {o : Int} (ho : Y o ≠ []) : 1 ≤ o ∧ o ≤ 16 := by
  obtain ⟨D, m, h, _⟩ := h
  exact h.dom o ho
theorem YW.obj {w : World} {B g b last thrown : Nat} {Y : Int → List Pk} (h : YW w B g b Y last thrown) : Whole w g 41 #[.map (some b), .int .u64 last, .int .u64 thrown] := by
  obtain ⟨D, m, h, _⟩ := h
  exact h.obj
theorem allN_del {w : World} {B g b last thrown : Nat} {Y : Int → List Pk} (h : YW w B g b Y last thrown) (o : Int) : allN (upd Y o []) + (Y o).length = allN Y := by
  by_cases hY : Y o = []
  · have e : upd Y o [] = Y := by rw [← hY]; exact upd_self Y o
    rw [e, hY]
    rfl
  · have := allN_upd (Y := Y) o (h.dom hY).1 (h.dom hY).2 []
    simpa using this
theorem allN_take {w : World} {B g b last thrown : Nat} {Y : Int → List Pk} (h : YW w B g b Y last thrown) {o : Int} {x : Pk} {L : List Pk} (hY : Y o = x :: L) : allN (upd Y o L) + 1 = allN Y := by
  have hn : Y o ≠ [] := by rw [hY]; simp
  have := allN_upd (Y := Y) o (h.dom hn).1 (h.dom hn).2 L
  rw [hY, List.length_cons] at this
  omega
end Yd
end Go.Proofs.Ytbmabfnjjflbnaa
