/- The ops of an argument. -/
import Derived.Test.YtlbfjdpcnnplnaaSh
import Derived.Test.YtlbfjdpcnnplnaaFdMem
namespace Go.Proofs.Ytlbfjdpcnnplnaa
namespace Fee
open Go.ChangeShapes Go.WideShapes Go.ChangeAt Go.RowKit Go.Maps
open Num Mem Words Chacha Aead Poly Quiet RowV RowS

/-- an op: which call, and with what -/
structure OpV where
  c : Int
  o : Nat
  n : Int
def opL (q : OpV) : List Value := [.int .i64 q.c, .int .u64 (q.o : Nat), .int .i64 q.n]
def shOp : Shp.Sh := .cons (.int .i64) (.cons (.int .u64) (.cons (.int .i64) .nil))
structure OkV (q : OpV) : Prop where
  c : okI q.c
  o : okU q.o
  n : okI q.n
/-- ops that lie below B -/
structure IsOps (B : Nat) (w : World) (A : Option Addr) (n : Nat) (Q : Nat → OpV) : Prop where
  ok : ∀ i, i < n → OkV (Q i)
  rd : n = 0 ∨ ∃ b off, A = some ⟨b, off, none⟩ ∧ b < B ∧ ∀ i, i < n → ∀ j v, (opL (Q i))[j]? = some v → w.cell? ⟨b, off + (i * 3 + j), none⟩ = some v
theorem IsOps.below {B : Nat} {w w' : World} {A : Option Addr} {n : Nat} {Q : Nat → OpV} (h : IsOps B w A n Q) (hb : Below B w w') : IsOps B w' A n Q :=
  ⟨h.ok, h.rd.imp id fun ⟨b, off, e, hl, hc⟩ => ⟨b, off, e, hl, fun i hi j v hj => (hb.cell (p := ⟨b, off + (i * 3 + j), none⟩) hl).trans (hc i hi j v hj)⟩⟩
theorem IsOps.get {B : Nat} {w : World} {A : Option Addr} {n : Nat} {Q : Nat → OpV} (h : IsOps B w A n Q) {i : Nat} (hi : i < n) : ∃ b off, A = some ⟨b, off, none⟩ ∧ b < B ∧ w.cell? ⟨b, off + i * 3, none⟩ = some (.int .i64 (Q i).c) ∧ w.cell? ⟨b, off + i * 3 + 1, none⟩ = some (.int .u64 ((Q i).o : Nat)) ∧ w.cell? ⟨b, off + i * 3 + 2, none⟩ = some (.int .i64 (Q i).n) ∧ w.rangeAt b (off + i * 3) (opL (Q i)) := by
  rcases h.rd with h0 | ⟨b, off, e, hl, hc⟩
  · omega
  · exact ⟨b, off, e, hl, hc i hi 0 _ rfl, hc i hi 1 _ rfl, hc i hi 2 _ rfl, fun j v hj => by have := hc i hi j v hj; rwa [← Nat.add_assoc] at this⟩
theorem open_op {w : World} {cs : List Value} (hl : cs.length = 3) (h : Shp.Good w shOp cs) : ∃ q : OpV, cs = opL q ∧ OkV q := by
  unfold shOp at h
  obtain ⟨v0, r0, rfl, ⟨c, e0, hc⟩, h, hl⟩ := Shp.good_cons1 h rfl hl
  obtain ⟨v1, r1, rfl, ⟨o, e1, ho⟩, h, hl⟩ := Shp.good_cons1 h rfl hl
  obtain ⟨v2, r2, rfl, ⟨n, e2, hn⟩, h, hl⟩ := Shp.good_cons1 h rfl hl
  obtain rfl := Shp.good_nil hl
  injection e0 with e0
  injection e1 with e1
  injection e2 with e2
  subst e0 e1 e2
  obtain ⟨o, rfl, _⟩ := nat_u64 ho
  exact ⟨⟨c, o, n⟩, rfl, ⟨hc, ho, hn⟩⟩
theorem open_ops {w : World} {A : Option Addr} {n c : Nat} (h : Shp.Good w (.list (.obj shOp)) [.slice A n c]) : n ≤ 9223372036854775807 ∧ ∃ Q, IsOps w.heap.size w A n Q := by
  obtain ⟨h1, h2, h3, C, hC, h4⟩ := Shp.list_rows h (by show 0 < 3; omega)
  haveI : Inhabited OpV := ⟨⟨0, 0, 0⟩⟩
  obtain ⟨Q, hQ⟩ := Go.Deep.choose_lt (p := fun i (q : OpV) => C i = opL q ∧ OkV q) (fun i hi => open_op (hC i hi).1 (hC i hi).2)
  refine ⟨by have : maxLen = 9223372036854775807 := rfl; omega, Q, fun i hi => (hQ i hi).2, ?_⟩
  rcases h4 with h0 | ⟨b, off, e, hlt, hx⟩
  · exact .inl h0
  · exact .inr ⟨b, off, e, hlt, fun i hi j v hv => hx i hi j v (by rw [(hQ i hi).1]; exact hv)⟩
end Fee
end Go.Proofs.Ytlbfjdpcnnplnaa
