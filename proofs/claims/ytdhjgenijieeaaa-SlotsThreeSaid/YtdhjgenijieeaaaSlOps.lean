/- Ops of an argument of layer 28. -/
import Derived.Test.YtdhjgenijieeaaaSlNum
import Derived.Test.YtdhjgenijieeaaaSh
namespace Go.Proofs.Ytdhjgenijieeaaa
namespace Sl
open Go.ChangeShapes Go.WideShapes Go.ChangeAt Go.RowKit
open Num Mem Words Chacha Aead Poly Ops Quiet WinT Win Pr

/-- a call -/
structure OpS where
  k : Int
  s : Nat → Nat
  r : Nat → Nat
  l : Nat
  m : Nat
  one : Bool
  A : Option Addr
  n : Nat
  c : Nat
  f : Nat → Nat
  rl : Nat
  rn : Nat
  A2 : Option Addr
  n2 : Nat
  c2 : Nat
  f2 : Nat → Nat
  t : Int
def OpS.cells (q : OpS) : List Value := .int .i64 q.k :: (keysL q.s q.r q.l q.m q.one ++ (.slice q.A q.n q.c :: (dataL q.rl q.rn (.slice q.A2 q.n2 q.c2) ++ [.int .i64 q.t])))
theorem OpS.len (q : OpS) : q.cells.length = 73 := by simp [OpS.cells, keysL_length, dataL]
structure OpS.Ok (w : World) (q : OpS) : Prop where
  s : ∀ i, q.s i < 256
  r : ∀ i, q.r i < 256
  l : q.l < 4294967296
  m : q.m < 4294967296
  f : ∀ i, q.f i < 256
  rd : Rd w q.A q.n q.f
  rn : q.rn < 18446744073709551616
  f2 : ∀ i, q.f2 i < 256
  rd2 : Rd w q.A2 q.n2 q.f2
  nc : q.n2 ≤ q.c2
  c2 : q.c2 ≤ 9223372036854775807
  t0 : -9223372036854775808 ≤ q.t
  t1 : q.t ≤ 9223372036854775807
  n0 : q.n ≤ 9223372036854775807
theorem OpS.one' (q : OpS) : q.cells.toArray.all (·.oneCell') = true := by
  rw [List.all_toArray, List.all_eq_true]
  intro v hv
  unfold OpS.cells keysL dataL at hv
  rcases List.mem_cons.1 hv with rfl | hv
  · rfl
  rcases List.mem_append.1 hv with hv | hv
  · rcases List.mem_append.1 hv with h | h
    · exact bytes_each _ _ v h
    rcases List.mem_append.1 h with h | h
    · exact bytes_each _ _ v h
    · simp only [List.mem_cons, List.not_mem_nil, or_false] at h
      rcases h with rfl | rfl | rfl <;> rfl
  · simp only [List.mem_cons, List.mem_append, List.not_mem_nil, or_false] at hv
    rcases hv with rfl | (rfl | rfl | rfl) | rfl <;> rfl
section
variable {w : World} {B o : Nat} {q : OpS}
theorem op_keys (h : w.rangeAt B o q.cells) : w.rangeAt B (o + 1) (keysL q.s q.r q.l q.m q.one) := fun j v hj => by
  have := h (1 + j) v (by unfold OpS.cells; rw [Nat.add_comm, List.getElem?_cons_succ, List.getElem?_append_left (List.getElem?_eq_some_iff.1 hj).1]; exact hj)
  rwa [show o + 1 + j = o + (1 + j) by omega]
theorem op_tail (h : w.rangeAt B o q.cells) : w.rangeAt B (o + 68) (.slice q.A q.n q.c :: (dataL q.rl q.rn (.slice q.A2 q.n2 q.c2) ++ [.int .i64 q.t])) := fun j v hj => by
  have := h (68 + j) v (by unfold OpS.cells; rw [show 68 + j = (67 + j) + 1 by omega, List.getElem?_cons_succ, List.getElem?_append_right (by rw [keysL_length]; omega), keysL_length, show 67 + j - 67 = j by omega]; exact hj)
  rwa [show o + 68 + j = o + (68 + j) by omega]
theorem op_kind (h : w.rangeAt B o q.cells) : w.cell? ⟨B, o, none⟩ = some (.int .i64 q.k) := h 0 _ rfl
theorem op_plain (h : w.rangeAt B o q.cells) : w.cell? ⟨B, o + 68, none⟩ = some (.slice q.A q.n q.c) := op_tail h 0 _ rfl
theorem op_data (h : w.rangeAt B o q.cells) : w.rangeAt B (o + 69) (dataL q.rl q.rn (.slice q.A2 q.n2 q.c2)) := fun j v hj => by
  have := op_tail h (1 + j) v (by rw [Nat.add_comm, List.getElem?_cons_succ, List.getElem?_append_left (List.getElem?_eq_some_iff.1 hj).1]; exact hj)
  rwa [show o + 69 + j = o + 68 + (1 + j) by omega]
theorem op_box (h : w.rangeAt B o q.cells) : w.cell? ⟨B, o + 71, none⟩ = some (.slice q.A2 q.n2 q.c2) := op_data h 2 _ rfl
theorem op_time (h : w.rangeAt B o q.cells) : w.cell? ⟨B, o + 72, none⟩ = some (.int .i64 q.t) := op_tail h 4 _ rfl
end
abbrev shK : Shp.Sh := .obj (.cons (.row 32 (.int .u8)) (.cons (.row 32 (.int .u8)) (.cons (.int .u32) (.cons (.int .u32) (.cons .bool .nil)))))
abbrev shD : Shp.Sh := .obj (.cons (.int .u32) (.cons (.int .u64) (.cons (.list (.int .u8)) .nil)))
abbrev shS : Shp.Sh := .cons (.int .i64) (.cons shK (.cons (.list (.int .u8)) (.cons shD (.cons (.int .i64) .nil))))
theorem good_row {w : World} {n : Nat} {cs : List Value} (h : Shp.Good w (.row n (.int .u8)) cs) (hl : cs.length = n) : ∃ f : Nat → Nat, (∀ i, f i < 256) ∧ cs = byteCells f n := by
  have hk : ∀ i, i < n → ∃ z : Nat, z < 256 ∧ cs[i]? = some (.int .u8 (z : Int)) := fun i hi => by
    obtain ⟨a, ha, hw⟩ := h i hi
    obtain ⟨z, rfl, hz⟩ := nat_u8 hw
    refine ⟨z, hz, ?_⟩
    simp only [Shp.Sh.size, Nat.mul_one] at ha
    have h3 : ((cs.drop i).take 1)[0]? = some (.int .u8 (z : Int)) := by rw [ha]; rfl
    rw [List.getElem?_take_of_lt (by omega), List.getElem?_drop] at h3
    exact h3
  haveI : Inhabited Nat := ⟨0⟩
  obtain ⟨g, hg⟩ := Go.Deep.choose_lt (p := fun i (z : Nat) => z < 256 ∧ cs[i]? = some (.int .u8 (z : Int))) hk
  refine ⟨fun i => if i < n then g i else 0, fun i => ?_, ?_⟩
  · dsimp only
    split
    · rename_i hi; exact (hg i hi).1
    · omega
  · refine List.ext_getElem? fun i => ?_
    rcases Nat.lt_or_ge i n with hi | hi
    · rw [(hg i hi).2]
      simp [byteCells, hi]
    · rw [List.getElem?_eq_none (by omega), List.getElem?_eq_none (by rw [byteCells_length]; exact hi)]
theorem good_keys {w : World} {cs : List Value} (h : Shp.Good w shK cs) (hl : cs.length = 67) : ∃ (s r : Nat → Nat) (l m : Nat) (one : Bool), (∀ i, s i < 256) ∧ (∀ i, r i < 256) ∧ l < 4294967296 ∧ m < 4294967296 ∧ cs = keysL s r l m one := by
  obtain ⟨h1, h2, h3, h4, h5, _⟩ := h
  have e32 : (Shp.Sh.row 32 (.int .u8)).size = 32 := rfl
  have e1 : (Shp.Sh.int IntKind.u32).size = 1 := rfl
  rw [e32] at h1 h2 h3 h4 h5
  rw [e1] at h3 h4 h5
  obtain ⟨s, hs, es⟩ := good_row h1 (by rw [List.length_take]; omega)
  obtain ⟨r, hr, er⟩ := good_row h2 (by rw [List.length_take, List.length_drop]; omega)
  obtain ⟨a, ea, ha⟩ := h3
  obtain ⟨b, eb, hb⟩ := h4
  obtain ⟨d, ed⟩ := h5
  obtain ⟨l, rfl, hl2⟩ := nat_u32 ha
  obtain ⟨m, rfl, hm2⟩ := nat_u32 hb
  refine ⟨s, r, l, m, d, hs, hr, hl2, hm2, ?_⟩
  have ed' : ((((cs.drop 32).drop 32).drop 1).drop 1) = [.bool d] := by
    rw [← ed]; exact (List.take_of_length_le (by simp only [List.length_drop]; show cs.length - 32 - 32 - 1 - 1 ≤ 1; omega)).symm
  show cs = byteCells s 32 ++ (byteCells r 32 ++ [.int .u32 (l : Int), .int .u32 (m : Int), .bool d])
  rw [← List.take_append_drop 32 cs, es, ← List.take_append_drop 32 (cs.drop 32), er, ← List.take_append_drop 1 ((cs.drop 32).drop 32), ea, ← List.take_append_drop 1 (((cs.drop 32).drop 32).drop 1), eb, ed']
  rfl
theorem good_op {w : World} {cs : List Value} (hl : cs.length = 73) (h : Shp.Good w shS cs) : ∃ q : OpS, cs = q.cells ∧ q.Ok w := by
  obtain ⟨h1, h2, h3, h4, h5, _⟩ := h
  have e0 : (Shp.Sh.int IntKind.i64).size = 1 := rfl
  have eK : shK.size = 67 := rfl
  have eL : (Shp.Sh.list (.int .u8)).size = 1 := rfl
  have eD : shD.size = 3 := rfl
  rw [e0] at h1 h2 h3 h4 h5
  rw [eK] at h2 h3 h4 h5
  rw [eL] at h3 h4 h5
  rw [eD] at h4 h5
  obtain ⟨k, ek, hk⟩ := h1
  obtain ⟨s, r, l, m, one, hs, hr, hl2, hm2, eg⟩ := good_keys h2 (by rw [List.length_take, List.length_drop]; omega)
  have h3' := h3
  obtain ⟨A, n, c, e3, _⟩ := h3
  rw [e3] at h3'
  obtain ⟨f, hf, hrd, hnc, hc, _⟩ := Shp.good_bytes h3'
  obtain ⟨d1, d2, d3, _⟩ := h4
  have eu : (Shp.Sh.int IntKind.u32).size = 1 := rfl
  have ev : (Shp.Sh.int IntKind.u64).size = 1 := rfl
  rw [eu] at d1 d2 d3
  rw [ev] at d2 d3
  rw [eL] at d3
  obtain ⟨a, ea, ha⟩ := d1
  obtain ⟨b, eb, hb⟩ := d2
  obtain ⟨rl, rfl, hrl⟩ := nat_u32 ha
  obtain ⟨rn, rfl, hrn⟩ := nat_u64 hb
  have d3' := d3
  obtain ⟨A2, n2, c2, e6, _⟩ := d3
  rw [e6] at d3'
  obtain ⟨f2, hf2, hrd2, hnc2, hc2, _⟩ := Shp.good_bytes d3'
  obtain ⟨t, et, ht⟩ := h5
  have htt : -9223372036854775808 ≤ t ∧ t ≤ 9223372036854775807 := by
    simp [Lit.wf, IntKind.min, IntKind.max, IntKind.signed, IntKind.bits] at ht
    omega
  refine ⟨⟨k, s, r, l, m, one, A, n, c, f, rl, rn, A2, n2, c2, f2, t⟩, ?_, ⟨hs, hr, hl2, hm2, hf, hrd, hrn, hf2, hrd2, hnc2, hc2, htt.1, htt.2, by show n ≤ _; omega⟩⟩
  obtain ⟨Y1, hY1⟩ : ∃ Y, cs.drop 1 = Y := ⟨_, rfl⟩
  have l1 : Y1.length = 72 := by rw [← hY1, List.length_drop]; omega
  rw [hY1] at eg e3 ea eb e6 et
  obtain ⟨Y2, hY2⟩ : ∃ Y, Y1.drop 67 = Y := ⟨_, rfl⟩
  have l2 : Y2.length = 5 := by rw [← hY2, List.length_drop]; omega
  rw [eK] at *
  rw [hY2] at e3 ea eb e6 et
  show cs = .int .i64 k :: (keysL s r l m one ++ (.slice A n c :: (dataL rl rn (.slice A2 n2 c2) ++ [.int .i64 t])))
  rw [← List.take_append_drop 1 cs, ek, hY1, ← List.take_append_drop 67 Y1, eg, hY2]
  match Y2, l2 with
  | [y0, y1, y2, y3, y4], _ =>
    simp at e3 ea eb e6 et
    simp [dataL, e3, ea, eb, e6, et]
structure IsOps (w : World) (A : Option Addr) (n : Nat) (Q : Nat → OpS) : Prop where
  ok : ∀ i, i < n → (Q i).Ok w
  rd : n = 0 ∨ ∃ b off, A = some ⟨b, off, none⟩ ∧ b < w.heap.size ∧ ∀ i, i < n → ∀ j v, (Q i).cells[j]? = some v → w.cell? ⟨b, off + (i * 73 + j), none⟩ = some v
theorem IsOps.range {w w' : World} {A : Option Addr} {n : Nat} {Q : Nat → OpS} (h : IsOps w A n Q) (hb : Below w.heap.size w w') {i : Nat} (hi : i < n) : ∃ b off, A = some ⟨b, off, none⟩ ∧ w'.rangeAt b (off + i * 73) (Q i).cells := by
  rcases h.2 with h0 | ⟨b, off, e, hlt, hx⟩
  · omega
  · refine ⟨b, off, e, fun j v hj => ?_⟩
    have := hx i hi j v hj
    rw [← this, Nat.add_assoc]
    exact hb.cell (p := ⟨b, off + (i * 73 + j), none⟩) hlt
theorem open_ops {w : World} {A : Option Addr} {n c : Nat} (h : Shp.Good w (.list (.obj shS)) [.slice A n c]) : n ≤ 9223372036854775807 ∧ ∃ Q, IsOps w A n Q := by
  obtain ⟨h1, h2, h3, C, hC, h4⟩ := Shp.list_rows h (by show 0 < 73; omega)
  haveI : Inhabited OpS := ⟨⟨0, fun _ => 0, fun _ => 0, 0, 0, false, none, 0, 0, fun _ => 0, 0, 0, none, 0, 0, fun _ => 0, 0⟩⟩
  obtain ⟨Q, hQ⟩ := Go.Deep.choose_lt (p := fun i (q : OpS) => C i = q.cells ∧ q.Ok w) (fun i hi => good_op (hC i hi).1 (hC i hi).2)
  refine ⟨by have : maxLen = 9223372036854775807 := rfl; omega, Q, fun i hi => (hQ i hi).2, ?_⟩
  rcases h4 with h0 | ⟨b, off, e, hlt, hx⟩
  · exact .inl h0
  · exact .inr ⟨b, off, e, hlt, fun i hi j v hv => hx i hi j v (by rw [(hQ i hi).1]; exact hv)⟩
end Sl
end Go.Proofs.Ytdhjgenijieeaaa
