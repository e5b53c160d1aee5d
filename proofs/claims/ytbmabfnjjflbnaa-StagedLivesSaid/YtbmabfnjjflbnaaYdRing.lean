/- Package staged: a ring of packets in memory: put, take; twin. -/
import Derived.Test.YtbmabfnjjflbnaaYdNum
import Derived.Test.YtbmabfnjjflbnaaRowV
import Derived.StillTailTactics
import Derived.Deep.MidRow
namespace Go.Proofs.Ytbmabfnjjflbnaa
namespace Yd
open Go.ChangeShapes Go.WideShapes Go.ChangeAt Go.RowKit Go.Maps
open Num Mem Words Chacha Aead Poly Quiet RowV

/-- a packet in two cells from q on -/
def PkIn (w : World) (cs : List Value) (q : Nat) (x : Pk) : Prop :=
  (∀ i, x.f i < 256) ∧ x.len ≤ 1500 ∧ x.num < 18446744073709551616 ∧ ∃ a, cs[q * 2]? = some (.int .u64 (x.num : Nat)) ∧ cs[q * 2 + 1]? = some (.slice (some ⟨a, 0, none⟩) x.len x.len) ∧ Whole w a 5 (byteCells x.f x.len).toArray ∧ a ≠ x.av
/-- the value of a packet whose bytes lie in block a -/
def pkL (a : Nat) (x : Pk) : List Value := [.int .u64 (x.num : Nat), .slice (some ⟨a, 0, none⟩) x.len x.len]
def pkV (a : Nat) (x : Pk) : Value := .agg (pkL a x).toArray
structure RingC (w : World) (r : Nat) (L : List Pk) (cs : List Value) (p : Nat) : Prop where
  blk : Whole w r 66 cs.toArray
  len : cs.length = 18
  pos : p < 8
  few : L.length ≤ 8
  at16 : cs[16]? = some (.int .i64 (p : Nat))
  at17 : cs[17]? = some (.int .i64 (L.length : Nat))
  pk : ∀ i x, L[i]? = some x → PkIn w cs ((p + i) % 8) x
def RingW (w : World) (r : Nat) (L : List Pk) : Prop := ∃ cs p, RingC w r L cs p

/-- the blocks of bytes stay -/
def KpB (X Y : World) : Prop := ∀ (g : Nat) (cs : Array Value), Whole X g 5 cs → Whole Y g 5 cs
theorem KpB.trans {X Y Z : World} (h : KpB X Y) (k : KpB Y Z) : KpB X Z := fun g cs e => k g cs (h g cs e)
theorem KpB.below {X Y : World} (h : Below X.heap.size X Y) : KpB X Y := fun _ _ e => e.below h e.lt
theorem KpB.refl (X : World) : KpB X X := fun _ _ e => e
theorem whole_type {X : World} {g : Nat} {t u : TypeId} {cs ds : Array Value} (h : Whole X g t cs) (k : Whole X g u ds) : t = u := by
  have e := h.symm.trans k
  injection e with e
  injection e with _ e
theorem KpB.grown {X Y : World} {r : Nat} {t : TypeId} {cs : Array Value} (h : X.grownBy Y (some r)) (hr : Whole X r t cs) (ht : t ≠ 5) : KpB X Y := fun g ds e =>
  (h.block g e.lt (by intro k; injection k with k; subst k; exact ht (whole_type hr e))).trans e
theorem PkIn.keep {w w' : World} {cs : List Value} {q : Nat} {x : Pk} (h : PkIn w cs q x) (hk : KpB w w') : PkIn w' cs q x := by
  obtain ⟨h1, h2, h3, a, h4, h5, h6⟩ := h
  exact ⟨h1, h2, h3, a, h4, h5, hk _ _ h6.1, h6.2⟩
theorem RingC.keep {w w' : World} {r : Nat} {L : List Pk} {cs : List Value} {p : Nat} (h : RingC w r L cs p) (hk : KpB w w') (hr : Whole w' r 66 cs.toArray) : RingC w' r L cs p :=
  ⟨hr, h.len, h.pos, h.few, h.at16, h.at17, fun i x hx => (h.pk i x hx).keep hk⟩
theorem RingC.below {w w' : World} {r : Nat} {L : List Pk} {cs : List Value} {p : Nat} (h : RingC w r L cs p) (hb : Below w.heap.size w w') : RingC w' r L cs p := h.keep (KpB.below hb) (h.blk.below hb h.blk.lt)
theorem RingW.below {w w' : World} {r : Nat} {L : List Pk} (h : RingW w r L) (hb : Below w.heap.size w w') : RingW w' r L := by
  obtain ⟨cs, p, h⟩ := h
  exact ⟨cs, p, h.below hb⟩
theorem RingW.lt {w : World} {r : Nat} {L : List Pk} (h : RingW w r L) : r < w.heap.size := by
  obtain ⟨cs, p, h⟩ := h
  exact h.blk.lt

theorem get_of_len {cs : List Value} {n i : Nat} (h : cs.length = n) (hi : i < n) : ∃ v, cs[i]? = some v := ⟨cs[i]'(by omega), List.getElem?_eq_getElem (by omega)⟩

/-- what a ring's cells are behind a take -/
theorem ring_taken {w w' : World} {r : Nat} {x : Pk} {L : List Pk} {cs : List Value} {p : Nat} (h : RingC w r (x :: L) cs p) (hk : KpB w w') (u v : Value)
    (hw : Whole w' r 66 ((((cs.set (p * 2) u).set (p * 2 + 1) v).set 16 (.int .i64 (((p + 1) % 8 : Nat)))).set 17 (.int .i64 (L.length : Nat))).toArray) : RingC w' r L ((((cs.set (p * 2) u).set (p * 2 + 1) v).set 16 (.int .i64 (((p + 1) % 8 : Nat)))).set 17 (.int .i64 (L.length : Nat))) ((p + 1) % 8) := by
  have hp := h.pos
  have hl := h.len
  have hf := h.few
  rw [List.length_cons] at hf
  refine ⟨hw, by simp [hl], Nat.mod_lt _ (by omega), by omega, ?_, ?_, fun i y hy => ?_⟩
  · rw [List.getElem?_set_ne (by omega), List.getElem?_set_self (by simp [hl])]
  · rw [List.getElem?_set_self (by simp [hl])]
  · have hi : i < L.length := (List.getElem?_eq_some_iff.1 hy).1
    obtain ⟨h1, h2, h3, a, h4, h5, h6⟩ := h.pk (i + 1) y (by rw [List.getElem?_cons_succ]; exact hy)
    have e : ((p + 1) % 8 + i) % 8 = (p + (i + 1)) % 8 := by omega
    have hne : (p + (i + 1)) % 8 ≠ p := by omega
    have hlt : (p + (i + 1)) % 8 < 8 := Nat.mod_lt _ (by omega)
    rw [e]
    generalize (p + (i + 1)) % 8 = q at *
    refine ⟨h1, h2, h3, a, ?_, ?_, hk _ _ h6.1, h6.2⟩
    · rw [List.getElem?_set_ne (by omega), List.getElem?_set_ne (by omega), List.getElem?_set_ne (by omega), List.getElem?_set_ne (by omega)]
      exact h4
    · rw [List.getElem?_set_ne (by omega), List.getElem?_set_ne (by omega), List.getElem?_set_ne (by omega), List.getElem?_set_ne (by omega)]
      exact h5
theorem ring_put {w w' : World} {r : Nat} {x : Pk} {L : List Pk} {cs : List Value} {p a : Nat} (h : RingC w r L cs p) (hk : KpB w w') (hfew : L.length < 8) (h1 : ∀ i, x.f i < 256) (h2 : x.len ≤ 1500) (h3 : x.num < 18446744073709551616) (h6 : Whole w' a 5 (byteCells x.f x.len).toArray) (h7 : a ≠ x.av) (q : Nat) (hq : q = (p + L.length) % 8)
    (hw : Whole w' r 66 (((cs.set (q * 2) (.int .u64 (x.num : Nat))).set (q * 2 + 1) (.slice (some ⟨a, 0, none⟩) x.len x.len)).set 17 (.int .i64 (L.length + 1 : Nat))).toArray) : RingC w' r (L ++ [x]) (((cs.set (q * 2) (.int .u64 (x.num : Nat))).set (q * 2 + 1) (.slice (some ⟨a, 0, none⟩) x.len x.len)).set 17 (.int .i64 (L.length + 1 : Nat))) p := by
  have hp := h.pos
  have hl := h.len
  have hq8 : q < 8 := by rw [hq]; exact Nat.mod_lt _ (by omega)
  refine ⟨hw, by simp [hl], hp, by rw [List.length_append]; exact hfew, ?_, ?_, fun i y hy => ?_⟩
  · rw [List.getElem?_set_ne (by omega), List.getElem?_set_ne (by omega), List.getElem?_set_ne (by omega)]
    exact h.at16
  · rw [List.getElem?_set_self (by simp [hl])]
    rw [List.length_append]; rfl
  · by_cases hi : i < L.length
    · rw [List.getElem?_append_left hi] at hy
      obtain ⟨h1, h2, h3, b, h4, h5, h6⟩ := h.pk i y hy
      have hne : (p + i) % 8 ≠ q := by omega
      have hlt : (p + i) % 8 < 8 := Nat.mod_lt _ (by omega)
      generalize (p + i) % 8 = k at *
      refine ⟨h1, h2, h3, b, ?_, ?_, hk _ _ h6.1, h6.2⟩
      · rw [List.getElem?_set_ne (by omega), List.getElem?_set_ne (by omega), List.getElem?_set_ne (by omega)]
        exact h4
      · rw [List.getElem?_set_ne (by omega), List.getElem?_set_ne (by omega), List.getElem?_set_ne (by omega)]
        exact h5
    · rw [List.getElem?_append_right (by omega)] at hy
      have hi' : i < (L ++ [x]).length := by
        rcases Nat.lt_or_ge i (L ++ [x]).length with k | k
        · exact k
        · rw [List.length_append] at k
          simp only [List.length_cons, List.length_nil] at k
          rw [List.getElem?_eq_none (by simp only [List.length_cons, List.length_nil]; omega)] at hy
          cases hy
      have ei : i = L.length := by rw [List.length_append] at hi'; simp only [List.length_cons, List.length_nil] at hi'; omega
      subst ei
      rw [Nat.sub_self] at hy
      injection hy with hy
      subst hy
      rw [← hq]
      refine ⟨h1, h2, h3, a, ?_, ?_, h6, h7⟩
      · rw [List.getElem?_set_ne (by omega), List.getElem?_set_ne (by omega), List.getElem?_set_self (by rw [hl]; omega)]
      · rw [List.getElem?_set_ne (by omega), List.getElem?_set_self (by simp [hl]; omega)]
end Yd
end Go.Proofs.Ytbmabfnjjflbnaa
