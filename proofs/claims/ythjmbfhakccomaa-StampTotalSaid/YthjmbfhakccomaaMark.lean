/- The calls begin and add of package poly: a mark on its way. -/
import Derived.Test.YthjmbfhakccomaaSplit
namespace Go.Proofs.Ythjmbfhakccomaa
namespace Poly
open Go.ChangeShapes Go.WideShapes Go.ChangeAt Go.RowKit
open Num Mem Words PolyN Chacha Quiet

/-- the limbs of a mark: the factor's, and those of the text so far -/
def mk2 (r h : Nat → Nat) (i : Nat) : Nat := if i < 5 then r i else h (i - 5)
/-- the factor's limbs -/
def fac (key : Nat → Nat) : Nat → Nat := sp (fun i => if i < 16 then cl key i else 0)
/-- a piece: n bytes, with noughts up to size, and a 1 behind -/
def pce (f : Nat → Nat) (n size i : Nat) : Nat := if i < n then f i else if i = size then 1 else 0
theorem pce_lt {f : Nat → Nat} (h : ∀ i, f i < 256) (n size i : Nat) : pce f n size i < 256 := by
  have := h i
  unfold pce
  split
  · exact this
  · split <;> omega

theorem mk2_r (r h : Nat → Nat) : ∀ i, i < 5 → mk2 r h (0 + i) = r i := fun i hi => by unfold mk2; rw [if_pos (by omega), Nat.zero_add]
theorem mk2_h (r h : Nat → Nat) : ∀ i, i < 5 → mk2 r h (5 + i) = h i := fun i hi => by unfold mk2; rw [if_neg (by omega), Nat.add_sub_cancel_left]
theorem whole_part {w : World} {g n : Nat} {t : TypeId} {f : Nat → Nat} (h : Whole w g t (qcells f n).toArray) (o m : Nat) (F : Nat → Nat) (hF : ∀ i, i < m → f (o + i) = F i) (hm : o + m ≤ n) : w.rangeAt g o (qcells F m) := by
  intro j v hj
  have hj' : j < m := by
    rcases Nat.lt_or_ge j m with k | k
    · exact k
    · rw [List.getElem?_eq_none (by rw [qcells_length]; exact k)] at hj
      cases hj
  rw [h.num (o + j) (by omega), hF j hj', ← hj, qcells_get F m j hj']

theorem whole_puts {t : TypeId} {g n : Nat} (F : Nat → Nat) : ∀ (m s : Nat) (o : Nat) (w : World) (f : Nat → Nat), Whole w g t (qcells f n).toArray → o + m ≤ n →
    Whole (w.setCells g o ((List.range' s m).map fun i => .int .u64 (F i : Nat))) g t (qcells (fun i => if o ≤ i ∧ i < o + m then F (i - o + s) else f i) n).toArray
  | 0, s, o, w, f, h, _ => by
    rw [qcells_congr (f := fun i => if o ≤ i ∧ i < o + 0 then F (i - o + s) else f i) (g := f) (fun i _ => if_neg (by omega))]
    exact h
  | m + 1, s, o, w, f, h, hm => by
    rw [List.range'_succ, List.map_cons, World.setCells]
    have h1 := h.put o (.int .u64 (F s : Nat))
    rw [qcells_set] at h1
    have h2 := whole_puts F m (s + 1) (o + 1) _ _ h1 (by omega)
    rw [qcells_congr (g := fun i => if o ≤ i ∧ i < o + (m + 1) then F (i - o + s) else f i) (fun i _ => ?_)] at h2
    · exact h2
    · by_cases e : i = o
      · subst e
        rw [if_neg (by omega), if_pos rfl, if_pos (by omega), Nat.sub_self, Nat.zero_add]
      · by_cases l : o + 1 ≤ i ∧ i < o + 1 + m
        · rw [if_pos l, if_pos (by omega)]
          congr 1
          omega
        · rw [if_neg l, if_neg e, if_neg (by omega)]

theorem whole_mark {w : World} {g : Nat} {t : TypeId} {r h F : Nat → Nat} (H : Whole w g t (qcells (mk2 r h) 10).toArray) : Whole (w.setCells g 5 (qcells F 5)) g t (qcells (mk2 r F) 10).toArray := by
  have h1 := whole_puts F 5 0 5 w (mk2 r h) H (by omega)
  rw [qcells_congr (g := mk2 r F) (fun i _ => by
    unfold mk2
    by_cases l : i < 5
    · rw [if_neg (by omega), if_pos l, if_pos l]
    · rw [if_pos (by omega), if_neg l, Nat.add_zero])] at h1
  rw [← List.range_eq_range'] at h1
  exact h1

theorem grown_puts (g : Nat) : ∀ (vs : List Value) (o : Nat) (w : World), w.grownBy (w.setCells g o vs) (some g)
  | [], _, _ => World.grownBy.refl _ _
  | v :: r, o, w => grown_trans (grown_set w g o v) (grown_puts g r (o + 1) _)

theorem mark_there {w : World} {g : Nat} {t : TypeId} {f : Nat → Nat} (h : Whole w g t (qcells f 10).toArray) : w.there g 5 5 := fun j hj => by
  rw [h.num (5 + j) (by omega)]
  exact ⟨rfl, h.free _⟩

theorem wpList_built {P : Program} {ops : Array Oper} {rest : List Oper} {o : Oper} {a : Act} {w : World} {Q : Exit → Act → World → Prop} (hg : o.guard = none) (t : TypeId) (x : Operand) (ho : o.op = .build t #[(0, x)])
    (cs : Array Value) (hx : a.eval x = .agg cs) (vs : Array Value) (hb : P.built t [(0, .agg cs)] = some vs) (h : wpList P ops Q rest (a.put o.dst (.agg vs)) w) : wpList P ops Q (o :: rest) a w := by
  have e : P.built t ((#[(0, x)] : Array (Nat × Operand)).map fun (i, x) => (i, a.eval x)).toList = some vs := by
    simpa [hx] using hb
  refine wpList_build hg t #[(0, x)] ho (by rw [e]; rfl) ?_
  rw [e]
  exact h

end Poly
end Go.Proofs.Ythjmbfhakccomaa
