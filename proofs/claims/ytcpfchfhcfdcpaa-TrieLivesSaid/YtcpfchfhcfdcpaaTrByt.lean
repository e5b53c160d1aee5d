/- The bytes of digits: a route's cells out of its digits. -/
import Derived.Test.YtcpfchfhcfdcpaaTrMem
namespace Go.Proofs.Ytcpfchfhcfdcpaa
namespace Tri
open Go.ChangeShapes Go.WideShapes Go.ChangeAt Go.RowKit
open Num Mem Words Chacha Aead Poly Quiet Ops Adr

def b8 (a b c d e f g h : Bool) : Nat := 128 * a.toNat + 64 * b.toNat + 32 * c.toNat + 16 * d.toNat + 8 * e.toNat + 4 * f.toNat + 2 * g.toNat + h.toNat
theorem b8_lt (a b c d e f g h : Bool) : b8 a b c d e f g h < 256 := by revert a b c d e f g h; decide +kernel
theorem b8_dig0 : ∀ a b c d e f g h : Bool, (b8 a b c d e f g h / 2 ^ (7 - 0) % 2 == 1) = a ∧ (b8 a b c d e f g h / 2 ^ (7 - 1) % 2 == 1) = b ∧ (b8 a b c d e f g h / 2 ^ (7 - 2) % 2 == 1) = c ∧ (b8 a b c d e f g h / 2 ^ (7 - 3) % 2 == 1) = d ∧ (b8 a b c d e f g h / 2 ^ (7 - 4) % 2 == 1) = e ∧ (b8 a b c d e f g h / 2 ^ (7 - 5) % 2 == 1) = f ∧ (b8 a b c d e f g h / 2 ^ (7 - 6) % 2 == 1) = g ∧ (b8 a b c d e f g h / 2 ^ (7 - 7) % 2 == 1) = h := by decide +kernel
def byt (p : Bs) (i : Nat) : Nat := b8 (p.getD (8 * i) false) (p.getD (8 * i + 1) false) (p.getD (8 * i + 2) false) (p.getD (8 * i + 3) false) (p.getD (8 * i + 4) false) (p.getD (8 * i + 5) false) (p.getD (8 * i + 6) false) (p.getD (8 * i + 7) false)
theorem byt_lt (p : Bs) (i : Nat) : byt p i < 256 := b8_lt _ _ _ _ _ _ _ _
theorem byt_dig (p : Bs) (i : Nat) : dig (byt p) i = p.getD i false := by
  unfold dig byt
  obtain ⟨h0, h1, h2, h3, h4, h5, h6, h7⟩ := b8_dig0 (p.getD (8 * (i / 8)) false) (p.getD (8 * (i / 8) + 1) false) (p.getD (8 * (i / 8) + 2) false) (p.getD (8 * (i / 8) + 3) false) (p.getD (8 * (i / 8) + 4) false) (p.getD (8 * (i / 8) + 5) false) (p.getD (8 * (i / 8) + 6) false) (p.getD (8 * (i / 8) + 7) false)
  have hi : i = 8 * (i / 8) + i % 8 := by omega
  have hlt : i % 8 < 8 := Nat.mod_lt _ (by decide)
  generalize i % 8 = r at hi hlt ⊢
  rcases (show r = 0 ∨ r = 1 ∨ r = 2 ∨ r = 3 ∨ r = 4 ∨ r = 5 ∨ r = 6 ∨ r = 7 by omega) with e | e | e | e | e | e | e | e <;> subst e
  · rw [h0]; exact congrArg (fun k => p.getD k false) hi.symm
  · rw [h1]; exact congrArg (fun k => p.getD k false) hi.symm
  · rw [h2]; exact congrArg (fun k => p.getD k false) hi.symm
  · rw [h3]; exact congrArg (fun k => p.getD k false) hi.symm
  · rw [h4]; exact congrArg (fun k => p.getD k false) hi.symm
  · rw [h5]; exact congrArg (fun k => p.getD k false) hi.symm
  · rw [h6]; exact congrArg (fun k => p.getD k false) hi.symm
  · rw [h7]; exact congrArg (fun k => p.getD k false) hi.symm
theorem bs_byt (p : Bs) : bs (byt p) p.length = p := by
  refine List.ext_getElem? fun i => ?_
  rcases Nat.lt_or_ge i p.length with h | h
  · rw [bs_getE _ h, byt_dig]
    simp [List.getD, List.getElem?_eq_getElem h]
  · rw [List.getElem?_eq_none (by rw [bs_length]; exact h), List.getElem?_eq_none h]
theorem byt_far {p : Bs} {i : Nat} (h : p.length ≤ 8 * i) : byt p i = 0 := by
  have k : ∀ j, p.length ≤ j → p.getD j false = false := fun j hj => by simp [List.getD, List.getElem?_eq_none hj]
  unfold byt
  rw [k _ h, k _ (by omega), k _ (by omega), k _ (by omega), k _ (by omega), k _ (by omega), k _ (by omega), k _ (by omega)]
  rfl
theorem right_byt {s : Bool} {p : Bs} (h : (p.length : Int) ≤ digitsI s) : rightPB s (byt p) (p.length : Int) = true := by
  have hr : rightB s (byt p) = true := by
    unfold rightB
    cases s with
    | true => rfl
    | false =>
      rw [Bool.false_or, decide_eq_true_eq]
      intro i hi
      have : (p.length : Int) ≤ 32 := h
      exact byt_far (by omega)
  rw [rightPB_iff]
  refine ⟨maskE_ok hr (Int.natCast_nonneg _) h, ?_⟩
  refine (bytes_eq (fun i => maskF_lt (byt_lt p) _ i) (byt_lt p) 16).2 fun i _ => ?_
  rw [dig_mask (byt_lt p), byt_dig]
  rcases Nat.lt_or_ge i p.length with hi | hi
  · rw [decide_eq_true hi, Bool.true_and]
  · rw [decide_eq_false (Nat.not_lt.2 hi), Bool.false_and]
    simp [List.getD, List.getElem?_eq_none hi]
theorem pref_byt {s : Bool} {f : Nat → Nat} {z : Nat} (hf : ∀ i, f i < 256) (h : rightPB s f (z : Int) = true) : prefL s f (z : Int) = prefL s (byt (bs f z)) ((bs f z).length : Nat) := by
  have hz := (right_parts h).2.2.1
  have h2 := (right_eq hf (byt_lt (bs f z)) h (right_byt (s := s) (by rw [bs_length]; exact hz))).2 (by rw [bs_byt])
  rw [bs_length]
  exact pref_congr h2.1
/-- a route -/
structure Rt where
  s : Bool
  p : Bs
  o : Int
def Rt.cells (x : Rt) : List Value := routeL x.s (byt x.p) (x.p.length : Int) x.o
theorem Rt.len (x : Rt) : x.cells.length = 19 := routeL_length _ _ _ _
theorem Rt.each (x : Rt) : ∀ v ∈ x.cells, v.oneCell' = true := route_each _ _ _ _
theorem route_byt {s : Bool} {f : Nat → Nat} {z : Nat} (hf : ∀ i, f i < 256) (h : rightPB s f (z : Int) = true) (o : Int) : routeL s f (z : Int) o = (Rt.mk s (bs f z) o).cells := by
  unfold routeL Rt.cells routeL
  rw [pref_byt hf h]
end Tri
end Go.Proofs.Ytcpfchfhcfdcpaa
