/- Slots as rows of cells. -/
import Derived.Test.YtdhjgenijieeaaaPairAlive
namespace Go.Proofs.Ytdhjgenijieeaaa
namespace Sl
open Go.ChangeShapes Go.WideShapes Go.ChangeAt Go.RowKit
open Num Mem Words Chacha Aead Poly Ops Quiet WinT Win Pr

/-- slots: who is there, and the three pairs -/
structure SS where
  hp : Bool
  hc : Bool
  hn : Bool
  p : PS
  c : PS
  n : PS
def SS.ok (x : SS) : Prop := x.p.ok ∧ x.c.ok ∧ x.n.ok
def slL (x : SS) : List Value := [.bool x.hp, .bool x.hc, .bool x.hn] ++ (pairL x.p ++ (pairL x.c ++ pairL x.n))
def slV (x : SS) : Value := .agg (slL x).toArray
theorem slL_length (x : SS) : (slL x).length = 219 := by simp [slL, pairL_length]
theorem sl_size (x : SS) : (slL x).toArray.size = 219 := by rw [List.size_toArray, slL_length]
theorem pair_each (p : PS) : ∀ v ∈ pairL p, v.oneCell' = true := by
  have := pair_one p
  rw [List.all_toArray, List.all_eq_true] at this
  exact this
theorem sl_one (x : SS) : (slL x).toArray.all (·.oneCell') = true := by
  rw [List.all_toArray, List.all_eq_true]
  intro v hv
  rcases List.mem_append.1 hv with h | h
  · simp only [List.mem_cons, List.not_mem_nil, or_false] at h
    rcases h with rfl | rfl | rfl <;> rfl
  rcases List.mem_append.1 h with h | h
  · exact pair_each _ v h
  rcases List.mem_append.1 h with h | h
  · exact pair_each _ v h
  · exact pair_each _ v h
def putsA (cs : Array Value) : Nat → List Value → Array Value
  | _, [] => cs
  | o, v :: r => putsA (cs.setIfInBounds o v) (o + 1) r
theorem putsA_list : ∀ (vs : List Value) (cs : Array Value) (o : Nat), o + vs.length ≤ cs.size → (putsA cs o vs).toList = cs.toList.take o ++ (vs ++ cs.toList.drop (o + vs.length))
  | [], cs, o, _ => by simp [putsA]
  | v :: r, cs, o, h => by
    rw [List.length_cons] at h
    rw [putsA, putsA_list r _ _ (by simp; omega), Array.toList_setIfInBounds, List.take_set, List.drop_set_of_lt (by omega), List.length_cons, show o + 1 + r.length = o + (r.length + 1) by omega]
    have e : (cs.toList.take (o + 1)).set o v = cs.toList.take o ++ [v] := by
      have hlt : o < cs.toList.length := by rw [Array.length_toList]; omega
      rw [List.take_succ_eq_append_getElem hlt, List.set_append_right _ _ (by rw [List.length_take]; omega), List.length_take, Nat.min_eq_left (Nat.le_of_lt hlt), Nat.sub_self]
      rfl
    rw [e, List.append_assoc]
    rfl
theorem whole_puts {g : Nat} {t : TypeId} : ∀ (vs : List Value) {w : World} {cs : Array Value} (o : Nat), Whole w g t cs → Whole (w.setCells g o vs) g t (putsA cs o vs)
  | [], w, cs, o, h => h
  | v :: r, w, cs, o, h => by rw [World.setCells, putsA]; exact whole_puts r (o + 1) (h.put o v)
theorem puts_at {L P Q S vs : List Value} {o : Nat} (h : L = P ++ (Q ++ S)) (ho : P.length = o) (hv : vs.length = Q.length) : putsA L.toArray o vs = (P ++ (vs ++ S)).toArray := by
  apply Array.toList_inj.1
  have hs : o + vs.length ≤ L.toArray.size := by rw [List.size_toArray, h, List.length_append, List.length_append]; omega
  rw [putsA_list _ _ _ hs]
  show L.take o ++ (vs ++ L.drop (o + vs.length)) = _
  rw [h, List.take_left' ho, ← List.append_assoc P Q S, List.drop_left' (by rw [List.length_append, ho, hv])]
section
variable {w : World} {B : Nat} {T : TypeId} {x : SS}
theorem at_hp (h : Whole w B T (slL x).toArray) : w.cell? ⟨B, 0, none⟩ = some (.bool x.hp) := h.cell 0
theorem at_hc (h : Whole w B T (slL x).toArray) : w.cell? ⟨B, 1, none⟩ = some (.bool x.hc) := h.cell 1
theorem at_hn (h : Whole w B T (slL x).toArray) : w.cell? ⟨B, 2, none⟩ = some (.bool x.hn) := h.cell 2
theorem at_p (h : Whole w B T (slL x).toArray) : w.rangeAt B 3 (pairL x.p) := range_row (a := [.bool x.hp, .bool x.hc, .bool x.hn]) h rfl rfl
theorem at_c (h : Whole w B T (slL x).toArray) : w.rangeAt B 75 (pairL x.c) := range_row (a := [.bool x.hp, .bool x.hc, .bool x.hn] ++ pairL x.p) (b := pairL x.c) (c := pairL x.n) h (by simp [slL]) (by simp [pairL_length])
theorem at_n (h : Whole w B T (slL x).toArray) : w.rangeAt B 147 (pairL x.n) := range_row (a := [.bool x.hp, .bool x.hc, .bool x.hn] ++ (pairL x.p ++ pairL x.c)) (b := pairL x.n) (c := []) h (by simp [slL]) (by simp [pairL_length])
theorem there_at (h : Whole w B T (slL x).toArray) (o n : Nat) (ho : o + n ≤ 219) : w.there B o n := fun j hj => ⟨by rw [h.cell, Array.getElem?_eq_getElem (by rw [sl_size]; omega)]; rfl, h.free _⟩
theorem put_hp (h : Whole w B T (slL x).toArray) (v : Bool) : Whole (w.setCell ⟨B, 0, none⟩ (.bool v)) B T (slL { x with hp := v }).toArray := by
  have := h.put 0 (.bool v)
  rwa [List.setIfInBounds_toArray] at this
theorem put_hc (h : Whole w B T (slL x).toArray) (v : Bool) : Whole (w.setCell ⟨B, 1, none⟩ (.bool v)) B T (slL { x with hc := v }).toArray := by
  have := h.put 1 (.bool v)
  rwa [List.setIfInBounds_toArray] at this
theorem put_hn (h : Whole w B T (slL x).toArray) (v : Bool) : Whole (w.setCell ⟨B, 2, none⟩ (.bool v)) B T (slL { x with hn := v }).toArray := by
  have := h.put 2 (.bool v)
  rwa [List.setIfInBounds_toArray] at this
theorem put_p (h : Whole w B T (slL x).toArray) (q : PS) : Whole (w.setCells B 3 (pairL q)) B T (slL { x with p := q }).toArray := by
  have := whole_puts (pairL q) 3 h
  rwa [puts_at (L := slL x) (o := 3) (P := [.bool x.hp, .bool x.hc, .bool x.hn]) (Q := pairL x.p) (S := pairL x.c ++ pairL x.n) rfl rfl (by rw [pairL_length, pairL_length])] at this
theorem put_c (h : Whole w B T (slL x).toArray) (q : PS) : Whole (w.setCells B 75 (pairL q)) B T (slL { x with c := q }).toArray := by
  have := whole_puts (pairL q) 75 h
  rw [puts_at (P := [.bool x.hp, .bool x.hc, .bool x.hn] ++ pairL x.p) (Q := pairL x.c) (S := pairL x.n) (by simp [slL]) (by simp [pairL_length]) (by rw [pairL_length, pairL_length])] at this
  rwa [List.append_assoc] at this
theorem put_n (h : Whole w B T (slL x).toArray) (q : PS) : Whole (w.setCells B 147 (pairL q)) B T (slL { x with n := q }).toArray := by
  have := whole_puts (pairL q) 147 h
  rw [puts_at (P := [.bool x.hp, .bool x.hc, .bool x.hn] ++ (pairL x.p ++ pairL x.c)) (Q := pairL x.n) (S := []) (by simp [slL]) (by simp [pairL_length]) (by rw [pairL_length, pairL_length])] at this
  rw [List.append_nil, List.append_assoc, List.append_assoc] at this
  exact this
end
/-- nothing stands where no pair is -/
def tidy (x : SS) : SS := { x with p := if x.hp = true then x.p else noP, c := if x.hc = true then x.c else noP, n := if x.hn = true then x.n else noP }
theorem noP_ok : noP.ok := ⟨fun _ => (by decide : 0 < 256), fun _ => (by decide : 0 < 256), by decide, by decide, by decide, by decide, by decide, ⟨by decide, by decide, by decide⟩⟩
theorem tidy_ok {x : SS} (h : x.ok) : (tidy x).ok := by
  obtain ⟨h1, h2, h3⟩ := h
  unfold tidy SS.ok
  refine ⟨?_, ?_, ?_⟩ <;> (dsimp only; split <;> first | assumption | exact noP_ok)
def noS : SS := ⟨false, false, false, noP, noP, noP⟩
end Sl
end Go.Proofs.Ytdhjgenijieeaaa
