/- What waits in a yard, and when a map of pointers by numbers agrees with a table. -/
import Derived.Test.YtbmabfnjjflbnaaKit
import Derived.Maps.RangeWalk
import Derived.Maps.Ext
namespace Go.Proofs.Ytbmabfnjjflbnaa
namespace Yd
open Go.ChangeShapes Go.WideShapes Go.ChangeAt Go.RowKit Go.Maps
open Num Mem Words Chacha Aead Poly

/-- a packet: its number, its length, its bytes -/
structure Pk where
  num : Nat
  len : Nat
  f : Nat → Nat
  /-- a block that its bytes do not lie in -/
  av : Nat

def keyO (o : Int) : Lit := .int .i64 o
def ptrV : Option Nat → Value
  | none => .pointer none
  | some r => .pointer (some ⟨r, 0, none⟩)
def ptrD : Option Nat → DataW Unit
  | none => .lit .nil
  | some r => .lit (.int .i64 r)
/-- how a pointer reads -/
def ptrR : Value → Option (DataW Unit × List MemPlace)
  | .pointer none => some (.lit .nil, [])
  | .pointer (some ⟨r, 0, none⟩) => some (.lit (.int .i64 r), [])
  | _ => none
theorem ptrR_mk (q : Option Nat) : ptrR (ptrV q) = some (ptrD q, []) := by cases q <;> rfl
theorem ptrR_inv {x : Value} {y : DataW Unit × List MemPlace} (h : ptrR x = some y) : ∃ q : Option Nat, x = ptrV q ∧ y = (ptrD q, []) := by
  unfold ptrR at h
  split at h
  · exact ⟨none, rfl, (Option.some.inj h).symm⟩
  · rename_i r
    exact ⟨some r, rfl, (Option.some.inj h).symm⟩
  · cases h
theorem ptrD_inj {q q' : Option Nat} (h : ptrD q = ptrD q') : q = q' := by
  cases q <;> cases q' <;> simp only [ptrD] at h
  · rfl
  · injection h with h; cases h
  · injection h with h; cases h
  · injection h with h
    injection h with _ h
    rw [Int.ofNat.inj h]

/-- a map of pointers reads as a table -/
structure PAg (D : DataW Unit) (m : Int → Option Nat) : Prop where
  hs : ∀ o, has D (keyO o) = (m o).isSome
  at_ : ∀ o, D.atKey (keyO o) (ptrD none) = ptrD (m o)
def upd {α : Type} (m : Int → α) (o : Int) (v : α) (x : Int) : α := if x = o then v else m x
theorem upd_same {α : Type} (m : Int → α) (o : Int) (v : α) : upd m o v o = v := if_pos rfl
theorem upd_other {α : Type} (m : Int → α) {o x : Int} (v : α) (h : x ≠ o) : upd m o v x = m x := if_neg h
theorem upd_self {α : Type} (m : Int → α) (o : Int) : upd m o (m o) = m := by
  funext x
  unfold upd
  split
  · rename_i h; rw [h]
  · rfl
theorem upd_twice {α : Type} (m : Int → α) (o : Int) (u v : α) : upd (upd m o u) o v = upd m o v := by
  funext x
  unfold upd
  split
  · rfl
  · rename_i h; rfl
theorem keyO_ne {o o' : Int} (h : o' ≠ o) : keyO o' ≠ keyO o := by
  intro e
  injection e with _ e
  exact h e
theorem pag_empty : PAg (.map []) (fun _ => none) := ⟨fun _ => rfl, fun _ => rfl⟩
theorem PAg.put {D : DataW Unit} {m : Int → Option Nat} (h : PAg D m) (hD : IsMap D) (o : Int) (r : Nat) : PAg (D.put (keyO o) (ptrD (some r))) (upd m o (some r)) := by
  refine ⟨fun x => ?_, fun x => ?_⟩
  · by_cases e : x = o
    · subst e
      rw [has_put_same hD (show WideAt.IsKeyLit (keyO x) from trivial), upd_same]; rfl
    · rw [has_put_other (keyO_ne e), upd_other _ _ e, h.hs]
  · by_cases e : x = o
    · subst e
      rw [atKey_put_same hD (show WideAt.IsKeyLit (keyO x) from trivial), upd_same]
    · rw [atKey_put_other (keyO_ne e), upd_other _ _ e, h.at_]
theorem PAg.del {D : DataW Unit} {m : Int → Option Nat} (h : PAg D m) (o : Int) : PAg (D.del (keyO o)) (upd m o none) := by
  refine ⟨fun x => ?_, fun x => ?_⟩
  · by_cases e : x = o
    · subst e
      rw [has_del_same, upd_same]; rfl
    · rw [has_del_other (keyO_ne e), upd_other _ _ e, h.hs]
  · by_cases e : x = o
    · subst e
      rw [atKey_del_same, upd_same]
    · rw [atKey_del_other (keyO_ne e), upd_other _ _ e, h.at_]

/-- the sum of a table over the owners from 1 to 16 -/
def sumN (c : Int → Nat) : Nat → Nat
  | 0 => 0
  | n + 1 => sumN c n + c ((n + 1 : Nat) : Int)
def sum16 (c : Int → Nat) : Nat := sumN c 16
theorem sumN_congr {c d : Int → Nat} : ∀ n : Nat, (∀ k : Nat, 1 ≤ k → k ≤ n → c (k : Int) = d (k : Int)) → sumN c n = sumN d n
  | 0, _ => rfl
  | n + 1, h => by
    show sumN c n + _ = sumN d n + _
    rw [sumN_congr n (fun k h1 h2 => h k h1 (by omega)), h (n + 1) (by omega) (by omega)]
theorem sumN_upd (c : Int → Nat) (o : Nat) (v : Nat) : ∀ n : Nat, sumN (upd c o v) n + (if 1 ≤ o ∧ o ≤ n then c o else 0) = sumN c n + (if 1 ≤ o ∧ o ≤ n then v else 0)
  | 0 => by rw [if_neg (by omega), if_neg (by omega)]; rfl
  | n + 1 => by
    have ih := sumN_upd c o v n
    show sumN (upd c o v) n + upd c o v ((n + 1 : Nat) : Int) + _ = sumN c n + c ((n + 1 : Nat) : Int) + _
    by_cases e : o = n + 1
    · subst e
      rw [if_neg (by omega), if_neg (by omega)] at ih
      rw [upd_same, if_pos (by omega), if_pos (by omega)]
      omega
    · rw [upd_other _ _ (by omega)]
      by_cases h : 1 ≤ o ∧ o ≤ n
      · rw [if_pos h, if_pos h] at ih
        rw [if_pos (by omega), if_pos (by omega)]
        omega
      · rw [if_neg h, if_neg h] at ih
        rw [if_neg (by omega), if_neg (by omega)]
        omega
theorem sum16_upd (c : Int → Nat) (o : Int) (h1 : 1 ≤ o) (h2 : o ≤ 16) (v : Nat) : sum16 (upd c o v) + c o = sum16 c + v := by
  obtain ⟨k, rfl⟩ : ∃ k : Nat, o = (k : Int) := ⟨o.toNat, by omega⟩
  have h := sumN_upd c k v 16
  rw [if_pos (by omega), if_pos (by omega)] at h
  exact h
theorem sum16_zero : sum16 (fun _ => 0) = 0 := rfl
theorem sumN_le {c : Int → Nat} {b : Nat} (h : ∀ o, c o ≤ b) : ∀ n, sumN c n ≤ n * b
  | 0 => Nat.zero_le _
  | n + 1 => by
    have := sumN_le h n
    have h2 := h ((n + 1 : Nat) : Int)
    show sumN c n + _ ≤ _
    rw [Nat.add_mul]
    omega
end Yd
end Go.Proofs.Ytbmabfnjjflbnaa
