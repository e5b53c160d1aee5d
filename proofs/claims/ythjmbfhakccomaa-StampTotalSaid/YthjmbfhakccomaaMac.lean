/- Marks of texts as plain arithmetic: piece by piece, from a number on. -/
import Derived.Test.YthjmbfhakccomaaMarkEnd
namespace Go.Proofs.Ythjmbfhakccomaa
namespace Poly
open Num Mem Words PolyN

/-- the factor's number -/
def rk (key : Nat → Nat) : Nat := lv (fac key) 5
/-- the number of a piece -/
def pn (f : Nat → Nat) (n size : Nat) : Nat := le (pce f n size) 0 17

theorem pn_lt (f : Nat → Nat) (hf : ∀ i, f i < 256) (n size : Nat) (hn : n ≤ size) (hs : size ≤ 16) : pn f n size < 2 ^ (26 * 5) := by
  unfold pn
  rw [show le (pce f n size) 0 17 = le (pce f n size) 0 16 + pce f n size (0 + 16) * 2 ^ (8 * 16) from rfl]
  have h := le_lt (pce_lt hf n size) 0 16
  have h2 : pce f n size (0 + 16) ≤ 1 := by
    unfold pce
    rw [if_neg (by omega)]
    split <;> omega
  have h3 : pce f n size (0 + 16) * 2 ^ (8 * 16) ≤ 1 * 2 ^ (8 * 16) := Nat.mul_le_mul_right _ h2
  have h4 : 2 ^ (8 * 16) + 1 * 2 ^ (8 * 16) ≤ 2 ^ (26 * 5) := by decide +kernel
  omega

theorem pn_congr {f g : Nat → Nat} {n size : Nat} (h : ∀ i, i < n → f i = g i) : pn f n size = pn g n size := by
  unfold pn
  refine le_congr 17 fun i _ => ?_
  unfold pce
  by_cases l : 0 + i < n
  · rw [if_pos l, if_pos l, h _ l]
  · rw [if_neg l, if_neg l]

/-- one piece more -/
def stp (R a x : Nat) : Nat := (a + x) * R % P
theorem stp_lt (R a x : Nat) : stp R a x < P := Nat.mod_lt _ P_pos

/-- k pieces more of a text of m bytes, from a on -/
def macN (R : Nat) (pad : Bool) : Nat → Nat → (Nat → Nat) → Nat → Nat
  | 0, a, _, _ => a
  | k + 1, a, g, m => macN R pad k (stp R a (pn g (min m 16) (if pad then 16 else min m 16))) (fun i => g (16 + i)) (m - 16)
/-- all of a text -/
def mac (R : Nat) (pad : Bool) (a : Nat) (g : Nat → Nat) (m : Nat) : Nat := macN R pad ((m + 15) / 16) a g m

theorem mac_zero (R : Nat) (pad : Bool) (a : Nat) (g : Nat → Nat) : mac R pad a g 0 = a := rfl
theorem mac_step (R : Nat) (pad : Bool) (a : Nat) (g : Nat → Nat) (m : Nat) (h : 0 < m) : mac R pad a g m = mac R pad (stp R a (pn g (min m 16) (if pad then 16 else min m 16))) (fun i => g (16 + i)) (m - 16) := by
  unfold mac
  obtain ⟨k, hk⟩ : ∃ k, (m + 15) / 16 = k + 1 := ⟨(m + 15) / 16 - 1, by omega⟩
  rw [hk, macN, show (m - 16 + 15) / 16 = k by omega]
theorem mac_congr (R : Nat) (pad : Bool) : ∀ (m : Nat) (a : Nat) (f g : Nat → Nat), (∀ i, i < m → f i = g i) → mac R pad a f m = mac R pad a g m := by
  intro m
  induction m using Nat.strongRecOn with
  | ind m ih =>
    intro a f g h
    rcases Nat.eq_zero_or_pos m with rfl | hm
    · rfl
    · rw [mac_step R pad a f m hm, mac_step R pad a g m hm, pn_congr (f := f) (g := g) (fun i hi => h i (by omega))]
      exact ih (m - 16) (by omega) _ _ _ fun i hi => h (16 + i) (by omega)
theorem mac_lt (R : Nat) (pad : Bool) : ∀ (m : Nat) (a : Nat) (f : Nat → Nat), a < P → mac R pad a f m < P := by
  intro m
  induction m using Nat.strongRecOn with
  | ind m ih =>
    intro a f h
    rcases Nat.eq_zero_or_pos m with rfl | hm
    · exact h
    · rw [mac_step R pad a f m hm]
      exact ih (m - 16) (by omega) _ _ (stp_lt _ _ _)

/-- what the limbs make of it -/
theorem stp_limbs (h q r : Nat → Nat) (a x R : Nat) (hh : ∀ i, i < 5 → h i + q i < 268435456) (hr : ∀ i, i < 5 → r i < 67108864) (ha : lv h 5 % P = a) (hx : lv q 5 = x) (hR : lv r 5 = R) :
    lv (ti (fun i => h i + q i) r) 5 % P = stp R a x := by
  rw [(ti_spec (fun i => h i + q i) r hh hr).1, lv_add, hx, hR, ← ha]
  unfold stp
  rw [Nat.mul_mod, Nat.mul_mod (lv h 5 % P + x), Nat.mod_add_mod]

/-- a text's mark, and that of parts that are filled up -/
def sumAt (key : Nat → Nat) (f : Nat → Nat) (n i : Nat) : Nat := tag (mac (rk key) false 0 f n) key i

end Poly
end Go.Proofs.Ythjmbfhakccomaa
