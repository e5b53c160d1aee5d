/- Numbers of layer 12 (inner): the sum of numbers of two bytes, folded; how it stands modulo 65535; a header of which one byte is turned. Nothing of the program. -/
import Derived.Test.YtiemcfgjpcnloaaKit
namespace Go.Proofs.Ytiemcfgjpcnloaa
namespace Inner
open Mem

/-- the number that byte i counts as -/
def weigh (f : Nat → Nat) (i : Nat) : Nat := if i % 2 = 0 then f i * 256 else f i
/-- the plain sum of the numbers of two bytes of the first n bytes -/
def sumS (f : Nat → Nat) : Nat → Nat
  | 0 => 0
  | n + 1 => sumS f n + weigh f n
/-- a sum with what leaves at the top added below -/
def canon (s : Nat) : Nat := if s = 0 then 0 else (s - 1) % 65535 + 1
def fold1 (x : Nat) : Nat := x / 65536 + x % 65536

theorem weigh_lt {f : Nat → Nat} (hf : ∀ i, f i < 256) (i : Nat) : weigh f i ≤ 65280 := by
  have := hf i
  unfold weigh
  split <;> omega
theorem sumS_le {f : Nat → Nat} (hf : ∀ i, f i < 256) (n : Nat) : sumS f n ≤ 65280 * n := by
  induction n with
  | zero => simp [sumS]
  | succ n ih =>
    have := weigh_lt hf n
    unfold sumS
    omega
theorem canon_le (s : Nat) : canon s ≤ 65535 := by
  unfold canon
  split <;> omega
theorem canon_small {s : Nat} (h : s ≤ 65535) : canon s = s := by
  unfold canon
  split <;> omega
theorem canon_fold (s : Nat) : canon (fold1 s) = canon s := by
  unfold canon fold1
  by_cases h : s = 0
  · subst h; rfl
  · rw [if_neg h, if_neg (by omega)]
    omega
theorem fold_first {s : Nat} (h : s < 18446744073709551616) : fold1 s ≤ 281474976776190 := by unfold fold1; omega
theorem fold_second {s : Nat} (h : s ≤ 281474976776190) : fold1 s ≤ 4295032830 := by unfold fold1; omega
theorem fold_third {s : Nat} (h : s ≤ 4295032830) : fold1 s ≤ 131070 := by unfold fold1; omega
theorem fold_fourth {s : Nat} (h : s ≤ 131070) : fold1 s ≤ 65535 := by unfold fold1; omega
theorem fold_all {s : Nat} (h : s < 18446744073709551616) : fold1 (fold1 (fold1 (fold1 s))) = canon s := by
  have h4 := fold_fourth (fold_third (fold_second (fold_first h)))
  rw [← canon_fold s, ← canon_fold (fold1 s), ← canon_fold (fold1 (fold1 s)), ← canon_fold (fold1 (fold1 (fold1 s))), canon_small h4]
theorem canon_add (s t : Nat) : canon (canon s + t) = canon (s + t) := by
  unfold canon
  by_cases h : s = 0
  · subst h; simp
  · rw [if_neg h, if_neg (by omega), if_neg (by omega)]
    omega
theorem canon_both (s t : Nat) : canon (canon s + canon t) = canon (s + t) := by
  rw [canon_add, Nat.add_comm s, canon_add, Nat.add_comm t]
/-- the document's own step -/
theorem canon_step (s t : Nat) (h : t ≤ 65535) : canon (s + t) = if canon s + t > 65535 then canon s + t - 65535 else canon s + t := by
  have := canon_le s
  rw [← canon_add]
  unfold canon at this ⊢
  by_cases h0 : s = 0
  · subst h0
    simp
    split <;> split <;> omega
  · rw [if_neg h0] at this ⊢
    split <;> split <;> omega
theorem canon_full {s : Nat} : canon s = 65535 ↔ s ≠ 0 ∧ s % 65535 = 0 := by
  unfold canon
  by_cases h : s = 0
  · subst h; simp
  · rw [if_neg h]
    omega
theorem canon_zero {s : Nat} : canon s = 0 ↔ s = 0 := by
  unfold canon
  by_cases h : s = 0
  · subst h; simp
  · rw [if_neg h]
    omega
theorem canon_mod {s : Nat} : canon s % 65535 = s % 65535 := by
  unfold canon
  by_cases h : s = 0
  · subst h; rfl
  · rw [if_neg h]
    omega
/-- a sum and what it is short of -/
theorem canon_short (s : Nat) (h : 0 < s) : canon (s + (65535 - canon s)) = 65535 := by
  have h1 := canon_le s
  have h2 := canon_mod (s := s)
  rw [canon_full]
  omega

theorem sumS_congr {f g : Nat → Nat} (n : Nat) (h : ∀ i, i < n → f i = g i) : sumS f n = sumS g n := by
  induction n with
  | zero => rfl
  | succ n ih =>
    unfold sumS weigh
    rw [ih (fun i hi => h i (by omega)), h n (by omega)]
theorem sumS_join (f g : Nat → Nat) (n : Nat) (he : n % 2 = 0) (m : Nat) : sumS (fun i => if i < n then f i else g (i - n)) (n + m) = sumS f n + sumS g m := by
  induction m with
  | zero =>
    rw [Nat.add_zero, show sumS g 0 = 0 from rfl, Nat.add_zero]
    exact sumS_congr n fun i hi => if_pos hi
  | succ m ih =>
    rw [← Nat.add_assoc, show ∀ F, sumS F (n + m + 1) = sumS F (n + m) + weigh F (n + m) from fun _ => rfl, ih, show sumS g (m + 1) = sumS g m + weigh g m from rfl]
    unfold weigh
    dsimp only
    rw [if_neg (show ¬ n + m < n by omega), Nat.add_sub_cancel_left]
    by_cases e : m % 2 = 0
    · rw [if_pos (by omega), if_pos e]; omega
    · rw [if_neg (by omega), if_neg e]; omega
/-- one byte is another one -/
theorem sumS_turn (f : Nat → Nat) (p v n : Nat) (h : p < n) : sumS (fun i => if i = p then v else f i) n + (if p % 2 = 0 then f p * 256 else f p) = sumS f n + (if p % 2 = 0 then v * 256 else v) := by
  induction n with
  | zero => omega
  | succ n ih =>
    rw [show ∀ F, sumS F (n + 1) = sumS F n + weigh F n from fun _ => rfl, show ∀ F, sumS F (n + 1) = sumS F n + weigh F n from fun _ => rfl]
    by_cases e : p = n
    · subst e
      rw [sumS_congr (g := f) p fun i hi => if_neg (by omega)]
      unfold weigh
      dsimp only
      rw [if_pos rfl]
      split <;> omega
    · have := ih (by omega)
      rw [show weigh (fun i => if i = p then v else f i) n = weigh f n from by unfold weigh; dsimp only; rw [if_neg (show ¬ n = p by omega)]]
      omega
theorem canon_turn (f : Nat → Nat) (p v n : Nat) (h : p < n) (hf : f p < 256) (hv : v < 256) (hne : v ≠ f p) (hs : canon (sumS f n) = 65535) : canon (sumS (fun i => if i = p then v else f i) n) ≠ 65535 := by
  have h1 := sumS_turn f p v n h
  rw [canon_full] at hs
  rw [Ne, canon_full]
  generalize sumS f n = s at h1 hs
  generalize sumS (fun i => if i = p then v else f i) n = t at h1 ⊢
  generalize f p = a at hf hne h1
  by_cases e : p % 2 = 0
  · rw [if_pos e, if_pos e] at h1
    omega
  · rw [if_neg e, if_neg e] at h1
    omega
theorem xor_ne (a by_ : Nat) (h : by_ ≠ 0) : a ^^^ by_ ≠ a := by
  intro e
  apply h
  have h1 : a ^^^ (a ^^^ by_) = a ^^^ a := by rw [e]
  rw [← Nat.xor_assoc, Nat.xor_self, Nat.zero_xor] at h1
  exact h1
end Inner
end Go.Proofs.Ytiemcfgjpcnloaa
