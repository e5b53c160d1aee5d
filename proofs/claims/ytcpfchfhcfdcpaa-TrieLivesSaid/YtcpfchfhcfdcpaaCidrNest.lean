/- Masks of masks, as mathematics; '==' of prefixes. Nothing that is not in the texts ahead. -/
import Derived.Test.YtcpfchfhcfdcpaaCidrCalls
namespace Go.Proofs.Ytcpfchfhcfdcpaa
namespace Adr
open Go.RowKit Num Mem

theorem top_top : ∀ j, j < 9 → ∀ k, k ≤ j → ∀ x, x < 256 → topB k (topB j x) = topB k x := by decide +kernel
theorem top_zero (k : Nat) : topB k 0 = 0 := by unfold topB; simp
theorem keptN_mono {z n : Int} (h : z ≤ n) (i : Nat) : keptN z i ≤ keptN n i := by unfold keptN; omega
theorem mask_mask {f : Nat → Nat} (hf : ∀ i, f i < 256) {z n : Int} (h : z ≤ n) (i : Nat) : maskF z (maskF n f) i = maskF z f i :=
  top_top _ (Nat.lt_succ_of_le (keptN_le n i)) _ (keptN_mono h i) _ (hf i)
theorem right_mask {s : Bool} {f : Nat → Nat} (h : rightB s f = true) (n : Int) : rightB s (maskF n f) = true := by
  unfold rightB at h ⊢
  cases s
  · simp only [Bool.false_or, decide_eq_true_eq] at h ⊢
    intro i hi
    show topB _ (f i.1) = 0
    rw [h i hi, top_zero]
  · rfl
theorem maskE_ok {s : Bool} {f : Nat → Nat} {z : Int} (h : rightB s f = true) (h0 : 0 ≤ z) (h1 : z ≤ digitsI s) : maskE s f z = 0 := by
  unfold maskE
  rw [if_neg (by rw [h]; decide), if_neg (by omega)]
theorem rightP_mask {s : Bool} {f : Nat → Nat} (hf : ∀ i, f i < 256) {n : Int} (h : rightB s f = true) (h0 : 0 ≤ n) (h1 : n ≤ digitsI s) : rightPB s (maskF n f) n = true :=
  rightPB_iff.2 ⟨maskE_ok (right_mask h n) h0 h1, fun i _ => mask_mask hf (Int.le_refl n) i⟩
theorem holds_mask {s : Bool} {f : Nat → Nat} (hf : ∀ i, f i < 256) {n : Int} (h : rightB s f = true) (h0 : 0 ≤ n) (h1 : n ≤ digitsI s) : holdsPB s (maskF n f) n s f = true :=
  holdsPB_iff.2 ⟨rightP_mask hf h h0 h1, maskE_ok h h0 h1, rfl, fun _ _ => rfl⟩
theorem holds_eq {s sp : Bool} {f fp : Nat → Nat} (hf : ∀ i, f i < 256) {n : Int} (h : rightB s f = true) (h0 : 0 ≤ n) (h1 : n ≤ digitsI s) : holdsPB sp fp n s f = true ↔ (sp = s ∧ ∀ i, i < 16 → fp i = maskF n f i) ∧ n = n := by
  rw [holdsPB_iff]
  constructor
  · rintro ⟨_, _, e, g⟩
    exact ⟨⟨e.symm, fun i hi => (g i hi).symm⟩, rfl⟩
  · rintro ⟨⟨e, g⟩, _⟩
    subst e
    refine ⟨rightPB_iff.2 ⟨?_, fun i hi => ?_⟩, maskE_ok h h0 h1, rfl, fun i hi => (g i hi).symm⟩
    · unfold maskE
      rw [if_neg, if_neg (by omega)]
      rw [show rightB sp fp = true from ?_]
      · decide
      · have hr := right_mask h n
        unfold rightB at hr ⊢
        cases sp
        · simp only [Bool.false_or, decide_eq_true_eq] at hr ⊢
          intro i hi
          rw [g i.1 i.2]
          exact hr i hi
        · rfl
    · rw [show maskF n fp i = topB (keptN n i) (fp i) from rfl, g i hi]
      exact mask_mask hf (Int.le_refl n) i
theorem holds_less {s sp : Bool} {f fp : Nat → Nat} (hf : ∀ i, f i < 256) {n z : Int} (h : rightB s f = true) (h1 : n ≤ digitsI s) (hz0 : 0 ≤ z) (hz : z ≤ n) : holdsPB sp fp z s f = (rightPB sp fp z && holdsPB sp fp z s (maskF n f)) := by
  rw [Bool.eq_iff_iff, Bool.and_eq_true, holdsPB_iff, holdsPB_iff]
  constructor
  · rintro ⟨a, b, c, d⟩
    exact ⟨a, a, maskE_ok (right_mask h n) hz0 (by omega), c, fun i hi => by rw [mask_mask hf hz]; exact d i hi⟩
  · rintro ⟨a, _, b, c, d⟩
    exact ⟨a, maskE_ok h hz0 (by omega), c, fun i hi => by rw [← mask_mask hf hz]; exact d i hi⟩
theorem top_step : ∀ r, r < 8 → ∀ x, x < 256 → topB r x ||| (x / 2 ^ (7 - r) % 2 * 2 ^ (7 - r)) = topB (r + 1) x := by decide +kernel
theorem keptN_nat (k i : Nat) : keptN (k : Int) i = min (k - 8 * i) 8 := by unfold keptN; omega
/-- one digit more -/
theorem maskF_step {f : Nat → Nat} (hf : ∀ i, f i < 256) (k : Nat) : maskF (k : Int) f (k / 8) ||| (f (k / 8) / 2 ^ (7 - k % 8) % 2 * 2 ^ (7 - k % 8)) = maskF ((k + 1 : Nat) : Int) f (k / 8) := by
  unfold maskF
  rw [keptN_nat, keptN_nat, show min (k - 8 * (k / 8)) 8 = k % 8 by omega, show min (k + 1 - 8 * (k / 8)) 8 = k % 8 + 1 by omega]
  exact top_step _ (Nat.mod_lt _ (by omega)) _ (hf _)
theorem maskF_other (f : Nat → Nat) (k i : Nat) (h : i ≠ k / 8) : maskF ((k + 1 : Nat) : Int) f i = maskF (k : Int) f i := by
  unfold maskF
  rw [keptN_nat, keptN_nat, show min (k + 1 - 8 * i) 8 = min (k - 8 * i) 8 by omega]
theorem top_eight (x : Nat) : topB 8 x = x := by unfold topB; simp
theorem maskF_all {s : Bool} {f : Nat → Nat} (h : rightB s f = true) (i : Nat) (hi : i < 16) : maskF (digitsI s) f i = f i := by
  unfold maskF digitsI
  cases s
  · by_cases h4 : 4 ≤ i
    · have hz : f i = 0 := by
        unfold rightB at h
        simp only [Bool.false_or, decide_eq_true_eq] at h
        exact h ⟨i, hi⟩ h4
      rw [hz]
      exact top_zero _
    · rw [show keptN (if false = true then 128 else 32) i = 8 by unfold keptN; simp; omega]
      exact top_eight _
  · rw [show keptN (if true = true then 128 else 32) i = 8 by unfold keptN; simp; omega]
    exact top_eight _
theorem maskF_none (f : Nat → Nat) (i : Nat) : maskF 0 f i = topB 0 (f i) := by
  unfold maskF
  rw [show keptN 0 i = 0 by unfold keptN; omega]
theorem top_none {x : Nat} (h : x < 256) : topB 0 x = 0 := by unfold topB; rw [Nat.div_eq_of_lt (by simpa using h), Nat.zero_mul]
end Adr
end Go.Proofs.Ytcpfchfhcfdcpaa
