/- What is read of a packet that was made: layer 12. Nothing that the program does. -/
import Derived.Test.YtiemcfgjpcnloaaInnerSize
namespace Go.Proofs.Ytiemcfgjpcnloaa
namespace Inner
open Go.RowKit
open Num Mem Words Chacha Aead Poly Quiet

theorem wrE_zero {s t : Bool} {f g : Nat → Nat} {n : Nat} (h : wrE s t f g n = 0) : rightB s f = true ∧ rightB t g = true ∧ s = t ∧ hsz s + n ≤ 1500 := by
  unfold wrE at h
  by_cases k : rightB s f = true ∧ rightB t g = true ∧ s = t
  · rw [if_pos k] at h
    refine ⟨k.1, k.2.1, k.2.2, ?_⟩
    by_cases l : n > 1500 - hsz s
    · rw [if_pos l] at h; cases h
    · have : hsz s ≤ 40 := by unfold hsz; split <;> omega
      omega
  · rw [if_neg k] at h; cases h
theorem hsz_ge (s : Bool) : 20 ≤ hsz s := by unfold hsz; split <;> omega
theorem right_zero {f : Nat → Nat} (h : rightB false f = true) (i : Nat) (hi : i < 16) (h4 : 4 ≤ i) : f i = 0 := by
  unfold rightB at h
  rw [Bool.false_or, decide_eq_true_eq] at h
  exact h ⟨i, hi⟩ h4
theorem h4_sum (f g : Nat → Nat) (z : Nat) : sumS (h4 f g z) 20 = sumS (h4n f g z) 20 + sh4 f g z := by
  have e : h4 f g z = fun i => if i = 10 then sh4 f g z / 256 else (fun i => if i = 11 then sh4 f g z % 256 else h4n f g z i) i := by
    funext i
    rfl
  have n10 : h4n f g z 10 = 0 := rfl
  have n11 : h4n f g z 11 = 0 := rfl
  have s1 := sumS_turn (h4n f g z) 11 (sh4 f g z % 256) 20 (by omega)
  have s2 := sumS_turn (fun i => if i = 11 then sh4 f g z % 256 else h4n f g z i) 10 (sh4 f g z / 256) 20 (by omega)
  rw [← e] at s2
  rw [n11] at s1
  rw [if_neg (show ¬ (10 : Nat) = 11 by omega), n10] at s2
  rw [if_neg (show ¬ (11 : Nat) % 2 = 0 by omega), if_neg (show ¬ (11 : Nat) % 2 = 0 by omega)] at s1
  rw [if_pos (show (10 : Nat) % 2 = 0 by omega), if_pos (show (10 : Nat) % 2 = 0 by omega)] at s2
  omega
theorem sumS_pos {f : Nat → Nat} {n : Nat} (hn : 0 < n) (h : 0 < f 0) : 0 < sumS f n := by
  induction n with
  | zero => omega
  | succ n ih =>
    rw [sum_step]
    rcases Nat.eq_zero_or_pos n with e | e
    · subst e
      unfold weigh
      simp
      omega
    · have := ih e
      omega
theorem h4_full (f g : Nat → Nat) (z : Nat) : canon (sumS (h4 f g z) 20) = 65535 := by
  rw [h4_sum]
  exact canon_short _ (sumS_pos (by omega) (by show 0 < 69; omega))

/-- a packet's header is read as it was written -/
theorem wr_read {s : Bool} {f g bd T : Nat → Nat} {n k : Nat} (hE : wrE s s f g n = 0) (hT : ∀ i, i < hsz s + n → T i = wrF s f g n bd i) (hk : hsz s + n ≤ k) :
    rdE T k = 0 ∧ rdN T k = hsz s + n ∧ rdL T k = packL s f s g (hsz s + n : Nat) := by
  obtain ⟨r1, r2, _, hm⟩ := wrE_zero hE
  rcases s with _ | _
  · have z0 : hsz false = 20 := rfl
    rw [z0] at hT hk hm ⊢
    have hh : ∀ i, i < 20 → T i = h4 f g (20 + n) i := fun i hi => by
      rw [hT i (by omega)]
      unfold wrF
      rw [z0, if_pos hi]
      rfl
    have e0 : T 0 = 69 := hh 0 (by omega)
    have e2 : T 2 = (20 + n) / 256 := hh 2 (by omega)
    have e3 : T 3 = (20 + n) % 256 := hh 3 (by omega)
    have hd : hd4 T = 20 := by unfold hd4; rw [e0]
    have hs : sz4 T = 20 + n := by unfold sz4; rw [e2, e3]; omega
    have hz : rdE T k = 0 := rdE_zero.2 (.inl ⟨by rw [e0], by omega, by
      unfold ok4
      rw [hd, hs]
      refine ⟨by omega, by omega, hk, ?_⟩
      rw [sumS_congr 20 hh]
      exact h4_full _ _ _⟩)
    refine ⟨hz, ?_, ?_⟩
    · unfold rdN
      rw [if_pos hz, if_pos (by rw [e0]), hs]
    · unfold rdL
      rw [if_pos hz, if_pos (by rw [e0]), hs]
      unfold packL
      rw [addr_congr (f := at4 T 12) (g := f) fun i hi => by
          unfold at4
          by_cases l : i < 4
          · rw [if_pos l, hh (12 + i) (by omega)]
            unfold h4 h4n
            rw [if_neg (by omega), if_neg (by omega), if_pos (by omega), if_neg (by omega), Nat.add_sub_cancel_left]
          · rw [if_neg l, right_zero r1 i hi (by omega)],
        addr_congr (f := at4 T 16) (g := g) fun i hi => by
          unfold at4
          by_cases l : i < 4
          · rw [if_pos l, hh (16 + i) (by omega)]
            unfold h4 h4n
            rw [if_neg (by omega), if_neg (by omega), if_neg (by omega), Nat.add_sub_cancel_left]
          · rw [if_neg l, right_zero r2 i hi (by omega)]]
  · have z0 : hsz true = 40 := rfl
    rw [z0] at hT hk hm ⊢
    have hh : ∀ i, i < 40 → T i = h6 f g (40 + n) i := fun i hi => by
      rw [hT i (by omega)]
      unfold wrF
      rw [z0, if_pos hi]
      rfl
    have e0 : T 0 = 96 := hh 0 (by omega)
    have e2 : T 4 = (40 + n - 40) / 256 := hh 4 (by omega)
    have e3 : T 5 = (40 + n - 40) % 256 := hh 5 (by omega)
    have hs : sz6 T = 40 + n := by unfold sz6; rw [e2, e3]; omega
    have hz : rdE T k = 0 := rdE_zero.2 (.inr ⟨by rw [e0], by omega, by rw [hs]; exact hk⟩)
    refine ⟨hz, ?_, ?_⟩
    · unfold rdN
      rw [if_pos hz, if_neg (by rw [e0]; omega), hs]
    · unfold rdL
      rw [if_pos hz, if_neg (by rw [e0]; omega), hs]
      unfold packL
      rw [addr_congr (f := at6 T 8) (g := f) fun i hi => by
          unfold at6
          rw [hh (8 + i) (by omega)]
          unfold h6
          rw [if_pos (by omega), if_neg (by omega), Nat.add_sub_cancel_left],
        addr_congr (f := at6 T 24) (g := g) fun i hi => by
          unfold at6
          rw [hh (24 + i) (by omega)]
          unfold h6
          rw [if_neg (by omega), Nat.add_sub_cancel_left]]

/-- a header of IPv4 of which one byte behind the first is turned is none -/
theorem wr_turned {f g bd : Nat → Nat} {n p v : Nat} (hf : ∀ i, f i < 256) (hg : ∀ i, g i < 256) (hE : wrE false false f g n = 0) (h1 : 1 ≤ p) (h2 : p ≤ 19) (hv : v < 256) (hne : v ≠ wrF false f g n bd p) :
    rdE (fun i => if i = p then v else wrF false f g n bd i) (20 + n) = 50 := by
  obtain ⟨_, _, _, hm⟩ := wrE_zero hE
  have z0 : hsz false = 20 := rfl
  rw [z0] at hm
  have hh : ∀ i, i < 20 → wrF false f g n bd i = h4 f g (20 + n) i := fun i hi => by
    unfold wrF
    rw [z0, if_pos hi]
    rfl
  obtain ⟨T, hT⟩ : ∃ T, (fun i => if i = p then v else wrF false f g n bd i) = T := ⟨_, rfl⟩
  have e0 : T 0 = 69 := by
    rw [← hT]
    show (if (0 : Nat) = p then _ else _) = 69
    rw [if_neg (by omega), hh 0 (by omega)]
    rfl
  have hd : hd4 T = 20 := by unfold hd4; rw [e0]
  rw [hT]
  unfold rdE
  rw [if_neg (by omega), if_pos (by rw [e0]), if_neg (by omega), if_neg]
  intro hk
  have h5 := hk.2.2.2
  rw [hd, ← hT, sumS_congr (g := fun i => if i = p then v else h4 f g (20 + n) i) 20 (fun i hi => by
    by_cases e : i = p
    · rw [if_pos e, if_pos e]
    · rw [if_neg e, if_neg e, hh i hi])] at h5
  exact canon_turn (h4 f g (20 + n)) p v 20 (by omega) (h4_lt hf hg (by omega) p) hv (by rw [← hh p (by omega)]; exact hne) (h4_full _ _ _) h5

end Inner
end Go.Proofs.Ytiemcfgjpcnloaa
