/- What a row of numbers makes of a window. Nothing of the program. -/
import Derived.Test.YtijmbjnmfkiklaaWinNum
namespace Go.Proofs.Ytijmbjnmfkiklaa
namespace WinT
def stepW (p : St × List Nat) (m : Nat) : St × List Nat := if check p.1 m = 0 then (put p.1 m, p.2 ++ [m]) else p
def playL (l : List Nat) : St × List Nat := l.foldl stepW (⟨0, 0, 0⟩, [])
theorem play_snoc (l : List Nat) (m : Nat) : playL (l ++ [m]) = stepW (playL l) m := by unfold playL; rw [List.foldl_append]; rfl
theorem play_take (l : List Nat) (k : Nat) (h : k < l.length) : playL (l.take (k + 1)) = stepW (playL (l.take k)) l[k] := by
  rw [List.take_succ_eq_append_getElem h, play_snoc]
theorem step_is {p : St × List Nat} (h : Is p.1 p.2) (m : Nat) : Is (stepW p m).1 (stepW p m).2 := by
  unfold stepW
  split
  · exact put_is h ‹_›
  · exact h
theorem foldl_is (l : List Nat) : ∀ p : St × List Nat, Is p.1 p.2 → Is (l.foldl stepW p).1 (l.foldl stepW p).2 := by
  induction l with
  | nil => exact fun p h => h
  | cons m l ih => exact fun p h => ih _ (step_is h m)
theorem play_is (l : List Nat) : Is (playL l).1 (playL l).2 := foldl_is l _ is_nil
theorem step_len (p : St × List Nat) (m : Nat) : (stepW p m).2.length ≤ p.2.length + 1 := by
  unfold stepW
  split <;> simp
theorem foldl_len (l : List Nat) : ∀ p : St × List Nat, (l.foldl stepW p).2.length ≤ p.2.length + l.length := by
  induction l with
  | nil => intro p; simp
  | cons m l ih =>
    intro p
    have := ih (stepW p m)
    have := step_len p m
    rw [List.length_cons]
    show (l.foldl stepW (stepW p m)).2.length ≤ _
    omega
theorem play_len (l : List Nat) : (playL l).2.length ≤ l.length := by
  have := foldl_len l (⟨0, 0, 0⟩, [])
  simpa [playL] using this
/-- no number twice -/
theorem foldl_nodup (l : List Nat) : ∀ p : St × List Nat, Is p.1 p.2 → p.2.Nodup → (l.foldl stepW p).2.Nodup := by
  induction l with
  | nil => exact fun p _ h => h
  | cons m l ih =>
    intro p hi hn
    refine ih _ (step_is hi m) ?_
    unfold stepW
    split
    · rename_i hc
      rw [check_is hi] at hc
      refine List.nodup_append.2 ⟨hn, by simp, ?_⟩
      intro a ha b hb
      rw [List.mem_singleton] at hb
      subst hb
      rintro rfl
      rw [if_pos (show a ∈ p.2 ∨ _ from .inl ha)] at hc
      split at hc <;> cases hc
    · exact hn
theorem play_nodup (l : List Nat) : (playL l).2.Nodup := foldl_nodup l _ is_nil List.nodup_nil
/-- those that are taken, taken alone, leave the same -/
theorem play_again_aux (l : List Nat) : ∀ p : St × List Nat, playL p.2 = p → playL (l.foldl stepW p).2 = l.foldl stepW p := by
  induction l with
  | nil => exact fun p h => h
  | cons m l ih =>
    intro p h
    refine ih _ ?_
    unfold stepW
    split
    · rename_i hc
      show playL (p.2 ++ [m]) = _
      rw [play_snoc, h]
      unfold stepW
      rw [if_pos hc]
    · exact h
theorem play_again (l : List Nat) : playL (playL l).2 = playL l := play_again_aux l _ rfl
theorem foldl_lt (l : List Nat) : ∀ p : St × List Nat, (∀ m ∈ p.2, m < spent) → ∀ m ∈ (l.foldl stepW p).2, m < spent := by
  induction l with
  | nil => exact fun p h => h
  | cons m l ih =>
    intro p h
    refine ih _ ?_
    unfold stepW
    split
    · rename_i hc
      intro j hj
      rw [List.mem_append, List.mem_singleton] at hj
      rcases hj with hj | rfl
      · exact h j hj
      · exact (check_zero.1 hc).1
    · exact h
theorem play_lt (l : List Nat) : ∀ m ∈ (playL l).2, m < spent := foldl_lt l _ (by simp)
theorem is_le_spent {s : St} {l : List Nat} (h : Is s l) (hl : ∀ m ∈ l, m < spent) : s.n ≤ spent := by
  rcases h.top with h1 | h1
  · omega
  · have := hl _ h1.2; omega
theorem foldl_some (l : List Nat) : ∀ p : St × List Nat, 0 < p.2.length → 0 < (l.foldl stepW p).2.length := by
  induction l with
  | nil => exact fun p h => h
  | cons m l ih =>
    intro p h
    refine ih _ ?_
    unfold stepW
    split
    · simp
    · exact h
/-- behind a number that is taken it is there -/
theorem put_after {s : St} {l : List Nat} (h : Is s l) {m : Nat} (hc : check s m = 0) : has0 (put s m) m = true ∧ check (put s m) m = 80 ∧ m < (put s m).n := by
  have hi := put_is h hc
  have hz := check_zero.1 hc
  have hn : m < (put s m).n := hi.le m (by simp)
  have hb : ¬ (m < (put s m).n ∧ 128 ≤ (put s m).n - 1 - m) := by
    unfold put
    split
    · show ¬ (m < m + 1 ∧ 128 ≤ m + 1 - 1 - m); omega
    · show ¬ (m < s.n ∧ 128 ≤ s.n - 1 - m); omega
  refine ⟨(has_is hi m).2 ⟨by simp, hb⟩, ?_, hn⟩
  rw [check_is hi, if_neg (by omega), if_pos (show m ∈ l ++ [m] ∨ _ from .inl (by simp))]
theorem play_first (l : List Nat) (h : 0 < l.length) (h0 : (playL (l.take 300)).2.length = 0) : spent ≤ l[0] := by
  obtain ⟨m, t, rfl⟩ : ∃ m t, l = m :: t := by
    cases l with
    | nil => simp at h
    | cons m t => exact ⟨m, t, rfl⟩
  by_cases c : spent ≤ m
  · exact c
  · exfalso
    have e : playL ((m :: t).take 300) = (t.take 299).foldl stepW (stepW (⟨0, 0, 0⟩, []) m) := rfl
    have e2 : stepW (⟨0, 0, 0⟩, []) m = (put ⟨0, 0, 0⟩ m, [m]) := by
      unfold stepW
      rw [if_pos]
      · rfl
      · exact check_zero.2 ⟨by omega, .inl (Nat.zero_le _)⟩
    have := foldl_some (t.take 299) (put ⟨0, 0, 0⟩ m, [m]) (by simp)
    rw [← e2, ← e] at this
    omega
end WinT
end Go.Proofs.Ytijmbjnmfkiklaa
