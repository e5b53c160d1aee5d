/- What a row of numbers makes of a window. Nothing of the program. -/
import Derived.Test.YtijmbjnmfkiklaaWinNum
namespace Go.Proofs.Ytijmbjnmfkiklaa
namespace WinT
def stepW (p : St × List Nat) (m : Nat) : St × List Nat := if check p.1 m = 0 then (put p.1 m, p.2 ++ [m]) else p
def playL (l : List Nat) : St × List Nat := l.foldl stepW (⟨0, 0, 0⟩, [])
theorem play_snoc (l : List Nat) (m : Nat) : playL (l ++ [m]) = stepW (playL l) m := by unfold playL; rw [List.foldl_append]; rfl
theorem play_take (l : List Nat) (k : Nat) (h : k < l.length) : playL (l.take (k + 1)) = stepW (playL (l.take k)) l[k] := by
  rw [List.take_succ_eq_append_getElem h, play_snoc]
theorem step_is {p : St × List Nat} (h : Is p.1 p.2) (m : Nat) : Is (stepW p m).1 (stepW p m).2 := by
  unfold stepW
  split
  · exact put_is h ‹_›
  · exact h
theorem foldl_is (l : List Nat) : ∀ p : St × List Nat, Is p.1 p.2 → Is (l.foldl stepW p).1 (l.foldl stepW p).2 := by
  induction l with
  | nil => exact fun p h => h
  | cons m l ih => exact fun p h => ih _ (step_is h m)
theorem play_is (l : List Nat) : Is (playL l).1 (playL l).2 := foldl_is l _ is_nil
theorem step_len (p : St × List Nat) (m : Nat) : (stepW p m).2.length ≤ p.2.length + 1 := by
  unfold stepW
  split <;> simp
theorem foldl_len (l : List Nat) : ∀ p : St × List Nat, (l.foldl stepW p).2.length ≤ p.2.length + l.length := by
  induction l with
  | nil => intro p; simp
  | cons m l ih =>
    intro p
    have := ih (stepW p m)
    have := step_len p m
    rw [List.length_cons]
    show (l.foldl stepW (stepW p m)).2.length ≤ _
    omega
theorem play_len (l : List Nat) : (playL l).2.length ≤ l.length := by
  have := foldl_len l (⟨0, 0, 0⟩, [])
  simpa [playL] using this
/-- no number twice -/
theorem foldl_nodup (l : List Nat) : ∀ p : St × List Nat, Is p.1 p.2 → p.2.Nodup → (l.foldl stepW p).2.Nodup := by
  induction l with
  | nil => exact fun p _ h => h
  | cons m l ih =>
    intro p hi hn
    refine ih _ (step_is hi m) ?_
    unfold stepW
    split
    · rename_i hc
      rw [check_is hi] at hc
      refine List.nodup_append.2 ⟨hn, by simp, ?_⟩
      intro a ha b hb
      rw [List.mem_singleton] at hb
      subst hb
      rintro rfl
      rw [if_pos (show a ∈ p.2 ∨ _ from .inl ha)] at hc
      split at hc <;> cases hc
    · exact hn
theorem play_nodup (l : List Nat) : (playL l).2.Nodup := foldl_nodup l _ is_nil List.nodup_nil
/-- those that are taken, taken alone, leave the same -/
theorem play_again_aux (l : List Nat) : ∀ p : St × List Nat, playL p.2 = p → playL (l.foldl stepW p).2 = l.foldl stepW p := by
  induction l with
  | nil => exact fun p h => h
  | cons m l ih =>
    intro p h
    refine ih _ ?_
    unfold stepW
    split
    · rename_i hc
      show playL (p.2 ++ [m]) = _
      rw [play_snoc, h]
      unfold stepW
      rw [if_pos hc]
    · exact h
theorem play_again (l : List Nat) : playL (playL l).2 = playL l := play_again_aux l _ rfl
end WinT
end Go.Proofs.Ytijmbjnmfkiklaa
