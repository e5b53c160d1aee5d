/- Numbers that lie near each other are all taken, in whatever order they come. Nothing of the program. -/
import Derived.Test.YtijmbjnmfkiklaaWinPlay
namespace Go.Proofs.Ytijmbjnmfkiklaa
namespace WinT
theorem step_fst (p : St × List Nat) (m : Nat) : (stepW p m).1 = take p.1 m := by
  unfold stepW take
  split <;> rfl
/-- all numbers in a stretch of 128 -/
def Near (base : Nat) (l : List Nat) : Prop := ∀ m ∈ l, base ≤ m ∧ m < base + 128
theorem near_step {base : Nat} (hb : base + 128 ≤ spent) {p : St × List Nat} (h : Is p.1 p.2) (hn : Near base p.2) {m : Nat} (hm : base ≤ m ∧ m < base + 128) :
    Near base (stepW p m).2 ∧ ∀ j, j ∈ (stepW p m).2 ↔ j ∈ p.2 ∨ j = m := by
  have hc := check_is h m
  have hno : ¬ (m < p.1.n ∧ 128 ≤ p.1.n - 1 - m) := by
    rintro ⟨h1, h2⟩
    rcases h.top with h3 | h3
    · omega
    · have := hn _ h3.2; omega
  rw [if_neg (by omega)] at hc
  unfold stepW
  by_cases c : m ∈ p.2
  · rw [if_pos (show m ∈ p.2 ∨ _ from .inl c)] at hc
    rw [if_neg (by omega)]
    refine ⟨hn, fun j => ⟨.inl, ?_⟩⟩
    rintro (h | rfl)
    · exact h
    · exact c
  · rw [if_neg (by rintro (h | h); exact c h; exact hno h)] at hc
    rw [if_pos hc]
    refine ⟨?_, fun j => by rw [List.mem_append, List.mem_singleton]⟩
    intro j hj
    rw [List.mem_append, List.mem_singleton] at hj
    rcases hj with hj | rfl
    · exact hn j hj
    · exact hm
theorem near_foldl {base : Nat} (hb : base + 128 ≤ spent) (l : List Nat) : ∀ p : St × List Nat, Is p.1 p.2 → Near base p.2 → Near base l → Near base (l.foldl stepW p).2 ∧ ∀ j, j ∈ (l.foldl stepW p).2 ↔ j ∈ p.2 ∨ j ∈ l := by
  induction l with
  | nil => exact fun p _ hn _ => ⟨hn, fun j => by simp⟩
  | cons m l ih =>
    intro p h hn hl
    have h1 := near_step hb h hn (hl m (by simp))
    have h2 := ih (stepW p m) (step_is h m) h1.1 (fun j hj => hl j (by simp [hj]))
    refine ⟨h2.1, fun j => ?_⟩
    rw [List.foldl_cons, h2.2, h1.2, List.mem_cons, or_assoc]
/-- rows of the same numbers leave the same window -/
theorem near_same {base : Nat} (hb : base + 128 ≤ spent) {l k : List Nat} (hl : Near base l) (hk : Near base k) (h : ∀ j, j ∈ l ↔ j ∈ k) : (playL l).1 = (playL k).1 := by
  have h1 := (near_foldl hb l (⟨0, 0, 0⟩, []) is_nil (fun m hm => by cases hm) hl).2
  have h2 := (near_foldl hb k (⟨0, 0, 0⟩, []) is_nil (fun m hm => by cases hm) hk).2
  refine is_eq (play_is l) (play_is k) fun m => ?_
  unfold playL
  rw [h1, h2, h]
theorem near_next {base : Nat} (hb : base + 128 ≤ spent) {l : List Nat} (hl : Near base l) (h : l ≠ []) : base < (playL l).1.n := by
  obtain ⟨m, hm⟩ := List.exists_mem_of_ne_nil l h
  have h1 := (near_foldl hb l (⟨0, 0, 0⟩, []) is_nil (fun m hm => by cases hm) hl).2 m
  have h2 := (play_is l).le m (h1.2 (.inr hm))
  have := hl m hm
  omega
/-- the numbers of a row of bytes, from some place on and round -/
def rowOf (base : Nat) (f : Nat → Nat) (k : Nat) : List Nat := (List.range k).map fun i => base + f i % 128
theorem row_snoc (base : Nat) (f : Nat → Nat) (k : Nat) : rowOf base f (k + 1) = rowOf base f k ++ [base + f k % 128] := by
  unfold rowOf
  rw [List.range_succ, List.map_append]
  rfl
theorem row_near (base : Nat) (f : Nat → Nat) (k : Nat) : Near base (rowOf base f k) := by
  intro m hm
  obtain ⟨i, _, rfl⟩ := List.mem_map.1 hm
  have := Nat.mod_lt (f i) (show 128 > 0 by omega)
  omega
theorem row_turn (base : Nat) (f : Nat → Nat) (n t : Nat) (hn : 0 < n) (j : Nat) : j ∈ rowOf base f n ↔ j ∈ rowOf base (fun i => f ((i + t) % n)) n := by
  unfold rowOf
  rw [List.mem_map, List.mem_map]
  constructor
  · rintro ⟨i, hi, rfl⟩
    rw [List.mem_range] at hi
    refine ⟨(i + (n - t % n)) % n, List.mem_range.2 (Nat.mod_lt _ hn), ?_⟩
    have ht := Nat.mod_lt t hn
    have e : ((i + (n - t % n)) % n + t) % n = i := by
      rw [Nat.mod_add_mod, show i + (n - t % n) + t = i + n + (t - t % n) by have := Nat.mod_le t n; omega]
      have hd : t - t % n = n * (t / n) := by have := Nat.div_add_mod t n; omega
      rw [hd, Nat.add_mul_mod_self_left, Nat.add_mod_right, Nat.mod_eq_of_lt hi]
    show base + f (((i + (n - t % n)) % n + t) % n) % 128 = _
    rw [e]
  · rintro ⟨i, hi, rfl⟩
    exact ⟨(i + t) % n, List.mem_range.2 (Nat.mod_lt _ hn), rfl⟩
end WinT
end Go.Proofs.Ytijmbjnmfkiklaa
