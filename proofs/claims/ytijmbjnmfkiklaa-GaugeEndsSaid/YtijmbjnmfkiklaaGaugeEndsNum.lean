/- What a gauge has of a row of measures, whatever their order: how many count, the first and the last; and the smooth one lies between. Nothing of the program. -/
import Derived.Test.YtijmbjnmfkiklaaFloEighth
import Derived.Test.YtijmbjnmfkiklaaGaugeNotes
namespace Go.Proofs.Ytijmbjnmfkiklaa
namespace Fl
theorem val_place {x y : Nat} (hx : x < 18446744073709551616) (hy : y < 18446744073709551616) (h : place x ≤ place y) : val x ≤ val y := by
  unfold place at h
  have nx : x < 9223372036854775808 → neg x = false ∧ rung x = x := fun h => ⟨(rung_small h).2, (rung_small h).1⟩
  have ny : y < 9223372036854775808 → neg y = false ∧ rung y = y := fun h => ⟨(rung_small h).2, (rung_small h).1⟩
  have big : ∀ z, z < 18446744073709551616 → ¬ z < 9223372036854775808 → neg z = true ∧ rung z = z - 9223372036854775808 := by
    intro z h1 h2
    unfold neg rung
    rw [show z / 9223372036854775808 = 1 by omega]
    exact ⟨rfl, by omega⟩
  unfold val
  by_cases a : x < 9223372036854775808 <;> by_cases b : y < 9223372036854775808
  · rw [if_pos a, if_pos b] at h
    rw [(nx a).1, (nx a).2, (ny b).1, (ny b).2]
    have := mag_le (show x ≤ y by omega)
    simp only [Bool.false_eq_true, if_false]
    omega
  · rw [if_pos a, if_neg b] at h; omega
  · rw [(big x hx a).1, (ny b).1]
    simp only [Bool.false_eq_true, if_false, if_true]
    omega
  · rw [if_neg a, if_neg b] at h
    rw [(big x hx a).1, (big x hx a).2, (big y hy b).1, (big y hy b).2]
    have := mag_le (show y - 9223372036854775808 ≤ x - 9223372036854775808 by omega)
    simp only [if_true]
    omega
structure Ends (g : G) (l : List Nat) : Prop where
  ok : g.ok
  c : g.c = l.countP counts
  b : g.b = l.countP (fun v => !counts v)
  no : g.c = 0 → g.lo = 0 ∧ g.hi = 0 ∧ g.sm = 0
  lo : g.c ≠ 0 → g.lo ∈ l ∧ ∀ v ∈ l, counts v = true → place g.lo ≤ place v
  hi : g.c ≠ 0 → g.hi ∈ l ∧ ∀ v ∈ l, counts v = true → place v ≤ place g.hi
  mid : val g.lo ≤ val g.sm ∧ val g.sm ≤ val g.hi
theorem ends_nil : Ends ⟨0, 0, 0, 0, 0⟩ [] := ⟨⟨⟨by decide, by decide⟩, ⟨by decide, by decide⟩, ⟨by decide, by decide⟩⟩, rfl, rfl, fun _ => ⟨rfl, rfl, rfl⟩, fun h => absurd rfl h, fun h => absurd rfl h, Int.le_refl _, Int.le_refl _⟩
theorem least_place {x y : Nat} (hx : counts x = true) (hy : counts y = true) : place (least x y) ≤ place x ∧ place (least x y) ≤ place y := by
  unfold least
  rw [if_pos ⟨counts_num hx, counts_num hy⟩]
  split <;> omega
theorem greatest_place {x y : Nat} (hx : counts x = true) (hy : counts y = true) : place x ≤ place (greatest x y) ∧ place y ≤ place (greatest x y) := by
  unfold greatest
  rw [if_pos ⟨counts_num hx, counts_num hy⟩]
  split <;> omega
theorem ends_step {g : G} {l : List Nat} (h : Ends g l) {x : Nat} (hx : x < 18446744073709551616) : Ends (note g x) (l ++ [x]) := by
  have hok := note_ok h.ok hx
  have cc : (l ++ [x]).countP counts = l.countP counts + (if counts x = true then 1 else 0) := by
    rw [List.countP_append, List.countP_singleton]
  have cb : (l ++ [x]).countP (fun v => !counts v) = l.countP (fun v => !counts v) + (if counts x = true then 0 else 1) := by
    rw [List.countP_append, List.countP_singleton]
    cases counts x <;> rfl
  rcases hc : counts x with _ | _
  · rw [hc] at cc cb
    have e : note g x = ⟨g.c, g.b + 1, g.lo, g.hi, g.sm⟩ := by unfold note; rw [hc, if_neg (by simp)]
    rw [e] at hok ⊢
    have ext : ∀ v, v ∈ l ++ [x] → counts v = true → v ∈ l := by
      intro v hv hcv
      rw [List.mem_append, List.mem_singleton] at hv
      rcases hv with hv | rfl
      · exact hv
      · rw [hc] at hcv; cases hcv
    exact ⟨hok, by rw [cc]; exact h.c, by rw [cb]; show g.b + 1 = _; rw [h.b]; simp, h.no, fun k => ⟨List.mem_append_left _ (h.lo k).1, fun v hv hcv => (h.lo k).2 v (ext v hv hcv) hcv⟩, fun k => ⟨List.mem_append_left _ (h.hi k).1, fun v hv hcv => (h.hi k).2 v (ext v hv hcv) hcv⟩, h.mid⟩
  · rw [hc] at cc cb
    by_cases h0 : g.c = 0
    · have e : note g x = ⟨1, g.b, x, x, x⟩ := by unfold note; rw [if_pos hc, if_pos h0]
      rw [e] at hok ⊢
      have none : ∀ v, v ∈ l → counts v = true → False := by
        intro v hv hcv
        have := List.countP_pos_iff.2 ⟨v, hv, hcv⟩
        have := h.c
        omega
      have ext : ∀ v, v ∈ l ++ [x] → counts v = true → v = x := by
        intro v hv hcv
        rw [List.mem_append, List.mem_singleton] at hv
        rcases hv with hv | rfl
        · exact absurd (none v hv hcv) id
        · rfl
      refine ⟨hok, ?_, ?_, (fun k => by cases k), fun _ => ⟨by simp, fun v hv hcv => by rw [ext v hv hcv]; exact Nat.le_refl _⟩, fun _ => ⟨by simp, fun v hv hcv => by rw [ext v hv hcv]; exact Nat.le_refl _⟩, Int.le_refl _, Int.le_refl _⟩
      · rw [cc, ← h.c, h0]; rfl
      · rw [cb]; exact h.b
    · have e : note g x = ⟨g.c + 1, g.b, least g.lo x, greatest g.hi x, mv g.sm x⟩ := by unfold note; rw [if_pos hc, if_neg h0]
      rw [e] at hok ⊢
      have hl := h.lo h0
      have hh := h.hi h0
      have p1 := least_place h.ok.lo.1 hc
      have p2 := greatest_place h.ok.hi.1 hc
      have l1 : least g.lo x < 18446744073709551616 := hok.lo.2
      have l2 : greatest g.hi x < 18446744073709551616 := hok.hi.2
      have v1 := val_place l1 h.ok.lo.2 p1.1
      have v2 := val_place l1 hx p1.2
      have v3 := val_place h.ok.hi.2 l2 p2.1
      have v4 := val_place hx l2 p2.2
      have m1 := mv_between h.ok.sm.1 hc
      have m2 := h.mid
      refine ⟨hok, ?_, ?_, (fun k => by cases k), fun _ => ⟨?_, ?_⟩, fun _ => ⟨?_, ?_⟩, ?_⟩
      · rw [cc, ← h.c]; rfl
      · rw [cb]; exact h.b
      · show least g.lo x ∈ _
        rcases least_or h.ok.lo.1 hc with e | e <;> rw [e]
        · exact List.mem_append_left _ hl.1
        · simp
      · intro v hv hcv
        show place (least g.lo x) ≤ _
        rw [List.mem_append, List.mem_singleton] at hv
        rcases hv with hv | rfl
        · exact Nat.le_trans p1.1 (hl.2 v hv hcv)
        · exact p1.2
      · show greatest g.hi x ∈ _
        rcases greatest_or h.ok.hi.1 hc with e | e <;> rw [e]
        · exact List.mem_append_left _ hh.1
        · simp
      · intro v hv hcv
        show _ ≤ place (greatest g.hi x)
        rw [List.mem_append, List.mem_singleton] at hv
        rcases hv with hv | rfl
        · exact Nat.le_trans (hh.2 v hv hcv) p2.1
        · exact p2.2
      · show val (least g.lo x) ≤ val (mv g.sm x) ∧ val (mv g.sm x) ≤ val (greatest g.hi x)
        by_cases k : val g.sm ≤ val x
        · have := m1.1 k; omega
        · have := m1.2 (by omega); omega
/-- gauges of rows of the same measures -/
theorem ends_perm {g h : G} {l k : List Nat} (hg : Ends g l) (hh : Ends h k) (p : l.Perm k) : g.c = h.c ∧ g.b = h.b ∧ g.lo = h.lo ∧ g.hi = h.hi := by
  have e1 : g.c = h.c := by rw [hg.c, hh.c, p.countP_eq]
  refine ⟨e1, by rw [hg.b, hh.b, p.countP_eq], ?_⟩
  by_cases h0 : g.c = 0
  · have a := hg.no h0
    have b := hh.no (by omega)
    exact ⟨by rw [a.1, b.1], by rw [a.2.1, b.2.1]⟩
  · have a := hg.lo h0
    have b := hh.lo (by omega)
    have c := hg.hi h0
    have d := hh.hi (by omega)
    refine ⟨place_inj hg.ok.lo.2 hh.ok.lo.2 (Nat.le_antisymm ?_ ?_), place_inj hg.ok.hi.2 hh.ok.hi.2 (Nat.le_antisymm ?_ ?_)⟩
    · exact a.2 _ (p.mem_iff.2 b.1) hh.ok.lo.1
    · exact b.2 _ (p.mem_iff.1 a.1) hg.ok.lo.1
    · exact d.2 _ (p.mem_iff.1 c.1) hg.ok.hi.1
    · exact c.2 _ (p.mem_iff.2 d.1) hh.ok.hi.1
theorem ends_sum {g : G} {l : List Nat} (h : Ends g l) : g.c + g.b = l.length := by
  rw [h.c, h.b, List.length_eq_countP_add_countP counts]
  congr 1
  refine List.countP_congr fun v _ => ?_
  cases counts v <;> simp
/-- a row from some place on and round -/
def turned (l : List Nat) (t k : Nat) : List Nat := (List.range k).map fun i => l.getD ((i + t) % l.length) 0
theorem turned_snoc (l : List Nat) (t k : Nat) : turned l t (k + 1) = turned l t k ++ [l.getD ((k + t) % l.length) 0] := by
  unfold turned
  rw [List.range_succ, List.map_append]
  rfl
theorem range_turn (n : Nat) (f : Nat → Nat) : ((List.range n).map fun i => f ((i + 1) % n)).Perm ((List.range n).map f) := by
  cases n with
  | zero => exact List.Perm.refl _
  | succ m =>
    have e1 : (List.range (m + 1)).map (fun i => f ((i + 1) % (m + 1))) = (List.range m).map (fun i => f (i + 1)) ++ [f 0] := by
      rw [List.range_succ, List.map_append]
      congr 1
      · refine List.map_congr_left fun i hi => ?_
        rw [List.mem_range] at hi
        rw [Nat.mod_eq_of_lt (by omega)]
      · simp
    have e2 : (List.range (m + 1)).map f = f 0 :: (List.range m).map (fun i => f (i + 1)) := by
      rw [List.range_succ_eq_map, List.map_cons, List.map_map]
      rfl
    rw [e1, e2]
    exact List.perm_append_singleton _ _
theorem turn_perm (n : Nat) (f : Nat → Nat) (t : Nat) : ((List.range n).map fun i => f ((i + t) % n)).Perm ((List.range n).map fun i => f (i % n)) := by
  induction t with
  | zero => exact List.Perm.refl _
  | succ t ih =>
    refine List.Perm.trans ?_ ih
    have h := range_turn n (fun j => f ((j + t) % n))
    have e : ((List.range n).map fun i => f ((i + (t + 1)) % n)) = (List.range n).map fun i => f (((i + 1) % n + t) % n) := by
      refine List.map_congr_left fun i _ => ?_
      rw [Nat.mod_add_mod, show i + (t + 1) = i + 1 + t by omega]
    rw [e]
    exact h
theorem turned_perm (l : List Nat) (t : Nat) : (turned l t l.length).Perm l := by
  have h := turn_perm l.length (fun j => l.getD j 0) t
  have e : ((List.range l.length).map fun i => l.getD (i % l.length) 0) = l := by
    refine List.ext_getElem (by simp) fun i h1 h2 => ?_
    rw [List.getElem_map, List.getElem_range, Nat.mod_eq_of_lt h2]
    simp [List.getD, h2]
  rw [e] at h
  exact h
theorem ends_fold (l : List Nat) : ∀ (g : G) (k : List Nat), Ends g k → (∀ v ∈ l, v < 18446744073709551616) → Ends (l.foldl note g) (k ++ l) := by
  induction l with
  | nil => intro g k h _; rw [List.append_nil]; exact h
  | cons x l ih =>
    intro g k h hl
    have := ih (note g x) (k ++ [x]) (ends_step h (hl x (by simp))) (fun v hv => hl v (by simp [hv]))
    rw [List.append_assoc] at this
    exact this
theorem notes_ends (l : List Nat) (hl : ∀ v ∈ l, v < 18446744073709551616) : Ends (notes l) l := by
  have h := ends_fold l ⟨0, 0, 0, 0, 0⟩ [] ends_nil hl
  exact h
/-- '<=' of two that count -/
theorem leq_val {x y : Nat} (hx : counts x = true) (hy : counts y = true) (h : val x ≤ val y) : (Ieee.double.order x y == some .lt || Ieee.double.order x y == some .eq) = true := by
  unfold counts at hx hy
  rw [decide_eq_true_eq] at hx hy
  rw [order_num hx hy]
  simp only [compare, compareOfLessAndEq]
  by_cases a : val x < val y
  · rw [if_pos a]; rfl
  · rw [if_neg a, if_pos (by omega)]; rfl
end Fl
end Go.Proofs.Ytijmbjnmfkiklaa
