/- Rows of measures by their order: what sorted rows of the same measures have in common. Nothing of the program. -/
import Derived.Test.YteombmahglbeeaaGaugeNum
import Derived.Sort.Statements
namespace Go.Proofs.Yteombmahglbeeaa
namespace Fl
open Num
/-- ascending by the order -/
def Asc (l : List Nat) : Prop := l.Pairwise fun a b => place a ≤ place b
def Wd (l : List Nat) : Prop := ∀ v ∈ l, v < 18446744073709551616
/-- t is l, sorted -/
structure Srt (l t : List Nat) : Prop where
  perm : t.Perm l
  asc : Asc t
theorem Srt.wd {l t : List Nat} (h : Srt l t) (hl : Wd l) : Wd t := fun v hv => hl v (h.perm.mem_iff.1 hv)
theorem Srt.length {l t : List Nat} (h : Srt l t) : t.length = l.length := h.perm.length_eq
theorem asc_unique : ∀ {s t : List Nat}, Asc s → Asc t → s.Perm t → Wd s → s = t
  | [], t, _, _, hp, _ => by rw [List.nil_perm.1 hp]
  | a :: s, [], _, _, hp, _ => by have := hp.length_eq; simp at this
  | a :: s, b :: t, hs, ht, hp, hw => by
    have hab : a = b := by
      have h1 : a ∈ b :: t := hp.mem_iff.1 List.mem_cons_self
      have h2 : b ∈ a :: s := hp.mem_iff.2 List.mem_cons_self
      have hs1 := List.pairwise_cons.1 hs
      have ht1 := List.pairwise_cons.1 ht
      have e1 : place b ≤ place a := by
        rcases List.mem_cons.1 h1 with rfl | h
        · exact Nat.le_refl _
        · exact ht1.1 a h
      have e2 : place a ≤ place b := by
        rcases List.mem_cons.1 h2 with rfl | h
        · exact Nat.le_refl _
        · exact hs1.1 b h
      exact place_inj (hw a List.mem_cons_self) (hw b h2) (Nat.le_antisymm e2 e1)
    subst hab
    rw [asc_unique (List.pairwise_cons.1 hs).2 (List.pairwise_cons.1 ht).2 ((List.perm_cons a).1 hp) (fun v hv => hw v (List.mem_cons_of_mem _ hv))]
theorem srt_unique {l s t : List Nat} (hl : Wd l) (hs : Srt l s) (ht : Srt l t) : s = t :=
  asc_unique hs.asc ht.asc (hs.perm.trans ht.perm.symm) (hs.wd hl)
theorem Srt.filter {l t : List Nat} (h : Srt l t) (p : Nat → Bool) : Srt (l.filter p) (t.filter p) := ⟨h.perm.filter p, h.asc.filter p⟩
theorem wd_filter {l : List Nat} (h : Wd l) (p : Nat → Bool) : Wd (l.filter p) := fun v hv => h v (List.mem_filter.1 hv).1
/-- the middle one -/
def mid (t : List Nat) : Nat := t.getD ((t.length - 1) / 2) 0
theorem mid_mem {t : List Nat} (h : 0 < t.length) : mid t ∈ t := by
  unfold mid
  rw [List.getD_eq_getElem?_getD, List.getElem?_eq_getElem (by omega)]
  exact List.getElem_mem _
theorem countP_split (t : List Nat) (k : Nat) (p : Nat → Bool) : t.countP p = (t.take k).countP p + (t.drop k).countP p := by
  rw [← List.countP_append, List.take_append_drop]
theorem asc_at {t : List Nat} (h : Asc t) {i j : Nat} (hij : i ≤ j) (hj : j < t.length) : place (t[i]'(by omega)) ≤ place t[j] := by
  rcases Nat.eq_or_lt_of_le hij with rfl | hlt
  · exact Nat.le_refl _
  · exact List.pairwise_iff_getElem.1 h i j (by omega) hj hlt
theorem few_ahead {t : List Nat} (h : Asc t) (h0 : 0 < t.length) : 2 * t.countP (fun x => decide (place x < place (mid t))) ≤ t.length := by
  have hk : (t.length - 1) / 2 < t.length := by omega
  have hm : mid t = t[(t.length - 1) / 2] := by unfold mid; rw [List.getD_eq_getElem?_getD, List.getElem?_eq_getElem hk]; rfl
  rw [hm, countP_split t ((t.length - 1) / 2)]
  have h1 : (t.drop ((t.length - 1) / 2)).countP (fun x => decide (place x < place t[(t.length - 1) / 2])) = 0 := by
    rw [List.countP_eq_zero]
    intro a ha hb
    obtain ⟨i, hi, rfl⟩ := List.mem_iff_getElem.1 ha
    rw [List.length_drop] at hi
    rw [List.getElem_drop, decide_eq_true_eq] at hb
    have := asc_at h (i := (t.length - 1) / 2) (j := (t.length - 1) / 2 + i) (by omega) (by omega)
    omega
  have h2 := List.countP_le_length (p := fun x => decide (place x < place t[(t.length - 1) / 2])) (l := t.take ((t.length - 1) / 2))
  rw [List.length_take] at h2
  omega
theorem few_behind {t : List Nat} (h : Asc t) (h0 : 0 < t.length) : 2 * t.countP (fun x => decide (place (mid t) < place x)) ≤ t.length := by
  have hk : (t.length - 1) / 2 < t.length := by omega
  have hm : mid t = t[(t.length - 1) / 2] := by unfold mid; rw [List.getD_eq_getElem?_getD, List.getElem?_eq_getElem hk]; rfl
  rw [hm, countP_split t ((t.length - 1) / 2 + 1)]
  have h1 : (t.take ((t.length - 1) / 2 + 1)).countP (fun x => decide (place t[(t.length - 1) / 2] < place x)) = 0 := by
    rw [List.countP_eq_zero]
    intro a ha hb
    obtain ⟨i, hi, rfl⟩ := List.mem_iff_getElem.1 ha
    rw [List.length_take] at hi
    rw [List.getElem_take, decide_eq_true_eq] at hb
    have := asc_at h (i := i) (j := (t.length - 1) / 2) (by omega) (by omega)
    omega
  have h2 := List.countP_le_length (p := fun x => decide (place t[(t.length - 1) / 2] < place x)) (l := t.drop ((t.length - 1) / 2 + 1))
  rw [List.length_drop] at h2
  omega
/-- one put in its place -/
theorem asc_put {t : List Nat} {x k : Nat} (h : Asc t) (h1 : ∀ y ∈ t.drop k, place x ≤ place y) (h2 : ∀ y ∈ t.take k, place y ≤ place x) : Asc (t.take k ++ x :: t.drop k) := by
  have hp : Asc (t.take k ++ t.drop k) := by rw [List.take_append_drop]; exact h
  obtain ⟨p1, p2, p3⟩ := List.pairwise_append.1 hp
  refine List.pairwise_append.2 ⟨p1, List.pairwise_cons.2 ⟨h1, p2⟩, fun a ha b hb => ?_⟩
  rcases List.mem_cons.1 hb with rfl | hb
  · exact h2 a ha
  · exact p3 a ha b hb
theorem asc_below {t : List Nat} {x k : Nat} (h : Asc t) (hk : k < t.length) (hx : place t[k] ≤ place x) : ∀ y ∈ t.take (k + 1), place y ≤ place x := by
  intro y hy
  obtain ⟨i, hi, rfl⟩ := List.mem_iff_getElem.1 hy
  rw [List.length_take] at hi
  rw [List.getElem_take]
  exact Nat.le_trans (asc_at h (by omega) hk) hx
theorem perm_put (t : List Nat) (x k : Nat) : (t.take k ++ x :: t.drop k).Perm (t ++ [x]) := by
  refine List.perm_middle.trans ?_
  rw [List.take_append_drop]
  exact (List.perm_append_singleton x t).symm
/-- 64 digits -/
abbrev D64 := Fin 18446744073709551616
def lessD (x y : D64) : Bool := decide (place x.val < place y.val)
theorem swo_lessD : Sort.SWO lessD := ⟨fun x => by simp [lessD], fun x y z h1 h2 => by simp [lessD] at *; omega, fun x y z h1 h2 => by simp [lessD] at *; omega⟩
def toD (l : List Nat) : Array D64 := (l.map fun v => (Fin.ofNat 18446744073709551616 v : D64)).toArray
theorem toD_size (l : List Nat) : (toD l).size = l.length := by simp [toD]
theorem toD_get {l : List Nat} (hl : Wd l) {i : Nat} (hi : i < l.length) : ((toD l)[i]!).val = l[i] := by
  have := hl _ (List.getElem_mem hi)
  unfold toD
  rw [getElem!_pos _ i (by simpa using hi)]
  simp
  exact this
theorem toD_list {l : List Nat} (hl : Wd l) : (toD l).toList.map (·.val) = l := by
  unfold toD
  simp only [List.map_map]
  refine (List.map_congr_left (g := id) fun v hv => ?_).trans (List.map_id l)
  exact Nat.mod_eq_of_lt (hl v hv)
theorem srt_of {l : List Nat} (hl : Wd l) {d : Array D64} (hP : Sort.PermIn 0 (toD l).size (toD l) d) (hS : Sort.SortedIn lessD 0 (toD l).size d) : Srt l (d.toList.map (·.val)) := by
  obtain ⟨h1, _, h3⟩ := hP
  refine ⟨?_, ?_⟩
  · rw [← h1] at h3
    simp only [Array.extract_size] at h3
    rw [h1] at h3
    simp only [Array.extract_size] at h3
    have := h3.map (·.val)
    rw [toD_list hl] at this
    exact this
  · refine List.pairwise_iff_getElem.2 fun i j hi hj hij => ?_
    rw [List.length_map, Array.length_toList] at hi hj
    have := hS i j (Nat.zero_le _) hij (by omega)
    rw [getElem!_pos _ i hi, getElem!_pos _ j hj] at this
    simp [lessD] at this
    simpa using this
end Fl
end Go.Proofs.Yteombmahglbeeaa
