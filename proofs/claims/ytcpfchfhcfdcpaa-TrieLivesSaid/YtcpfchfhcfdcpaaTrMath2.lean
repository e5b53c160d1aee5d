/- Tries of digits: what is taken out and found; the document's lists. -/
import Derived.Test.YtcpfchfhcfdcpaaTrMath
namespace Go.Proofs.Ytcpfchfhcfdcpaa
namespace Tri

theorem lt_cases : ∀ u v : Bs, lt u v = true ∨ u = v ∨ lt v u = true
  | [], [] => .inr (.inl rfl)
  | [], _ :: _ => .inl rfl
  | _ :: _, [] => .inr (.inr rfl)
  | a :: u, b :: v => by
    simp only [lt]
    by_cases e : a = b
    · subst e
      rcases lt_cases u v with h | h | h
      · exact .inl (by simpa using h)
      · exact .inr (.inl (by rw [h]))
      · exact .inr (.inr (by simpa using h))
    · rw [if_neg e, if_neg (fun c => e c.symm)]
      cases a <;> cases b <;> simp_all
abbrev Srt (l : List (Bs × Int)) : Prop := l.Pairwise (fun x y => lt x.1 y.1 = true)
theorem srt_key {l : List (Bs × Int)} (h : Srt l) {x y : Bs × Int} (hx : x ∈ l) (hy : y ∈ l) (e : x.1 = y.1) : x = y := by
  induction l with
  | nil => cases hx
  | cons z l ih =>
    have h1 := List.pairwise_cons.1 h
    rcases List.mem_cons.1 hx with rfl | hx2 <;> rcases List.mem_cons.1 hy with rfl | hy2
    · rfl
    · exact absurd e (lt_ne (h1.1 y hy2))
    · exact absurd e.symm (lt_ne (h1.1 x hx2))
    · exact ih h1.2 hx2 hy2

/-- a trie without a route -/
def Tr.isNil : Tr → Bool
  | .nil => true
  | .node .. => false
theorem isNil_eq {t : Tr} (h : t.isNil = true) : t = .nil := by
  cases t with
  | nil => rfl
  | node => cases h
def Tr.both (p : Bs) (o : Int) (a b : Tr) : Tr := if o = 0 ∧ (a.isNil = true ∨ b.isNil = true) then (if a.isNil = true then b else a) else .node p o a b
theorem both_cases (p : Bs) (o : Int) (a b : Tr) : Tr.both p o a b = .node p o a b ∨ (o = 0 ∧ ((a = .nil ∧ Tr.both p o a b = b) ∨ (b = .nil ∧ Tr.both p o a b = a))) := by
  unfold Tr.both
  by_cases h : o = 0 ∧ (a.isNil = true ∨ b.isNil = true)
  · rw [if_pos h]
    refine .inr ⟨h.1, ?_⟩
    by_cases ha : a.isNil = true
    · rw [if_pos ha]; exact .inl ⟨isNil_eq ha, rfl⟩
    · rw [if_neg ha]; exact .inr ⟨isNil_eq (h.2.resolve_left ha), rfl⟩
  · rw [if_neg h]; exact .inl rfl
def Tr.del (q : Bs) : Tr → Tr
  | .nil => .nil
  | .node p o a b => if p = q then .both p 0 a b else if q.getD p.length false = true then .both p o a (b.del q) else .both p o (a.del q) b
theorem mem_both {p : Bs} {o : Int} {a b : Tr} {x : Bs × Int} : x ∈ (Tr.both p o a b).toL ↔ (o ≠ 0 ∧ x = (p, o)) ∨ x ∈ a.toL ∨ x ∈ b.toL := by
  rcases both_cases p o a b with e | ⟨h0, ⟨hn, e⟩ | ⟨hn, e⟩⟩
  · rw [e, mem_node]
  · rw [e, hn, h0]; simp [Tr.toL]
  · rw [e, hn, h0]; simp [Tr.toL]
theorem both_root {p r : Bs} {o : Int} {a b : Tr} (hp : r <+: p) (ha : a.root (p ++ [false])) (hb : b.root (p ++ [true])) : (Tr.both p o a b).root r := by
  have k : ∀ {c : Bool} {t : Tr}, t.root (p ++ [c]) → t.root r := fun {c t} h => by
    cases t with
    | nil => trivial
    | node q _ _ _ => exact List.IsPrefix.trans hp (ext_pre (b := c) h)
  rcases both_cases p o a b with e | ⟨_, ⟨_, e⟩ | ⟨_, e⟩⟩
  · rw [e]; exact hp
  · rw [e]; exact k hb
  · rw [e]; exact k ha
theorem both_ok {p : Bs} {o : Int} {a b : Tr} (h : (Tr.node p o a b).Ok) : (Tr.both p o a b).Ok := by
  rcases both_cases p o a b with e | ⟨_, ⟨_, e⟩ | ⟨_, e⟩⟩
  · rw [e]; exact h
  · rw [e]; exact h.2.2.2
  · rw [e]; exact h.2.2.1
theorem del_root {q r : Bs} : ∀ {t : Tr}, t.Ok → t.root r → (t.del q).root r
  | .nil, _, _ => trivial
  | .node p o a b, h, hr => by
    obtain ⟨ha, hb, hA, hB⟩ := h
    unfold Tr.del
    split
    · exact both_root hr ha hb
    · split
      · exact both_root hr ha (del_root hB hb)
      · exact both_root hr (del_root hA ha) hb
theorem del_ok {q : Bs} : ∀ {t : Tr}, t.Ok → (t.del q).Ok
  | .nil, _ => trivial
  | .node p o a b, h => by
    obtain ⟨ha, hb, hA, hB⟩ := h
    unfold Tr.del
    split
    · exact both_ok ⟨ha, hb, hA, hB⟩
    · split
      · exact both_ok ⟨ha, del_root hB hb, hA, del_ok hB⟩
      · exact both_ok ⟨del_root hA ha, hb, del_ok hA, hB⟩
theorem mem_del {q : Bs} : ∀ {t : Tr}, t.Ok → ∀ x, x ∈ (t.del q).toL ↔ x.1 ≠ q ∧ x ∈ t.toL
  | .nil, _, x => by simp [Tr.del, Tr.toL]
  | .node p o a b, h, x => by
    obtain ⟨ha, hb, hA, hB⟩ := h
    have ua := toL_under hA ha
    have ub := toL_under hB hb
    unfold Tr.del
    by_cases e : p = q
    · rw [if_pos e, mem_both, mem_node]
      subst e
      constructor
      · rintro (⟨k, _⟩ | k | k)
        · exact absurd rfl k
        · exact ⟨fun c => ext_ne (ua x k) c.symm, .inr (.inl k)⟩
        · exact ⟨fun c => ext_ne (ub x k) c.symm, .inr (.inr k)⟩
      · rintro ⟨k1, ⟨_, k⟩ | k⟩
        · rw [k] at k1; exact absurd rfl k1
        · exact .inr k
    rw [if_neg e]
    by_cases h2 : q.getD p.length false = true
    · rw [if_pos h2, mem_both, mem_node, mem_del hB]
      constructor
      · rintro (⟨k0, k⟩ | k | ⟨k1, k⟩)
        · exact ⟨by rw [k]; exact e, .inl ⟨k0, k⟩⟩
        · refine ⟨fun c => ?_, .inr (.inl k)⟩
          have h3 := ua x k
          rw [c] at h3
          obtain ⟨s, rfl⟩ := h3
          simp [List.getD] at h2
        · exact ⟨k1, .inr (.inr k)⟩
      · rintro ⟨k1, k | k | k⟩
        · exact .inl k
        · exact .inr (.inl k)
        · exact .inr (.inr ⟨k1, k⟩)
    · rw [if_neg h2, mem_both, mem_node, mem_del hA]
      constructor
      · rintro (⟨k0, k⟩ | ⟨k1, k⟩ | k)
        · exact ⟨by rw [k]; exact e, .inl ⟨k0, k⟩⟩
        · exact ⟨k1, .inr (.inl k)⟩
        · refine ⟨fun c => ?_, .inr (.inr k)⟩
          have h3 := ub x k
          rw [c] at h3
          obtain ⟨s, rfl⟩ := h3
          simp [List.getD] at h2
      · rintro ⟨k1, k | k | k⟩
        · exact .inl k
        · exact .inr (.inl ⟨k1, k⟩)
        · exact .inr (.inr k)

/-- the document's lists -/
def putL (q : Bs) (w : Int) : List (Bs × Int) → List (Bs × Int)
  | [] => [(q, w)]
  | x :: l => if lt x.1 q = true then x :: putL q w l else if x.1 = q then (q, w) :: l else (q, w) :: x :: l
def dropL (q : Bs) (l : List (Bs × Int)) : List (Bs × Int) := l.filter (fun x => x.1 ≠ q)
theorem mem_putL {q : Bs} {w : Int} : ∀ {l : List (Bs × Int)}, Srt l → ∀ x, x ∈ putL q w l ↔ x = (q, w) ∨ (x.1 ≠ q ∧ x ∈ l)
  | [], _, x => by simp [putL]
  | y :: l, h, x => by
    have h1 := List.pairwise_cons.1 h
    unfold putL
    by_cases c : lt y.1 q = true
    · rw [if_pos c, List.mem_cons, mem_putL h1.2, List.mem_cons]
      constructor
      · rintro (k | k | ⟨k1, k⟩)
        · exact .inr ⟨by rw [k]; exact lt_ne c, .inl k⟩
        · exact .inl k
        · exact .inr ⟨k1, .inr k⟩
      · rintro (k | ⟨k1, k | k⟩)
        · exact .inr (.inl k)
        · exact .inl k
        · exact .inr (.inr ⟨k1, k⟩)
    rw [if_neg c]
    by_cases e : y.1 = q
    · rw [if_pos e, List.mem_cons, List.mem_cons]
      constructor
      · rintro (k | k)
        · exact .inl k
        · exact .inr ⟨fun c2 => lt_ne (h1.1 x k) (e.trans c2.symm), .inr k⟩
      · rintro (k | ⟨k1, k | k⟩)
        · exact .inl k
        · rw [k] at k1; exact absurd e k1
        · exact .inr k
    · have hlt : lt q y.1 = true := (lt_cases q y.1).resolve_right (fun k => k.elim (fun k => e k.symm) c)
      rw [if_neg e, List.mem_cons, List.mem_cons]
      constructor
      · rintro (k | k | k)
        · exact .inl k
        · exact .inr ⟨by rw [k]; exact e, .inl k⟩
        · exact .inr ⟨fun c2 => lt_ne (lt_trans hlt (h1.1 x k)) c2.symm, .inr k⟩
      · rintro (k | ⟨_, k⟩)
        · exact .inl k
        · exact .inr k
theorem srt_putL {q : Bs} {w : Int} : ∀ {l : List (Bs × Int)}, Srt l → Srt (putL q w l)
  | [], _ => List.pairwise_singleton _ _
  | y :: l, h => by
    have h1 := List.pairwise_cons.1 h
    unfold putL
    by_cases c : lt y.1 q = true
    · rw [if_pos c]
      refine List.pairwise_cons.2 ⟨fun x hx => ?_, srt_putL h1.2⟩
      rcases (mem_putL h1.2 x).1 hx with k | ⟨_, k⟩
      · rw [k]; exact c
      · exact h1.1 x k
    rw [if_neg c]
    by_cases e : y.1 = q
    · rw [if_pos e]
      exact List.pairwise_cons.2 ⟨fun x hx => by have := h1.1 x hx; rw [e] at this; exact this, h1.2⟩
    · have hlt : lt q y.1 = true := (lt_cases q y.1).resolve_right (fun k => k.elim (fun k => e k.symm) c)
      rw [if_neg e]
      refine List.pairwise_cons.2 ⟨fun x hx => ?_, h⟩
      rcases List.mem_cons.1 hx with k | k
      · rw [k]; exact hlt
      · exact lt_trans hlt (h1.1 x k)
/-- Put, of a trie and of a list -/
theorem toL_ins {t : Tr} (h : t.Ok) (q : Bs) {w : Int} (hw : w ≠ 0) : (t.ins q w).toL = putL q w t.toL :=
  sorted_ext (toL_sorted (ins_ok h)) (srt_putL (toL_sorted h)) (fun x => by rw [mem_ins hw h, mem_putL (toL_sorted h)])
theorem srt_filter {l : List (Bs × Int)} (h : Srt l) (f : Bs × Int → Bool) : Srt (l.filter f) := h.sublist List.filter_sublist
/-- Drop, of a trie and of a list -/
theorem toL_del {t : Tr} (h : t.Ok) (q : Bs) : (t.del q).toL = dropL q t.toL :=
  sorted_ext (toL_sorted (del_ok h)) (srt_filter (toL_sorted h) _) (fun x => by
    unfold dropL
    rw [mem_del h, List.mem_filter, decide_eq_true_eq]
    exact ⟨fun k => ⟨k.2, k.1⟩, fun k => ⟨k.2, k.1⟩⟩)

/-- the routes on the way to an address, those of fewer digits first -/
def Tr.hold (A : Bs) : Tr → List (Bs × Int)
  | .nil => []
  | .node p o a b => if p <+: A then (if o = 0 then [] else [(p, o)]) ++ (if p.length = A.length then [] else if A.getD p.length false = true then b.hold A else a.hold A) else []
theorem hold_filter (A : Bs) : ∀ {t : Tr}, t.Ok → t.hold A = t.toL.filter (fun x => decide (x.1 <+: A))
  | .nil, _ => rfl
  | .node p o a b, h => by
    obtain ⟨ha, hb, hA, hB⟩ := h
    have ua := toL_under hA ha
    have ub := toL_under hB hb
    have none_of : ∀ {l : List (Bs × Int)}, (∀ x ∈ l, ¬ x.1 <+: A) → l.filter (fun x => decide (x.1 <+: A)) = [] := fun hl => List.filter_eq_nil_iff.2 fun x hx => by simp [hl x hx]
    show _ = ((if o = 0 then [] else [(p, o)]) ++ (a.toL ++ b.toL)).filter _
    rw [List.filter_append, List.filter_append]
    unfold Tr.hold
    by_cases hp : p <+: A
    · rw [if_pos hp]
      have h1 : (if o = 0 then [] else [(p, o)] : List (Bs × Int)).filter (fun x => decide (x.1 <+: A)) = if o = 0 then [] else [(p, o)] := by
        by_cases ho : o = 0
        · rw [if_pos ho]; rfl
        · rw [if_neg ho]; simp [hp]
      rw [h1]
      congr 1
      by_cases hl : p.length = A.length
      · rw [if_pos hl, none_of (l := b.toL) (fun x hx c => ?_), none_of (l := a.toL) (fun x hx c => ?_)]
        · rfl
        · have h2 := (ua x hx).length_le
          have h3 := c.length_le
          rw [List.length_append, List.length_singleton] at h2
          omega
        · have h2 := (ub x hx).length_le
          have h3 := c.length_le
          rw [List.length_append, List.length_singleton] at h2
          omega
      · rw [if_neg hl]
        have hx := ext_of hp (fun e => hl (by rw [e]))
        by_cases hb2 : A.getD p.length false = true
        · rw [hb2] at hx
          rw [if_pos hb2, none_of (l := a.toL) (fun x hx2 c => ext_unlike (List.IsPrefix.trans (ua x hx2) c) hx), List.nil_append]
          exact hold_filter A hB
        · rw [if_neg hb2]
          rw [Bool.not_eq_true] at hb2
          rw [hb2] at hx
          rw [none_of (l := b.toL) (fun x hx2 c => ext_unlike hx (List.IsPrefix.trans (ub x hx2) c)), List.append_nil]
          exact hold_filter A hA
    · rw [if_neg hp]
      have h1 : (if o = 0 then [] else [(p, o)] : List (Bs × Int)).filter (fun x => decide (x.1 <+: A)) = [] := by
        by_cases ho : o = 0
        · rw [if_pos ho]; rfl
        · rw [if_neg ho]; simp [hp]
      rw [h1, none_of (l := a.toL) (fun x hx c => hp (List.IsPrefix.trans (ext_pre (ua x hx)) c)), none_of (l := b.toL) (fun x hx c => hp (List.IsPrefix.trans (ext_pre (ub x hx)) c))]
      rfl
/-- Get: the first on the way that is the prefix itself -/
theorem get_hold {t : Tr} (h : t.Ok) {q A : Bs} (hq : q <+: A) (w : Int) : (q, w) ∈ t.hold A ↔ (q, w) ∈ t.toL := by
  rw [hold_filter A h, List.mem_filter, decide_eq_true_eq]
  exact ⟨fun k => k.1, fun k => ⟨k, hq⟩⟩
/-- those on the way have ever more digits -/
theorem hold_rise {t : Tr} (h : t.Ok) (A : Bs) : (t.hold A).Pairwise (fun x y => x.1.length < y.1.length) := by
  rw [hold_filter A h]
  refine ((toL_sorted h).sublist List.filter_sublist).imp_of_mem fun {x y} hx hy hlt => ?_
  have h1 : x.1 <+: A := of_decide_eq_true (List.mem_filter.1 hx).2
  have h2 : y.1 <+: A := of_decide_eq_true (List.mem_filter.1 hy).2
  rcases Nat.lt_or_ge x.1.length y.1.length with h3 | h3
  · exact h3
  · have h4 : y.1 <+: x.1 := List.prefix_of_prefix_length_le h2 h1 h3
    by_cases e : y.1 = x.1
    · exact absurd e.symm (lt_ne hlt)
    · have := lt_trans hlt (lt_pre h4 e)
      rw [lt_irrefl] at this
      cases this
end Tri
end Go.Proofs.Ytcpfchfhcfdcpaa
