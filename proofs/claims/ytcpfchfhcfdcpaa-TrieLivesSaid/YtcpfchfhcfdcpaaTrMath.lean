/- Tries of digits: what is put, taken out and found; mathematics alone. -/
namespace Go.Proofs.Ytcpfchfhcfdcpaa
namespace Tri

abbrev Bs := List Bool
/-- which stands ahead: by the first digit that is unlike, a start ahead of what it begins -/
def lt : Bs → Bs → Bool
  | _, [] => false
  | [], _ :: _ => true
  | a :: u, b :: v => if a = b then lt u v else b
theorem lt_irrefl : ∀ u : Bs, lt u u = false
  | [] => rfl
  | a :: u => by simp [lt, lt_irrefl u]
theorem lt_trans : ∀ {u v w : Bs}, lt u v = true → lt v w = true → lt u w = true
  | _, [], _, h, _ => by simp [lt] at h
  | _, _ :: _, [], _, h => by simp [lt] at h
  | [], _ :: _, _ :: _, _, _ => rfl
  | a :: u, b :: v, c :: w, h, k => by
    simp only [lt] at h k ⊢
    by_cases hab : a = b <;> by_cases hbc : b = c
    · subst hab; subst hbc
      simp only [if_pos] at h k ⊢
      exact lt_trans h k
    · subst hab
      rw [if_neg hbc] at k ⊢
      exact k
    · subst hbc
      rw [if_neg hab] at h ⊢
      exact h
    · rw [if_neg hab] at h
      rw [if_neg hbc] at k
      subst h; subst k
      exact absurd rfl hbc
theorem lt_ne {u v : Bs} (h : lt u v = true) : u ≠ v := fun e => by rw [e, lt_irrefl] at h; cases h
theorem lt_pre : ∀ {p v : Bs}, p <+: v → p ≠ v → lt p v = true
  | [], [], _, h => absurd rfl h
  | [], _ :: _, _, _ => rfl
  | a :: p, [], h, _ => by simp at h
  | a :: p, b :: v, h, hn => by
    obtain ⟨rfl, h2⟩ := List.cons_prefix_cons.1 h
    simp only [lt, if_pos]
    exact lt_pre h2 (fun e => hn (by rw [e]))
theorem lt_split : ∀ {p u v : Bs}, (p ++ [false]) <+: u → (p ++ [true]) <+: v → lt u v = true
  | [], u, v, h, k => by
    obtain ⟨s, rfl⟩ := h
    obtain ⟨t, rfl⟩ := k
    rfl
  | a :: p, u, v, h, k => by
    obtain ⟨s, rfl⟩ := h
    obtain ⟨t, rfl⟩ := k
    simp only [List.cons_append, lt, if_pos]
    exact lt_split (List.prefix_append _ _) (List.prefix_append _ _)
theorem ext_ne {p x : Bs} {b : Bool} (h : (p ++ [b]) <+: x) : p ≠ x := fun e => by
  have := h.length_le
  rw [← e, List.length_append, List.length_singleton] at this
  omega
theorem ext_pre {p x : Bs} {b : Bool} (h : (p ++ [b]) <+: x) : p <+: x := List.IsPrefix.trans (List.prefix_append _ _) h
theorem ext_unlike {p x : Bs} (h : (p ++ [false]) <+: x) (k : (p ++ [true]) <+: x) : False := by
  have := lt_split h k
  rw [lt_irrefl] at this
  cases this
/-- a start, and the digit behind it -/
theorem ext_of {p x : Bs} (h : p <+: x) (hn : p ≠ x) : (p ++ [x.getD p.length false]) <+: x := by
  obtain ⟨s, rfl⟩ := h
  rcases s with _ | ⟨b, s⟩
  · simp at hn
  · refine ⟨s, ?_⟩
    simp [List.getD]

inductive Tr
  | nil
  | node (p : Bs) (o : Int) (a b : Tr)
def Tr.toL : Tr → List (Bs × Int)
  | .nil => []
  | .node p o a b => (if o = 0 then [] else [(p, o)]) ++ (a.toL ++ b.toL)
def Tr.root (r : Bs) : Tr → Prop
  | .nil => True
  | .node p _ _ _ => r <+: p
def Tr.Ok : Tr → Prop
  | .nil => True
  | .node p _ a b => a.root (p ++ [false]) ∧ b.root (p ++ [true]) ∧ a.Ok ∧ b.Ok
theorem toL_under : ∀ {t : Tr}, t.Ok → ∀ {r : Bs}, t.root r → ∀ x ∈ t.toL, r <+: x.1
  | .nil, _, _, _, x, hx => by cases hx
  | .node p o a b, h, r, hr, x, hx => by
    rcases List.mem_append.1 hx with hx | hx
    · by_cases ho : o = 0
      · rw [if_pos ho] at hx; cases hx
      · rw [if_neg ho, List.mem_singleton] at hx
        subst hx
        exact hr
    · rcases List.mem_append.1 hx with hx | hx
      · exact List.IsPrefix.trans hr (ext_pre (toL_under h.2.2.1 h.1 x hx))
      · exact List.IsPrefix.trans hr (ext_pre (toL_under h.2.2.2 h.2.1 x hx))
theorem toL_sorted : ∀ {t : Tr}, t.Ok → t.toL.Pairwise (fun x y => lt x.1 y.1 = true)
  | .nil, _ => List.Pairwise.nil
  | .node p o a b, h => by
    have ha := toL_under h.2.2.1 h.1
    have hb := toL_under h.2.2.2 h.2.1
    refine List.pairwise_append.2 ⟨?_, List.pairwise_append.2 ⟨toL_sorted h.2.2.1, toL_sorted h.2.2.2, fun x hx y hy => lt_split (ha x hx) (hb y hy)⟩, fun x hx y hy => ?_⟩
    · split <;> simp
    · split at hx
      · cases hx
      · rw [List.mem_singleton] at hx
        subst hx
        rcases List.mem_append.1 hy with hy | hy
        · exact lt_pre (ext_pre (ha y hy)) (ext_ne (ha y hy))
        · exact lt_pre (ext_pre (hb y hy)) (ext_ne (hb y hy))
theorem mem_node {p : Bs} {o : Int} {a b : Tr} {x : Bs × Int} : x ∈ (Tr.node p o a b).toL ↔ (o ≠ 0 ∧ x = (p, o)) ∨ x ∈ a.toL ∨ x ∈ b.toL := by
  show x ∈ (if o = 0 then [] else [(p, o)]) ++ (a.toL ++ b.toL) ↔ _
  rw [List.mem_append, List.mem_append]
  by_cases ho : o = 0
  · simp [ho]
  · simp [ho]
/-- sorted lists of the same members are the same -/
theorem sorted_ext : ∀ {l m : List (Bs × Int)}, l.Pairwise (fun x y => lt x.1 y.1 = true) → m.Pairwise (fun x y => lt x.1 y.1 = true) → (∀ x, x ∈ l ↔ x ∈ m) → l = m := by
  intro l m hl hm h
  have nd : ∀ {k : List (Bs × Int)}, k.Pairwise (fun x y => lt x.1 y.1 = true) → k.Nodup := fun {k} hk => (show k.Pairwise (fun x y => x ≠ y) from hk.imp (fun {x y} h (e : x = y) => lt_ne h (by rw [e])))
  refine List.Perm.eq_of_pairwise (le := fun x y => lt x.1 y.1 = true) (fun x y _ _ h1 h2 => ?_) hl hm ((List.perm_ext_iff_of_nodup (nd hl) (nd hm)).2 h)
  have := lt_trans h1 h2
  rw [lt_irrefl] at this
  cases this

/-- how many digits two have in common -/
def cpl : Bs → Bs → Nat
  | a :: u, b :: v => if a = b then cpl u v + 1 else 0
  | _, _ => 0
theorem cpl_left : ∀ u v : Bs, cpl u v ≤ u.length
  | [], _ => by simp [cpl]
  | _ :: _, [] => by simp [cpl]
  | a :: u, b :: v => by
    simp only [cpl, List.length_cons]
    have := cpl_left u v
    split <;> omega
theorem cpl_right : ∀ u v : Bs, cpl u v ≤ v.length
  | [], _ => by simp [cpl]
  | _ :: _, [] => by simp [cpl]
  | a :: u, b :: v => by
    simp only [cpl, List.length_cons]
    have := cpl_right u v
    split <;> omega
theorem cpl_take : ∀ u v : Bs, u.take (cpl u v) = v.take (cpl u v)
  | [], _ => by simp [cpl]
  | _ :: _, [] => by simp [cpl]
  | a :: u, b :: v => by
    simp only [cpl]
    split
    · rename_i e
      rw [e, List.take_succ_cons, List.take_succ_cons, cpl_take u v]
    · rfl
theorem cpl_pre {u v : Bs} : cpl u v = u.length ↔ u <+: v := by
  constructor
  · intro h
    have := cpl_take u v
    rw [h, List.take_length] at this
    rw [this]
    exact List.take_prefix _ _
  · rintro ⟨s, rfl⟩
    induction u with
    | nil => rfl
    | cons a u ih => simp [cpl, ih]
theorem cpl_comm : ∀ u v : Bs, cpl u v = cpl v u
  | [], [] => rfl
  | [], _ :: _ => rfl
  | _ :: _, [] => rfl
  | a :: u, b :: v => by
    simp only [cpl]
    rw [cpl_comm u v]
    by_cases h : a = b
    · rw [if_pos h, if_pos h.symm]
    · rw [if_neg h, if_neg (fun e => h e.symm)]
theorem cpl_unlike : ∀ {u v : Bs}, cpl u v < u.length → cpl u v < v.length → u.getD (cpl u v) false = !(v.getD (cpl u v) false)
  | [], _, h, _ => by simp at h
  | _ :: _, [], _, h => by simp at h
  | a :: u, b :: v, h, k => by
    simp only [cpl] at h k ⊢
    by_cases e : a = b
    · rw [if_pos e] at h k ⊢
      have := cpl_unlike (u := u) (v := v) (by simpa using h) (by simpa using k)
      simpa [List.getD] using this
    · rw [if_neg e] at h k ⊢
      cases a <;> cases b <;> simp_all [List.getD]
theorem getD_pre {u v : Bs} (h : u <+: v) {i : Nat} (hi : i < u.length) : u.getD i false = v.getD i false := by
  obtain ⟨s, rfl⟩ := h
  simp [List.getD, List.getElem?_append_left hi]
theorem take_pre_of {u v : Bs} {n : Nat} (h : u.take n = v.take n) (hn : n < v.length) : (u.take n ++ [v.getD n false]) <+: v := by
  rw [h]
  have := ext_of (p := v.take n) (x := v) (List.take_prefix _ _) (fun e => by have := congrArg List.length e; rw [List.length_take] at this; omega)
  rwa [List.length_take, Nat.min_eq_left (Nat.le_of_lt hn)] at this

/-- a trie with a route -/
def Tr.ins (q : Bs) (w : Int) : Tr → Tr
  | .nil => .node q w .nil .nil
  | .node p o a b =>
    if p = q then .node q w a b
    else if cpl p q = p.length then (if q.getD (cpl p q) false = true then .node p o a (b.ins q w) else .node p o (a.ins q w) b)
    else if cpl p q = q.length then (if p.getD (cpl p q) false = true then .node q w .nil (.node p o a b) else .node q w (.node p o a b) .nil)
    else if q.getD (cpl p q) false = true then .node (q.take (cpl p q)) 0 (.node p o a b) (.node q w .nil .nil) else .node (q.take (cpl p q)) 0 (.node q w .nil .nil) (.node p o a b)
theorem ins_root {q : Bs} {w : Int} {r : Bs} (hr : r <+: q) : ∀ {t : Tr}, t.root r → (t.ins q w).root r
  | .nil, _ => hr
  | .node p o a b, h => by
    have hp : r <+: p := h
    unfold Tr.ins
    have hc : r <+: q.take (cpl p q) := by
      have h1 : r.length ≤ cpl p q := by
        obtain ⟨s, rfl⟩ := hp
        obtain ⟨u, rfl⟩ := hr
        clear h
        induction r with
        | nil => exact Nat.zero_le _
        | cons x r ih => simp [cpl]; exact ih
      exact List.prefix_take_iff.2 ⟨hr, h1⟩
    split
    · exact hr
    · split
      · split <;> exact hp
      · split
        · split <;> exact hr
        · split <;> exact hc
theorem ins_ok {q : Bs} {w : Int} : ∀ {t : Tr}, t.Ok → (t.ins q w).Ok
  | .nil, _ => ⟨trivial, trivial, trivial, trivial⟩
  | .node p o a b, h => by
    obtain ⟨ha, hb, hA, hB⟩ := h
    have hn : (Tr.node p o a b).Ok := ⟨ha, hb, hA, hB⟩
    unfold Tr.ins
    by_cases e : p = q
    · rw [if_pos e]
      subst e
      exact ⟨ha, hb, hA, hB⟩
    rw [if_neg e]
    by_cases h1 : cpl p q = p.length
    · rw [if_pos h1]
      have hx := ext_of (cpl_pre.1 h1) e
      rw [h1]
      by_cases h2 : q.getD p.length false = true
      · rw [if_pos h2]
        rw [h2] at hx
        exact ⟨ha, ins_root hx hb, hA, ins_ok hB⟩
      · rw [if_neg h2]
        rw [Bool.not_eq_true] at h2
        rw [h2] at hx
        exact ⟨ins_root hx ha, hb, ins_ok hA, hB⟩
    rw [if_neg h1]
    by_cases h2 : cpl p q = q.length
    · rw [if_pos h2]
      have hx := ext_of (cpl_pre.1 ((cpl_comm q p).trans h2)) (fun c => e c.symm)
      rw [h2]
      by_cases h3 : p.getD q.length false = true
      · rw [if_pos h3]
        rw [h3] at hx
        exact ⟨trivial, hx, trivial, hn⟩
      · rw [if_neg h3]
        rw [Bool.not_eq_true] at h3
        rw [h3] at hx
        exact ⟨hx, trivial, hn, trivial⟩
    rw [if_neg h2]
    have hl1 : cpl p q < p.length := Nat.lt_of_le_of_ne (cpl_left _ _) h1
    have hl2 : cpl p q < q.length := Nat.lt_of_le_of_ne (cpl_right _ _) h2
    have hu := cpl_unlike hl1 hl2
    have hq := take_pre_of (u := q) (v := q) rfl hl2
    have hp := take_pre_of (u := q) (v := p) (cpl_take p q).symm hl1
    by_cases h3 : q.getD (cpl p q) false = true
    · rw [if_pos h3]
      rw [h3] at hq hu
      rw [hu] at hp
      exact ⟨hp, hq, hn, ⟨trivial, trivial, trivial, trivial⟩⟩
    · rw [if_neg h3]
      rw [Bool.not_eq_true] at h3
      rw [h3] at hq hu
      rw [hu] at hp
      exact ⟨hq, hp, ⟨trivial, trivial, trivial, trivial⟩, hn⟩
theorem mem_leaf {q : Bs} {w : Int} (hw : w ≠ 0) {x : Bs × Int} : x ∈ (Tr.node q w .nil .nil).toL ↔ x = (q, w) := by
  rw [mem_node]
  simp [Tr.toL, hw]
theorem mem_ins {q : Bs} {w : Int} (hw : w ≠ 0) : ∀ {t : Tr}, t.Ok → ∀ x, x ∈ (t.ins q w).toL ↔ x = (q, w) ∨ (x.1 ≠ q ∧ x ∈ t.toL)
  | .nil, _, x => by
    show x ∈ (Tr.node q w .nil .nil).toL ↔ _
    rw [mem_leaf hw]
    simp [Tr.toL]
  | .node p o a b, h, x => by
    obtain ⟨ha, hb, hA, hB⟩ := h
    have hn : (Tr.node p o a b).Ok := ⟨ha, hb, hA, hB⟩
    have ua := toL_under hA ha
    have ub := toL_under hB hb
    have un := toL_under hn (r := p) (List.prefix_refl _)
    unfold Tr.ins
    by_cases e : p = q
    · rw [if_pos e]
      subst e
      rw [mem_node, mem_node]
      constructor
      · rintro (⟨_, h1⟩ | h1 | h1)
        · exact .inl h1
        · exact .inr ⟨(fun c => ext_ne (ua x h1) c.symm), .inr (.inl h1)⟩
        · exact .inr ⟨(fun c => ext_ne (ub x h1) c.symm), .inr (.inr h1)⟩
      · rintro (h1 | ⟨h1, ⟨_, h2⟩ | h2⟩)
        · exact .inl ⟨hw, h1⟩
        · rw [h2] at h1; exact absurd rfl h1
        · exact .inr h2
    rw [if_neg e]
    by_cases h1 : cpl p q = p.length
    · rw [if_pos h1]
      have hx := ext_of (cpl_pre.1 h1) e
      rw [h1]
      by_cases h2 : q.getD p.length false = true
      · rw [if_pos h2]
        rw [h2] at hx
        rw [mem_node, mem_node, mem_ins hw hB]
        constructor
        · rintro (⟨k0, k⟩ | k | k | ⟨k1, k2⟩)
          · exact .inr ⟨(by rw [k]; exact e), .inl ⟨k0, k⟩⟩
          · exact .inr ⟨(fun c => ext_unlike (ua x k) (c ▸ hx)), .inr (.inl k)⟩
          · exact .inl k
          · exact .inr ⟨k1, .inr (.inr k2)⟩
        · rintro (k | ⟨k1, k | k | k⟩)
          · exact .inr (.inr (.inl k))
          · exact .inl k
          · exact .inr (.inl k)
          · exact .inr (.inr (.inr ⟨k1, k⟩))
      · rw [if_neg h2]
        rw [Bool.not_eq_true] at h2
        rw [h2] at hx
        rw [mem_node, mem_node, mem_ins hw hA]
        constructor
        · rintro (⟨k0, k⟩ | (k | ⟨k1, k2⟩) | k)
          · exact .inr ⟨(by rw [k]; exact e), .inl ⟨k0, k⟩⟩
          · exact .inl k
          · exact .inr ⟨k1, .inr (.inl k2)⟩
          · exact .inr ⟨(fun c => ext_unlike (c ▸ hx) (ub x k)), .inr (.inr k)⟩
        · rintro (k | ⟨k1, k | k | k⟩)
          · exact .inr (.inl (.inl k))
          · exact .inl k
          · exact .inr (.inl (.inr ⟨k1, k⟩))
          · exact .inr (.inr k)
    rw [if_neg h1]
    have hne : ∀ y ∈ (Tr.node p o a b).toL, y.1 ≠ q := fun y hy c => h1 (cpl_pre.2 (c ▸ un y hy))
    by_cases h2 : cpl p q = q.length
    · rw [if_pos h2]
      by_cases h3 : p.getD (cpl p q) false = true
      · rw [if_pos h3, mem_node]
        constructor
        · rintro (⟨_, k⟩ | k | k)
          · exact .inl k
          · cases k
          · exact .inr ⟨hne x k, k⟩
        · rintro (k | ⟨_, k⟩)
          · exact .inl ⟨hw, k⟩
          · exact .inr (.inr k)
      · rw [if_neg h3, mem_node]
        constructor
        · rintro (⟨_, k⟩ | k | k)
          · exact .inl k
          · exact .inr ⟨hne x k, k⟩
          · cases k
        · rintro (k | ⟨_, k⟩)
          · exact .inl ⟨hw, k⟩
          · exact .inr (.inl k)
    rw [if_neg h2]
    by_cases h3 : q.getD (cpl p q) false = true
    · rw [if_pos h3, mem_node, mem_leaf hw]
      constructor
      · rintro (⟨k, _⟩ | k | k)
        · exact absurd rfl k
        · exact .inr ⟨hne x k, k⟩
        · exact .inl k
      · rintro (k | ⟨_, k⟩)
        · exact .inr (.inr k)
        · exact .inr (.inl k)
    · rw [if_neg h3, mem_node, mem_leaf hw]
      constructor
      · rintro (⟨k, _⟩ | k | k)
        · exact absurd rfl k
        · exact .inl k
        · exact .inr ⟨hne x k, k⟩
      · rintro (k | ⟨_, k⟩)
        · exact .inr (.inl k)
        · exact .inr (.inr k)
end Tri
end Go.Proofs.Ytcpfchfhcfdcpaa
