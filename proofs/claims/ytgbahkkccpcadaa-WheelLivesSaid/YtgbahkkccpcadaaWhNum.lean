/- Package wheel: timers in their order, as lists: what is put in, taken out, and which is the first one. -/
import Derived.Test.YtgbahkkccpcadaaWhCmp
namespace Go.Proofs.Ytgbahkkccpcadaa
namespace Wh

instance : DecidableEq Tm := fun x y =>
  if h : x.o = y.o ∧ x.k = y.k ∧ x.t = y.t then isTrue (by cases x; cases y; simp only at h; obtain ⟨rfl, rfl, rfl⟩ := h; rfl)
  else isFalse (fun e => h (by subst e; exact ⟨rfl, rfl, rfl⟩))
/-- does one stand ahead of the other? -/
def ltB (x y : Tm) : Bool := decide (x.t < y.t) || (decide (x.t = y.t) && (decide (x.o < y.o) || (decide (x.o = y.o) && decide (x.k < y.k))))
theorem lt_iff (x y : Tm) : ltB x y = true ↔ x.t < y.t ∨ x.t = y.t ∧ (x.o < y.o ∨ x.o = y.o ∧ x.k < y.k) := by
  unfold ltB
  simp only [Bool.or_eq_true, Bool.and_eq_true, decide_eq_true_eq]
theorem tm_ext {x y : Tm} (h1 : x.o = y.o) (h2 : x.k = y.k) (h3 : x.t = y.t) : x = y := by
  cases x; cases y; simp only at h1 h2 h3; subst h1 h2 h3; rfl
theorem cmp_cases (x y : Tm) : ltB x y = true ∧ x ≠ y ∧ cmpT x y = -1 ∨ x = y ∧ ltB x y = false ∧ cmpT x y = 0 ∨ ltB x y = false ∧ x ≠ y ∧ cmpT x y = 1 := by
  unfold cmpT or3
  rcases sgn_cases x.t y.t with ⟨h, hv⟩ | ⟨h, hv⟩ | ⟨h, hv⟩
  · refine .inl ⟨(lt_iff _ _).2 (.inl h), fun e => by rw [e] at h; omega, by rw [hv]; rfl⟩
  · rcases sgn_cases x.o y.o with ⟨h2, hv2⟩ | ⟨h2, hv2⟩ | ⟨h2, hv2⟩
    · refine .inl ⟨(lt_iff _ _).2 (.inr ⟨h, .inl h2⟩), fun e => by rw [e] at h2; omega, by rw [hv, hv2]; rfl⟩
    · rcases sgn_cases x.k y.k with ⟨h3, hv3⟩ | ⟨h3, hv3⟩ | ⟨h3, hv3⟩
      · refine .inl ⟨(lt_iff _ _).2 (.inr ⟨h, .inr ⟨h2, h3⟩⟩), fun e => by rw [e] at h3; omega, by rw [hv, hv2, hv3]; rfl⟩
      · refine .inr (.inl ⟨tm_ext h2 h3 h, ?_, by rw [hv, hv2, hv3]; rfl⟩)
        refine Bool.eq_false_iff.2 fun c => ?_
        have := (lt_iff _ _).1 c
        omega
      · refine .inr (.inr ⟨?_, fun e => by rw [e] at h3; omega, by rw [hv, hv2, hv3]; rfl⟩)
        refine Bool.eq_false_iff.2 fun c => ?_
        have := (lt_iff _ _).1 c
        omega
    · refine .inr (.inr ⟨?_, fun e => by rw [e] at h2; omega, by rw [hv, hv2]; rfl⟩)
      refine Bool.eq_false_iff.2 fun c => ?_
      have := (lt_iff _ _).1 c
      omega
  · refine .inr (.inr ⟨?_, fun e => by rw [e] at h; omega, by rw [hv]; rfl⟩)
    refine Bool.eq_false_iff.2 fun c => ?_
    have := (lt_iff _ _).1 c
    omega
theorem cmp_lt (x y : Tm) : cmpT x y < 0 ↔ ltB x y = true := by
  rcases cmp_cases x y with ⟨a, _, c⟩ | ⟨_, b, c⟩ | ⟨b, _, c⟩
  · rw [c, a]; simp
  · rw [c, b]; simp
  · rw [c, b]; simp
theorem cmp_eq (x y : Tm) : cmpT x y = 0 ↔ x = y := by
  rcases cmp_cases x y with ⟨_, b, c⟩ | ⟨b, _, c⟩ | ⟨_, b, c⟩ <;> rw [c] <;> simp [b]
theorem lt_irr (x : Tm) : ltB x x = false := by
  refine Bool.eq_false_iff.2 fun c => ?_
  have := (lt_iff _ _).1 c
  omega
theorem lt_trans {x y z : Tm} (h : ltB x y = true) (k : ltB y z = true) : ltB x z = true := by
  have h1 := (lt_iff _ _).1 h
  have h2 := (lt_iff _ _).1 k
  exact (lt_iff _ _).2 (by omega)
theorem lt_asymm {x y : Tm} (h : ltB x y = true) : ltB y x = false := by
  refine Bool.eq_false_iff.2 fun c => ?_
  have h1 := (lt_iff _ _).1 h
  have h2 := (lt_iff _ _).1 c
  omega
theorem lt_total {x y : Tm} (h : ltB x y = false) (hne : x ≠ y) : ltB y x = true := by
  have h1 : ¬ _ := fun c => (Bool.eq_false_iff.1 h) ((lt_iff x y).2 c)
  refine (lt_iff _ _).2 ?_
  by_cases e1 : x.t = y.t
  · by_cases e2 : x.o = y.o
    · by_cases e3 : x.k = y.k
      · exact absurd (tm_ext e2 e3 e1) hne
      · omega
    · omega
  · omega
abbrev Srt (L : List Tm) : Prop := L.Pairwise (fun x y => ltB x y = true)
/-- how many stand ahead -/
def pos (x : Tm) (L : List Tm) : Nat := (L.filter (fun y => ltB y x)).length
theorem pos_le (x : Tm) (L : List Tm) : pos x L ≤ L.length := List.length_filter_le _ _
theorem split_at (p : Tm → Bool) : ∀ {L : List Tm}, L.Pairwise (fun x y => p y = true → p x = true) → L.filter p ++ L.filter (fun y => !p y) = L
  | [], _ => rfl
  | a :: L, h => by
    obtain ⟨h1, h2⟩ := List.pairwise_cons.1 h
    cases ha : p a
    · have hn : ∀ b ∈ L, p b = false := fun b hb => by
        cases hb' : p b
        · rfl
        · have := h1 b hb hb'
          rw [ha] at this
          cases this
      have e1 : (a :: L).filter p = [] := List.filter_eq_nil_iff.2 (fun b hb => by
        rcases List.mem_cons.1 hb with rfl | hb
        · simp [ha]
        · simp [hn b hb])
      have e2 : (a :: L).filter (fun y => !p y) = a :: L := List.filter_eq_self.2 (fun b hb => by
        rcases List.mem_cons.1 hb with rfl | hb
        · simp [ha]
        · simp [hn b hb])
      rw [e1, e2]
      rfl
    · rw [List.filter_cons_of_pos ha, List.filter_cons_of_neg (by simp [ha]), List.cons_append, split_at p h2]
theorem Srt.mono {L : List Tm} (h : Srt L) (x : Tm) : L.Pairwise (fun a b => ltB b x = true → ltB a x = true) := h.imp (fun hab hb => lt_trans hab hb)
theorem take_pos {L : List Tm} (h : Srt L) (x : Tm) : L.take (pos x L) = L.filter (fun y => ltB y x) := by
  have e := split_at (fun y => ltB y x) (h.mono x)
  unfold pos
  generalize L.filter (fun y => ltB y x) = A at e ⊢
  rw [← e, List.take_left]
theorem drop_pos {L : List Tm} (h : Srt L) (x : Tm) : L.drop (pos x L) = L.filter (fun y => !ltB y x) := by
  have e := split_at (fun y => ltB y x) (h.mono x)
  unfold pos
  generalize L.filter (fun y => ltB y x) = A at e ⊢
  conv => lhs; rw [← e]
  rw [List.drop_left]
theorem pos_bound {L : List Tm} (x : Tm) (i : Nat) (hi : i ≤ L.length) (h1 : ∀ j y, j < i → L[j]? = some y → ltB y x = true) (h2 : ∀ j y, i ≤ j → L[j]? = some y → ltB y x = false) : pos x L = i := by
  have e : L.filter (fun y => ltB y x) = L.take i := by
    conv => lhs; rw [← List.take_append_drop i L]
    rw [List.filter_append, List.filter_eq_self.2, List.filter_eq_nil_iff.2, List.append_nil]
    · intro y hy
      obtain ⟨j, hj, rfl⟩ := List.getElem_of_mem hy
      rw [List.getElem_drop]
      have := h2 (i + j) (L[i + j]'(by rw [List.length_drop] at hj; omega)) (by omega) (List.getElem?_eq_getElem _)
      simp [this]
    · intro y hy
      obtain ⟨j, hj, rfl⟩ := List.getElem_of_mem hy
      rw [List.getElem_take]
      rw [List.length_take] at hj
      exact h1 j (L[j]'(by omega)) (by omega) (List.getElem?_eq_getElem _)
  unfold pos
  rw [e, List.length_take]
  omega
/-- a timer put in at its place -/
def ins (x : Tm) (L : List Tm) : List Tm := L.filter (fun y => ltB y x) ++ x :: L.filter (fun y => !ltB y x)
theorem ins_pos {L : List Tm} (h : Srt L) (x : Tm) : L.take (pos x L) ++ x :: L.drop (pos x L) = ins x L := by
  rw [take_pos h, drop_pos h]; rfl
theorem mem_ins {x y : Tm} {L : List Tm} : y ∈ ins x L ↔ y = x ∨ y ∈ L := by
  unfold ins
  rw [List.mem_append, List.mem_cons, List.mem_filter, List.mem_filter]
  cases h : ltB y x <;> simp
  constructor
  · rintro (h | h)
    · exact .inr h
    · exact .inl h
  · rintro (h | h)
    · exact .inr h
    · exact .inl h
theorem Srt.ins {L : List Tm} (h : Srt L) {x : Tm} (hx : x ∉ L) : Srt (ins x L) := by
  unfold Wh.ins
  refine List.pairwise_append.2 ⟨h.filter _, List.pairwise_cons.2 ⟨fun y hy => ?_, h.filter _⟩, fun a ha b hb => ?_⟩
  · obtain ⟨h1, h2⟩ := List.mem_filter.1 hy
    exact lt_total (by simpa using h2) (fun e => hx (e ▸ h1))
  · obtain ⟨h1, h2⟩ := List.mem_filter.1 ha
    rcases List.mem_cons.1 hb with rfl | hb
    · exact h2
    · obtain ⟨h3, h4⟩ := List.mem_filter.1 hb
      have : ltB x b = true := lt_total (by simpa using h4) (fun e => hx (e ▸ h3))
      exact lt_trans h2 this
theorem filter_comm (p q : Tm → Bool) (L : List Tm) : (L.filter p).filter q = (L.filter q).filter p := by
  rw [List.filter_filter, List.filter_filter]
  congr 1
  funext y
  exact Bool.and_comm _ _
theorem filter_ins_pos {L : List Tm} {x : Tm} {p : Tm → Bool} (hp : p x = true) : (ins x L).filter p = ins x (L.filter p) := by
  unfold ins
  rw [List.filter_append, List.filter_cons_of_pos hp, filter_comm _ p, filter_comm _ p]
theorem filter_ins_neg {L : List Tm} (h : Srt L) {x : Tm} {p : Tm → Bool} (hp : p x = false) : (ins x L).filter p = L.filter p := by
  unfold ins
  rw [List.filter_append, List.filter_cons_of_neg (by simp [hp]), filter_comm _ p, filter_comm _ p]
  exact split_at _ (Srt.mono (h.filter p) x)
theorem length_ins {L : List Tm} (h : Srt L) (x : Tm) : (ins x L).length = L.length + 1 := by
  rw [← ins_pos h]
  have := pos_le x L
  simp only [List.length_append, List.length_cons, List.length_take, List.length_drop]
  omega

/-- without what an owner and a kind name -/
def rem (o k : Int) (L : List Tm) : List Tm := L.filter (fun y => !(decide (y.o = o) && decide (y.k = k)))
theorem mem_rem {o k : Int} {L : List Tm} {y : Tm} : y ∈ rem o k L ↔ y ∈ L ∧ ¬ (y.o = o ∧ y.k = k) := by
  unfold rem
  rw [List.mem_filter]
  refine and_congr Iff.rfl ?_
  simp only [Bool.not_eq_true', Bool.and_eq_false_iff, decide_eq_false_iff_not]
  by_cases a : y.o = o <;> by_cases b : y.k = k <;> simp [a, b]
/-- no two of one name -/
def Unq (L : List Tm) : Prop := ∀ x ∈ L, ∀ y ∈ L, x.o = y.o → x.k = y.k → x = y
theorem at_pos {L : List Tm} (h : Srt L) {x : Tm} (hx : x ∈ L) : ∃ R, L.drop (pos x L) = x :: R ∧ L.take (pos x L) ++ R = L.filter (fun y => !decide (y = x)) := by
  have hd := drop_pos h x
  have hxd : x ∈ L.drop (pos x L) := by rw [hd]; exact List.mem_filter.2 ⟨hx, by simp [lt_irr]⟩
  cases hc : L.drop (pos x L) with
  | nil => rw [hc] at hxd; cases hxd
  | cons y R =>
    have hs : Srt (y :: R) := hc ▸ h.sublist (List.drop_sublist _ _)
    obtain ⟨h1, h2⟩ := List.pairwise_cons.1 hs
    have hy : ltB y x = false := by
      have : y ∈ L.drop (pos x L) := by rw [hc]; exact List.mem_cons_self
      rw [hd] at this
      simpa using (List.mem_filter.1 this).2
    have e : x = y := by
      rw [hc] at hxd
      rcases List.mem_cons.1 hxd with e | hR
      · exact e
      · have := h1 x hR
        rw [hy] at this
        cases this
    subst e
    refine ⟨R, rfl, ?_⟩
    have e2 : L = L.take (pos x L) ++ x :: R := by rw [← hc]; exact (List.take_append_drop _ _).symm
    conv => rhs; rw [e2]
    rw [List.filter_append, List.filter_cons_of_neg (by simp), List.filter_eq_self.2, List.filter_eq_self.2]
    · intro b hb
      have := h1 b hb
      have hne : b ≠ x := fun e => by rw [e, lt_irr] at this; cases this
      simp [hne]
    · intro b hb
      rw [take_pos h] at hb
      have := (List.mem_filter.1 hb).2
      have hne : b ≠ x := fun e => by rw [e, lt_irr] at this; cases this
      simp [hne]
theorem rem_eq {L : List Tm} (hu : Unq L) {x : Tm} (hx : x ∈ L) : rem x.o x.k L = L.filter (fun y => !decide (y = x)) := by
  unfold rem
  refine List.filter_congr fun y hy => ?_
  by_cases e : y = x
  · subst e; simp
  · have : ¬ (y.o = x.o ∧ y.k = x.k) := fun ⟨a, b⟩ => e (hu y hy x hx a b)
    simp only [e, decide_false]
    congr 1
    simpa using this
theorem rem_none {o k : Int} {L : List Tm} (h : ∀ y ∈ L, ¬ (y.o = o ∧ y.k = k)) : rem o k L = L := by
  unfold rem
  refine List.filter_eq_self.2 fun y hy => ?_
  have := h y hy
  simp only [Bool.not_eq_true', Bool.and_eq_false_iff, decide_eq_false_iff_not]
  by_cases a : y.o = o
  · exact .inr fun b => this ⟨a, b⟩
  · exact .inl a
theorem length_rem {L : List Tm} (h : Srt L) (hu : Unq L) {x : Tm} (hx : x ∈ L) : (rem x.o x.k L).length + 1 = L.length := by
  obtain ⟨R, h1, h2⟩ := at_pos h hx
  rw [rem_eq hu hx, ← h2]
  have : L = L.take (pos x L) ++ x :: R := by rw [← h1]; exact (List.take_append_drop _ _).symm
  conv => rhs; rw [this]
  simp only [List.length_append, List.length_cons]
  omega
theorem Unq.sub {L M : List Tm} (h : Unq L) (hs : ∀ y ∈ M, y ∈ L) : Unq M := fun x hx y hy => h x (hs x hx) y (hs y hy)
theorem Unq.ins {L : List Tm} (h : Unq L) {x : Tm} (hx : ∀ y ∈ L, ¬ (y.o = x.o ∧ y.k = x.k)) : Unq (ins x L) := by
  intro a ha b hb h1 h2
  rcases mem_ins.1 ha with ea | ha'
  · rcases mem_ins.1 hb with eb | hb'
    · rw [ea, eb]
    · subst ea
      exact absurd ⟨h1.symm, h2.symm⟩ (hx b hb')
  · rcases mem_ins.1 hb with eb | hb'
    · subst eb
      exact absurd ⟨h1, h2⟩ (hx a ha')
    · exact h a ha' b hb' h1 h2
def findT (o k : Int) (L : List Tm) : Option Tm := L.find? (fun y => decide (y.o = o) && decide (y.k = k))
theorem find_some {o k : Int} {L : List Tm} {x : Tm} (h : findT o k L = some x) : x ∈ L ∧ x.o = o ∧ x.k = k := by
  have h1 := List.find?_some h
  simp only [Bool.and_eq_true, decide_eq_true_eq] at h1
  exact ⟨List.mem_of_find?_eq_some h, h1⟩
theorem find_none {o k : Int} {L : List Tm} (h : findT o k L = none) : ∀ y ∈ L, ¬ (y.o = o ∧ y.k = k) := by
  intro y hy ⟨a, b⟩
  have := List.find?_eq_none.1 h y hy
  simp [a, b] at this
theorem find_mem {L : List Tm} (hu : Unq L) {x : Tm} (hx : x ∈ L) : findT x.o x.k L = some x := by
  cases h : findT x.o x.k L with
  | none => exact absurd ⟨rfl, rfl⟩ (find_none h x hx)
  | some y =>
    obtain ⟨h1, h2, h3⟩ := find_some h
    rw [hu y h1 x hx h2 h3]
def getV : Option Tm → Int
  | none => 0
  | some x => x.t

/-! ### the first one -/
def Vi (start : Int) (n : Nat) (y : Tm) : Prop := ∃ j : Nat, j < n ∧ y.t / 256 % 64 = (start + j) % 64
structure Nx (T : List Tm) (start : Int) (n : Nat) (f : Option Tm) : Prop where
  none_ : f = none → ∀ y ∈ T, ¬ Vi start n y
  some_ : ∀ x, f = some x → x ∈ T ∧ ∀ y ∈ T, Vi start n y → y = x ∨ ltB x y = true
  far : ∀ y ∈ T, Vi start n y → start + 64 ≤ y.t / 256
theorem nx_start (T : List Tm) (start : Int) : Nx T start 0 none :=
  ⟨fun _ y _ h => by obtain ⟨j, hj, _⟩ := h; omega, fun x h => (by cases h), fun y _ h => by obtain ⟨j, hj, _⟩ := h; omega⟩
theorem vi_succ {start : Int} {n : Nat} {y : Tm} : Vi start (n + 1) y ↔ Vi start n y ∨ y.t / 256 % 64 = (start + n) % 64 := by
  constructor
  · rintro ⟨j, hj, h⟩
    by_cases e : j = n
    · subst e; exact .inr h
    · exact .inl ⟨j, by omega, h⟩
  · rintro (⟨j, hj, h⟩ | h)
    · exact ⟨j, by omega, h⟩
    · exact ⟨n, by omega, h⟩
/-- of a slot -/
def slotB (q : Int) (y : Tm) : Bool := decide (y.t / 256 % 64 = q)
theorem slot_iff {q : Int} {y : Tm} : slotB q y = true ↔ y.t / 256 % 64 = q := by unfold slotB; exact decide_eq_true_iff
theorem head_min {L : List Tm} (h : Srt L) {x : Tm} {R : List Tm} (e : L = x :: R) : ∀ y ∈ L, y = x ∨ ltB x y = true := by
  subst e
  intro y hy
  rcases List.mem_cons.1 hy with rfl | hy
  · exact .inl rfl
  · exact .inr ((List.pairwise_cons.1 h).1 y hy)
theorem t_le {x y : Tm} (h : y = x ∨ ltB x y = true) : x.t ≤ y.t := by
  rcases h with rfl | h
  · exact Int.le_refl _
  · have := (lt_iff _ _).1 h; omega
theorem Nx.empty {T : List Tm} {start : Int} {n : Nat} {f : Option Tm} (h : Nx T start n f) (he : T.filter (slotB ((start + n) % 64)) = []) : Nx T start (n + 1) f := by
  have hno : ∀ y ∈ T, ¬ y.t / 256 % 64 = (start + n) % 64 := fun y hy c => by
    have := List.filter_eq_nil_iff.1 he y hy
    exact this (slot_iff.2 c)
  refine ⟨fun hf y hy hv => ?_, fun x hf => ⟨(h.some_ x hf).1, fun y hy hv => ?_⟩, fun y hy hv => ?_⟩
  · rcases vi_succ.1 hv with hv | hv
    · exact h.none_ hf y hy hv
    · exact hno y hy hv
  · rcases vi_succ.1 hv with hv | hv
    · exact (h.some_ x hf).2 y hy hv
    · exact absurd hv (hno y hy)
  · rcases vi_succ.1 hv with hv | hv
    · exact h.far y hy hv
    · exact absurd hv (hno y hy)
/-- the first one of the slot is due in this turn: it is the first one -/
theorem Nx.found {T : List Tm} {start : Int} {n : Nat} {f : Option Tm} (h : Nx T start n f) (hT : Srt T) (hn : n < 64) (h0 : ∀ y ∈ T, start ≤ y.t / 256) {x : Tm} {R : List Tm} (he : T.filter (slotB ((start + n) % 64)) = x :: R) (hx : x.t / 256 = start + n) :
    ∃ R', T = x :: R' := by
  have hxT : x ∈ T := (List.mem_filter.1 (by rw [he]; exact List.mem_cons_self)).1
  have hmin : ∀ y ∈ T, y = x ∨ ltB x y = true := by
    intro y hy
    obtain ⟨j, hj, hjy⟩ : ∃ j : Nat, j < 64 ∧ y.t / 256 % 64 = (start + j) % 64 := ⟨((y.t / 256 - start) % 64).toNat, by omega, by omega⟩
    have h0y := h0 y hy
    by_cases c : j < n
    · have := h.far y hy ⟨j, c, hjy⟩
      refine .inr ((lt_iff _ _).2 (.inl ?_))
      omega
    · by_cases c2 : j = n
      · subst c2
        exact head_min (hT.filter _) he y (List.mem_filter.2 ⟨hy, slot_iff.2 hjy⟩)
      · refine .inr ((lt_iff _ _).2 (.inl ?_))
        omega
  cases T with
  | nil => cases hxT
  | cons z R' =>
    rcases List.mem_cons.1 hxT with rfl | hz
    · exact ⟨R', rfl⟩
    · have h1 := (List.pairwise_cons.1 hT).1 x hz
      rcases hmin z List.mem_cons_self with rfl | h2
      · exact ⟨R', rfl⟩
      · rw [lt_asymm h1] at h2; cases h2
/-- it is not -/
theorem Nx.later {T : List Tm} {start : Int} {n : Nat} {f : Option Tm} (h : Nx T start n f) (hT : Srt T) (hn : n < 64) (h0 : ∀ y ∈ T, start ≤ y.t / 256) {x : Tm} {R : List Tm} (he : T.filter (slotB ((start + n) % 64)) = x :: R) (hx : x.t / 256 ≠ start + n) :
    Nx T start (n + 1) (match f with | none => some x | some z => if cmpT x z < 0 then some x else some z) := by
  have hxm := List.mem_filter.1 (show x ∈ T.filter (slotB ((start + n) % 64)) by rw [he]; exact List.mem_cons_self)
  have hxT : x ∈ T := hxm.1
  have hxs := slot_iff.1 hxm.2
  have hx0 := h0 x hxT
  have hfar : start + 64 ≤ x.t / 256 := by omega
  have hs : ∀ y ∈ T, y.t / 256 % 64 = (start + n) % 64 → y = x ∨ ltB x y = true := fun y hy hv => head_min (hT.filter _) he y (List.mem_filter.2 ⟨hy, slot_iff.2 hv⟩)
  refine ⟨?_, ?_, fun y hy hv => ?_⟩
  · intro hf
    cases f with
    | none => cases hf
    | some z =>
      dsimp only at hf
      split at hf <;> cases hf
  · intro u hu
    cases f with
    | none =>
      dsimp only at hu
      injection hu with hu
      subst hu
      refine ⟨hxT, fun y hy hv => ?_⟩
      rcases vi_succ.1 hv with hv | hv
      · exact absurd hv (h.none_ rfl y hy)
      · exact hs y hy hv
    | some z =>
      dsimp only at hu
      have hz := h.some_ z rfl
      by_cases c : cmpT x z < 0
      · rw [if_pos c] at hu
        injection hu with hu
        subst hu
        have hxz := (cmp_lt x z).1 c
        refine ⟨hxT, fun y hy hv => ?_⟩
        rcases vi_succ.1 hv with hv | hv
        · rcases hz.2 y hy hv with rfl | h2
          · exact .inr hxz
          · exact .inr (lt_trans hxz h2)
        · exact hs y hy hv
      · rw [if_neg c] at hu
        injection hu with hu
        subst hu
        have hxz : ltB x z = false := Bool.eq_false_iff.2 fun e => c ((cmp_lt x z).2 e)
        refine ⟨hz.1, fun y hy hv => ?_⟩
        rcases vi_succ.1 hv with hv | hv
        · exact hz.2 y hy hv
        · have hzx : x = z ∨ ltB z x = true := by
            by_cases e : x = z
            · exact .inl e
            · exact .inr (lt_total hxz e)
          rcases hs y hy hv with rfl | h2
          · exact hzx
          · rcases hzx with rfl | h3
            · exact .inr h2
            · exact .inr (lt_trans h3 h2)
  · rcases vi_succ.1 hv with hv | hv
    · exact h.far y hy hv
    · have := t_le (hs y hy hv)
      omega
theorem Nx.done {T : List Tm} {start : Int} {f : Option Tm} (h : Nx T start 64 f) (hT : Srt T) : T.head? = f := by
  have hall : ∀ y : Tm, Vi start 64 y := fun y => ⟨((y.t / 256 - start) % 64).toNat, by omega, by omega⟩
  cases T with
  | nil =>
    cases f with
    | none => rfl
    | some x => cases (h.some_ x rfl).1
  | cons z R =>
    cases f with
    | none => exact absurd (hall z) (h.none_ rfl z List.mem_cons_self)
    | some x =>
      obtain ⟨h1, h2⟩ := h.some_ x rfl
      rcases List.mem_cons.1 h1 with rfl | h3
      · rfl
      · have h4 := (List.pairwise_cons.1 hT).1 x h3
        rcases h2 z List.mem_cons_self (hall z) with rfl | h5
        · rfl
        · rw [lt_asymm h4] at h5; cases h5
end Wh
end Go.Proofs.Ytgbahkkccpcadaa
