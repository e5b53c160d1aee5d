/- Regions whose order Go leaves open: operations of which each gives a value of which something is known that stays known, calls and new blocks in whatever order, are carried out as one; what comes behind them goes on by hand. Nothing of the program. -/
import Derived.Test.YtdhjgenijieeaaaKit
namespace Go.Proofs.Ytdhjgenijieeaaa
namespace Float
open Go.RowKit Mem Quiet

def dstOf (ops : Array Oper) (i : Nat) : Option Tmp := (ops[i]?).bind (·.dst)
/-- the values of some operations, laid one behind the other -/
def lay (ops : Array Oper) (ν : Nat → Value) : List Nat → Act → Act
  | [], a => a
  | i :: r, a => lay ops ν r (a.put (dstOf ops i) (ν i))
def setAll : List Nat → Array Bool → Array Bool
  | [], d => d
  | i :: r, d => setAll r (d.setIfInBounds i true)
def blk : Value → Option Nat
  | .pointer (some p) => some p.block
  | .slice (some p) _ _ => some p.block
  | _ => none
def waits (o : Oper) (j : Nat) : Bool := o.after.any fun e => Region.binds .any e && e.on == j
def plain (o : Oper) : Bool := o.guard.isNone && (match o.op with | .select .. => false | _ => true)
def okPair (ops : Array Oper) (o : Oper) (i j : Nat) : Bool :=
  match dstOf ops j with
  | none => true
  | some d => if i == j then !(o.looksAt ops).contains d else (!(o.looksAt ops).contains d || waits o j) && o.dst != some d
def partB (ops : Array Oper) (all : List Nat) (done : Array Bool) : Bool :=
  all.all fun i => match ops[i]? with
    | none => false
    | some o => plain o && (all.all fun j => okPair ops o i j) && o.after.all fun e => !Region.binds .any e || decide (e.on < i) && (all.contains e.on || done.getD e.on false)
def reach (ops : Array Oper) (i : Nat) : Nat → Nat → Bool
  | 0, _ => false
  | n + 1, k => match ops[k]? with
    | none => false
    | some o => o.after.any fun e => Region.binds .any e && (e.on == i || reach ops i n e.on)
/-- what is neither of the list nor done waits for all of the list -/
def restB (ops : Array Oper) (all late : List Nat) (done : Array Bool) : Bool :=
  (List.range ops.size).all fun k => all.contains k || done.getD k true || all.all fun i => late.contains i || reach ops i ops.size k
/-- what is done waited for nothing that is not -/
def shutB (ops : Array Oper) (done : Array Bool) : Bool :=
  (List.range ops.size).all fun k => !(done.getD k false) || (match ops[k]? with
    | none => true
    | some o => o.after.all fun e => !Region.binds .any e || done.getD e.on false)
def freshB (all : List Nat) (done : Array Bool) : Bool := all.all fun i => !done.getD i true

section
variable {ops : Array Oper}

theorem part_of {all : List Nat} {done : Array Bool} (h : partB ops all done = true) {i : Nat} (hi : i ∈ all) : ∃ o, ops[i]? = some o ∧ plain o = true ∧ (∀ j ∈ all, okPair ops o i j = true) ∧ ∀ e ∈ o.after, Region.binds .any e = true → e.on < i ∧ (e.on ∈ all ∨ done.getD e.on false = true) := by
  have h1 := List.all_eq_true.1 h i hi
  cases ho : ops[i]? with
  | none => simp [ho] at h1
  | some o =>
    simp only [ho, Bool.and_eq_true, List.all_eq_true, Array.all_eq_true_iff_forall_mem] at h1
    refine ⟨o, rfl, h1.1.1, h1.1.2, fun e he hb => ?_⟩
    have h2 := h1.2 e he
    simpa [hb] using h2
theorem plain_wanted {o : Oper} (h : plain o = true) (y : Nat → Option Bool) : Region.wanted o y = true := by
  simp only [plain, Bool.and_eq_true, Option.isNone_iff_eq_none] at h
  simp [Region.wanted, h.1]
theorem plain_select {o : Oper} (h : plain o = true) (cs : Array SelectCase) (b : Bool) : o.op ≠ .select cs b := by
  intro e
  simp [plain, e] at h

theorem lay_erase (ν : Nat → Value) {i : Nat} : ∀ (pend : List Nat) (a : Act), i ∈ pend → (∀ j ∈ pend, j ≠ i → ∀ d, dstOf ops j = some d → dstOf ops i ≠ some d) → lay ops ν pend a = lay ops ν (pend.erase i) (a.put (dstOf ops i) (ν i))
  | [], _, h, _ => by cases h
  | j :: r, a, h, hd => by
    by_cases e : j = i
    · subst e
      rw [List.erase_cons_head]
      rfl
    · rw [List.erase_cons_tail (by simpa using e)]
      have hr : i ∈ r := by
        cases h with
        | head => exact absurd rfl e
        | tail _ h => exact h
      show lay ops ν r (a.put (dstOf ops j) (ν j)) = lay ops ν (r.erase i) ((a.put (dstOf ops i) (ν i)).put (dstOf ops j) (ν j))
      rw [lay_erase ν r _ hr (fun k hk => hd k (List.mem_cons_of_mem _ hk))]
      congr 1
      exact Act.put_comm a (ν j) (ν i) (fun d h1 h2 => hd j List.mem_cons_self e d h1 h2)

theorem lay_exec (ν : Nat → Value) (o : Oper) (hs : ∀ cs b, o.op ≠ .select cs b) : ∀ (pend : List Nat) (a : Act), (∀ j ∈ pend, ∀ d, dstOf ops j = some d → d ∉ o.looksAt ops) → execOp (lay ops ν pend a).eval o = execOp a.eval o
  | [], _, _ => rfl
  | j :: r, a, h => by
    show execOp (lay ops ν r (a.put (dstOf ops j) (ν j))).eval o = _
    rw [lay_exec ν o hs r _ (fun k hk => h k (List.mem_cons_of_mem _ hk))]
    exact execOp_put o hs a _ _ (h j List.mem_cons_self)

theorem lay_congr {ν μ : Nat → Value} : ∀ {l : List Nat}, (∀ i ∈ l, ν i = μ i) → ∀ a, lay ops ν l a = lay ops μ l a
  | [], _, _ => rfl
  | j :: r, h, a => by
    show lay ops ν r (a.put (dstOf ops j) (ν j)) = lay ops μ r (a.put (dstOf ops j) (μ j))
    rw [h j List.mem_cons_self]
    exact lay_congr (fun i hi => h i (List.mem_cons_of_mem _ hi)) _
theorem setAll_comm (i : Nat) : ∀ (r : List Nat) (d : Array Bool), setAll r (d.setIfInBounds i true) = (setAll r d).setIfInBounds i true
  | [], _ => rfl
  | j :: r, d => by
    show setAll r ((d.setIfInBounds i true).setIfInBounds j true) = (setAll r (d.setIfInBounds j true)).setIfInBounds i true
    rw [← setAll_comm i r]
    by_cases e : i = j
    · rw [e]
    · rw [Array.setIfInBounds_comm _ _ e]
theorem setAll_erase {i : Nat} : ∀ (pend : List Nat) (d : Array Bool), i ∈ pend → setAll pend d = setAll (pend.erase i) (d.setIfInBounds i true)
  | [], _, h => by cases h
  | j :: r, d, h => by
    by_cases e : j = i
    · subst e
      rw [List.erase_cons_head]
      rfl
    · rw [List.erase_cons_tail (by simpa using e)]
      have hr : i ∈ r := by
        cases h with
        | head => exact absurd rfl e
        | tail _ h => exact h
      show setAll r (d.setIfInBounds j true) = setAll (r.erase i) ((d.setIfInBounds i true).setIfInBounds j true)
      rw [setAll_erase r _ hr, Array.setIfInBounds_comm _ _ e]

theorem getD_true (d : Array Bool) (i k : Nat) : (d.setIfInBounds i true).getD k true = false ↔ d.getD k true = false ∧ k ≠ i := by
  simp only [Array.getD_eq_getD_getElem?, Array.getElem?_setIfInBounds]
  by_cases e : i = k
  · subst e
    by_cases l : i < d.size
    · simp [l]
    · simp [l]
  · simp [e, Ne.symm e]
theorem getD_false (d : Array Bool) (i k : Nat) : (d.setIfInBounds i true).getD k false = true ↔ d.getD k false = true ∨ (k = i ∧ i < d.size) := by
  simp only [Array.getD_eq_getD_getElem?, Array.getElem?_setIfInBounds]
  by_cases e : i = k
  · subst e
    by_cases l : i < d.size
    · simp [l]
    · simp [l]
  · simp [e, Ne.symm e]
theorem getD_both (d : Array Bool) (k : Nat) (h : d.getD k false = true) : d.getD k true = true := by
  simp only [Array.getD_eq_getD_getElem?] at *
  cases e : d[k]? with
  | none => simp [e] at h
  | some b => simpa [e] using h
theorem getD_in (d : Array Bool) (k : Nat) (h : d.getD k true = false) : k < d.size := by
  simp only [Array.getD_eq_getD_getElem?] at h
  rcases Nat.lt_or_ge k d.size with l | l
  · exact l
  · simp [Array.getElem?_eq_none l] at h

/-- what is listed waited for nothing that is not -/
def Shut' (ops : Array Oper) (listed : Array Bool) : Prop := ∀ k o, ops[k]? = some o → listed.getD k false = true → ∀ e ∈ o.after, Region.binds .any e = true → listed.getD e.on false = true
theorem shut_of {done : Array Bool} (h : shutB ops done = true) : Shut' ops done := by
  intro k o ho hk e he hb
  have h1 := List.all_eq_true.1 h k (List.mem_range.2 (Array.getElem?_eq_some_iff.1 ho).1)
  simp only [hk, ho, Bool.not_true, Bool.false_or, Array.all_eq_true_iff_forall_mem] at h1
  have h2 := h1 e he
  simpa [hb] using h2
theorem reach_listed {listed : Array Bool} (hs : Shut' ops listed) {i : Nat} : ∀ (n k : Nat) (o : Oper), ops[k]? = some o → reach ops i n k = true → (∀ e ∈ o.after, Region.binds .any e = true → listed.getD e.on false = true) → listed.getD i false = true
  | 0, _, _, _, h, _ => by cases h
  | n + 1, k, o, ho, h, hl => by
    simp only [reach, ho] at h
    obtain ⟨e, he, hb⟩ := Array.any_eq_true'.1 h
    simp only [Bool.and_eq_true, Bool.or_eq_true, beq_iff_eq] at hb
    have h1 := hl e he hb.1
    rcases hb.2 with h2 | h2
    · rw [← h2]
      exact h1
    · cases hq : ops[e.on]? with
      | none =>
        cases n with
        | zero => cases h2
        | succ n => simp [reach, hq] at h2
      | some q => exact reach_listed hs n e.on q hq h2 (hs e.on q hq h1)

variable {P : Program} {Q : Exit → Act → World → Prop} {S S2 : World → Prop}

def Post (Φ : Nat → Value → World → Prop) (new : Nat → Bool) (i : Nat) (w : World) (v : Value) (w' : World) : Prop :=
  Below w.heap.size w w' ∧ Φ i v w' ∧ (new i = true → ∀ g, blk v = some g → w.heap.size ≤ g ∧ g < w'.heap.size)
/-- one operation in a state: it gives a value, by itself or by a call -/
def Step (P : Program) (Φ : Nat → Value → World → Prop) (new : Nat → Bool) (i : Nat) (o : Oper) (a : Act) (w : World) : Prop :=
  (∃ v w1, (execOp a.eval o).run P w = .ok (.value v) w1 ∧ Post Φ new i w v w1) ∨
  (∃ f args, (execOp a.eval o).run P w = .ok (.enter f args) w ∧ Calls P f args w fun e w' => ∃ v, e = .returned v ∧ Post Φ new i w v w')

/-- what holds on the way -/
structure Inv (Φ : Nat → Value → World → Prop) (new : Nat → Bool) (ops : Array Oper) (S : World → Prop) (all : List Nat) (done : Array Bool) (fin : (Nat → Value) → Act) (pend : List Nat) (listed : Array Bool) (ν : Nat → Value) (a : Act) (w : World) : Prop where
  sub : ∀ i ∈ pend, i ∈ all
  nodup : pend.Nodup
  set : setAll pend listed = setAll all done
  un : ∀ x, listed.getD x true = false ↔ done.getD x true = false ∧ (x ∈ all → x ∈ pend)
  shut : Shut' ops listed
  old : ∀ x, done.getD x false = true → listed.getD x false = true
  lis : ∀ x ∈ all, x ∉ pend → listed.getD x false = true
  act : ∀ ν', (∀ x ∈ all, x ∉ pend → ν' x = ν x) → lay ops ν' pend a = fin ν'
  cls : S w
  facts : ∀ x ∈ all, x ∉ pend → Φ x (ν x) w
  low : ∀ x ∈ all, x ∉ pend → new x = true → ∀ g, blk (ν x) = some g → g < w.heap.size
  apart : ∀ x ∈ all, x ∉ pend → ∀ y ∈ all, y ∉ pend → x ≠ y → new x = true → new y = true → ∀ g, blk (ν x) = some g → blk (ν y) ≠ some g

theorem all_go (Φ : Nat → Value → World → Prop) (new : Nat → Bool) (V : (Nat → Value) → Prop) {all late : List Nat} {done : Array Bool} {fin : (Nat → Value) → Act} {f : Nat}
    (hV : ∀ (ν : Nat → Value) (w : World) (L : Nat → Prop), (∀ i ∈ all, L i → Φ i (ν i) w) → ∃ ν', (∀ i ∈ all, L i → ν' i = ν i) ∧ V ν')
    (hpart : partB ops all done = true) (hrest : restB ops all late done = true) (hfr : freshB all done = true)
    (hst : ∀ i ∈ all, ∀ v w w', Φ i v w → Below w.heap.size w w' → Φ i v w') (hS : ∀ w w', S w → Below w.heap.size w w' → S w') (hS2 : ∀ w, S w → S2 w)
    (hop : ∀ i ∈ all, ∀ o, ops[i]? = some o → ∀ ν w, V ν → S w → (∀ j ∈ all, waits o j = true → Φ j (ν j) w) → Step P Φ new i o (fin ν) w)
    (hend : ∀ pend listed ν a w, Inv Φ new ops S all done fin pend listed ν a w → (∀ x ∈ pend, x ∈ late) → wpAnyH P .any ops Q S2 (pend.length + f) listed a w) :
    ∀ (n : Nat) (pend : List Nat) (listed : Array Bool) (ν : Nat → Value) (a : Act) (w : World), pend.length = n → Inv Φ new ops S all done fin pend listed ν a w → wpAnyH P .any ops Q S2 (n + f) listed a w := by
  intro n
  induction n with
  | zero =>
    intro pend listed ν a w hn I
    have h := hend pend listed ν a w I (fun x hx => by
      rw [List.eq_nil_of_length_eq_zero hn] at hx
      cases hx)
    rw [hn] at h
    exact h
  | succ n ih =>
    intro pend listed ν a w hn I
    by_cases hstop : ∀ x ∈ pend, x ∈ late
    · have h := hend pend listed ν a w I hstop
      rw [hn] at h
      exact h
    obtain ⟨j0, hj0, hj0l⟩ : ∃ j ∈ pend, j ∉ late := Classical.byContradiction fun hne => hstop fun x hx => Classical.byContradiction fun hx2 => hne ⟨x, hx, hx2⟩
    -- what may come up is of those that are left
    have hready : ∀ i ∈ Region.ready .any ops listed, i ∈ pend := by
      intro i hi
      obtain ⟨hun, o, ho, hall⟩ := mem_ready.1 hi
      obtain ⟨h1, h2⟩ := (I.un i).1 hun
      apply Classical.byContradiction
      intro hne
      have hna : i ∉ all := fun h => hne (h2 h)
      have hsz := (Array.getElem?_eq_some_iff.1 ho).1
      have h3 := List.all_eq_true.1 hrest i (List.mem_range.2 hsz)
      simp only [Bool.or_eq_true, List.contains_iff_mem, hna, false_or, h1, Bool.false_eq_true, List.all_eq_true] at h3
      obtain ⟨j, hj, hjl⟩ : ∃ j, j ∈ pend ∧ j ∉ late := ⟨j0, hj0, hj0l⟩
      have h4 := reach_listed I.shut _ i o ho ((h3 j (I.sub j hj)).resolve_left hjl) hall
      have h5 := getD_both _ _ h4
      have h6 : listed.getD j true = false := (I.un j).2 ⟨by
        have := List.all_eq_true.1 hfr j (I.sub j hj)
        simpa using this, fun _ => hj⟩
      rw [h5] at h6
      cases h6
    rw [Nat.succ_add]
    constructor
    · -- something may come up
      intro hnil
      -- by the order of places: the least that is left waits only for what is listed; else nothing could ever come up
      obtain ⟨m, hm, hmin⟩ : ∃ m ∈ pend, ∀ x ∈ pend, m ≤ x := by
        cases pend with
        | nil => simp at hn
        | cons j r => exact ⟨(j :: r).min (by simp), List.min_mem _, fun x hx => List.min_le_of_mem hx⟩
      obtain ⟨o, ho, _, _, haf⟩ := part_of hpart (I.sub m hm)
      have : m ∈ Region.ready .any ops listed := mem_ready.2 ⟨(I.un m).2 ⟨by
        have := List.all_eq_true.1 hfr m (I.sub m hm)
        simpa using this, fun _ => hm⟩, o, ho, fun e he hb => by
        obtain ⟨h1, h2⟩ := haf e he hb
        rcases h2 with h2 | h2
        · exact I.lis _ h2 (fun hp => by have := hmin _ hp; omega)
        · exact I.old _ h2⟩
      rw [hnil] at this
      cases this
    · intro i hi
      have hip := hready i hi
      have hia := I.sub i hip
      obtain ⟨hun, o, ho, hall⟩ := mem_ready.1 hi
      obtain ⟨o', ho', hpl, hpair, _⟩ := part_of hpart hia
      obtain rfl : o' = o := by rw [ho] at ho'; cases ho'; rfl
      have hsel := plain_select hpl
      have hdst : dstOf ops i = o'.dst := by simp [dstOf, ho]
      have hlook : ∀ j ∈ pend, ∀ d, dstOf ops j = some d → d ∉ o'.looksAt ops := by
        intro j hj d hd hin
        have h1 := hpair j (I.sub j hj)
        simp only [okPair, hd] at h1
        by_cases e : i = j
        · subst e
          simp [hin] at h1
        · simp only [beq_iff_eq, e, if_false, Bool.and_eq_true, Bool.or_eq_true, Bool.not_eq_true'] at h1
          rcases h1.1 with h2 | h2
          · simp [hin] at h2
          · obtain ⟨e', he', hb'⟩ := Array.any_eq_true'.1 h2
            simp only [Bool.and_eq_true, beq_iff_eq] at hb'
            have h3 := hall e' he' hb'.1
            rw [hb'.2] at h3
            have h4 := getD_both _ _ h3
            have h5 : listed.getD j true = false := (I.un j).2 ⟨by
              have := List.all_eq_true.1 hfr j (I.sub j hj)
              simpa using this, fun _ => hj⟩
            rw [h4] at h5
            cases h5
      have hap : ∀ j ∈ pend, j ≠ i → ∀ d, dstOf ops j = some d → dstOf ops i ≠ some d := by
        intro j hj hne d hd
        have h1 := hpair j (I.sub j hj)
        simp only [okPair, hd, beq_iff_eq, Ne.symm hne, if_false, Bool.and_eq_true, bne_iff_ne] at h1
        rw [hdst]
        exact h1.2
      obtain ⟨μ, hμ, hVμ⟩ := hV ν w (fun x => x ∉ pend) I.facts
      have hex : execOp (fin μ).eval o' = execOp a.eval o' := by
        rw [← I.act μ hμ]
        exact lay_exec μ o' hsel pend a hlook
      have hstep := hop i hia o' ho μ w hVμ I.cls (fun j hj hw => (fun hp => by rw [hμ j hj hp]; exact I.facts j hj hp) (fun hp => by
        obtain ⟨e', he', hb'⟩ := Array.any_eq_true'.1 hw
        simp only [Bool.and_eq_true, beq_iff_eq] at hb'
        have h3 := hall e' he' hb'.1
        rw [hb'.2] at h3
        have h4 := getD_both _ _ h3
        have h5 : listed.getD j true = false := (I.un j).2 ⟨by
          have := List.all_eq_true.1 hfr j hj
          simpa using this, fun _ => hp⟩
        rw [h4] at h5
        cases h5))
      -- behind it
      have next : ∀ v w', Post Φ new i w v w' → S2 w' ∧ wpAnyH P .any ops Q S2 (n + f) (listed.setIfInBounds i true) (a.put o'.dst v) w' := by
        rintro v w' ⟨hb, hΦ, hnew⟩
        have hS' := hS w w' I.cls hb
        refine ⟨hS2 _ hS', ih (pend.erase i) (listed.setIfInBounds i true) (fun x => if x = i then v else ν x) (a.put o'.dst v) w' ?_ ?_⟩
        · rw [List.length_erase_of_mem hip, hn]
          rfl
        have hmem : ∀ x, x ∉ pend.erase i → x ∉ pend ∨ x = i := by
          intro x hx
          by_cases e : x = i
          · exact .inr e
          · left
            intro h
            exact hx ((List.mem_erase_of_ne e).2 h)
        refine ⟨?_, I.nodup.erase i, ?_, ?_, ?_, ?_, ?_, ?_, hS', ?_, ?_, ?_⟩
        · exact fun x hx => I.sub x (List.mem_of_mem_erase hx)
        · rw [← setAll_erase pend listed hip]
          exact I.set
        · intro x
          rw [getD_true, I.un]
          constructor
          · rintro ⟨⟨h1, h2⟩, h3⟩
            exact ⟨h1, fun h => (List.mem_erase_of_ne h3).2 (h2 h)⟩
          · rintro ⟨h1, h2⟩
            refine ⟨⟨h1, fun h => List.mem_of_mem_erase (h2 h)⟩, fun e => ?_⟩
            subst e
            exact (I.nodup.not_mem_erase) (h2 hia)
        · intro k q hq hk e he hb'
          rw [getD_false] at hk ⊢
          rcases hk with hk | ⟨hk, _⟩
          · exact .inl (I.shut k q hq hk e he hb')
          · subst hk
            rw [ho] at hq
            cases hq
            exact .inl (hall e he hb')
        · exact fun x hx => (getD_false _ _ _).2 (.inl (I.old x hx))
        · intro x hx hp
          rw [getD_false]
          rcases hmem x hp with h | h
          · exact .inl (I.lis x hx h)
          · exact .inr ⟨h, getD_in _ _ hun⟩
        · intro ν' hν'
          have hv : ν' i = v := by
            have := hν' i hia (I.nodup.not_mem_erase)
            simpa using this
          have h1 := I.act ν' (fun x hx hp => by
            have h2 := hν' x hx (fun h => hp (List.mem_of_mem_erase h))
            have h3 : x ≠ i := fun e => hp (e ▸ hip)
            simpa [h3] using h2)
          rw [lay_erase ν' pend a hip hap, hv, hdst] at h1
          exact h1
        · intro x hx hp
          rcases hmem x hp with h | h
          · have h3 : x ≠ i := fun e => h (e ▸ hip)
            simp only [h3, if_false]
            exact hst x hx _ _ _ (I.facts x hx h) hb
          · subst h
            simpa using hΦ
        · intro x hx hp hn' g hg
          rcases hmem x hp with h | h
          · have h3 : x ≠ i := fun e => h (e ▸ hip)
            simp only [h3, if_false] at hg
            have := I.low x hx h hn' g hg
            have := hb.size
            omega
          · subst h
            simp only [if_true] at hg
            exact (hnew hn' g hg).2
        · intro x hx hpx y hy hpy hne nx ny g hgx hgy
          rcases hmem x hpx with h1 | h1
          · have h3 : x ≠ i := fun e => h1 (e ▸ hip)
            simp only [h3, if_false] at hgx
            rcases hmem y hpy with h2 | h2
            · have h4 : y ≠ i := fun e => h2 (e ▸ hip)
              simp only [h4, if_false] at hgy
              exact I.apart x hx h1 y hy h2 hne nx ny g hgx hgy
            · subst h2
              simp only [if_true] at hgy
              have := I.low x hx h1 nx g hgx
              have := (hnew ny g hgy).1
              omega
          · subst h1
            simp only [if_true] at hgx
            have hyi : y ≠ x := Ne.symm hne
            rcases hmem y hpy with h2 | h2
            · simp only [hyi, if_false] at hgy
              have := I.low y hy h2 ny g hgy
              have := (hnew nx g hgx).1
              omega
            · exact hyi h2
      simp only [wpOp, ho, plain_wanted hpl, if_true]
      refine .inl ?_
      unfold Oper.wp
      rcases hstep with ⟨v, w1, hr, hp⟩ | ⟨fn, args, hr, hc⟩
      · rw [hex] at hr
        rw [hr]
        exact next v w1 hp
      · rw [hex] at hr
        rw [hr]
        refine Calls.mono hc ?_
        rintro e w' ⟨v, rfl, hp⟩
        exact next v w' hp

/-- the beginning: nothing of the list has come yet; one of the list, of a value that is known, may come late -/
theorem go (all late : List Nat) (Φ : Nat → Value → World → Prop) (new : Nat → Bool) (V : (Nat → Value) → Prop) (fin : (Nat → Value) → Act) (f : Nat) {done : Array Bool} {a : Act} {w : World} {fuel : Nat} (hfuel : fuel = all.length + f)
    (hV : ∀ (ν : Nat → Value) (w : World) (L : Nat → Prop), (∀ i ∈ all, L i → Φ i (ν i) w) → ∃ ν', (∀ i ∈ all, L i → ν' i = ν i) ∧ V ν')
    (hnd : all.Nodup) (hpart : partB ops all done = true) (hrest : restB ops all late done = true) (hfr : freshB all done = true) (hsh : shutB ops done = true) (hfin : ∀ ν, lay ops ν all a = fin ν) (hcls : S w)
    (hst : ∀ i ∈ all, ∀ v w w', Φ i v w → Below w.heap.size w w' → Φ i v w') (hS : ∀ w w', S w → Below w.heap.size w w' → S w') (hS2 : ∀ w, S w → S2 w)
    (hop : ∀ i ∈ all, ∀ o, ops[i]? = some o → ∀ ν w, V ν → S w → (∀ j ∈ all, waits o j = true → Φ j (ν j) w) → Step P Φ new i o (fin ν) w)
    (hlate : ∀ p ∈ late, ∀ q ∈ late, p = q)
    (hl : ∀ p ∈ late, ∀ o, ops[p]? = some o → p ∈ all → ∃ v, (∀ w, Φ p v w) ∧ (∀ u w, Φ p u w → u = v) ∧ (∀ ν, V ν → ∀ w, (execOp (fin ν).eval o).run P w = .ok (.value v) w) ∧ Region.noSelect ops = true ∧ Region.free .any ops (setAll (all.erase p) done) p = true ∧ (Region.ready .any ops (setAll (all.erase p) done)).contains p = true ∧ new p = false ∧ ∀ c a w, Q (.panic c) (a.put o.dst v) w → Q (.panic c) a w)
    (hend : ∀ ν w, S w → (∀ i ∈ all, Φ i (ν i) w) → (∀ i ∈ all, ∀ j ∈ all, i ≠ j → new i = true → new j = true → ∀ g, blk (ν i) = some g → blk (ν j) ≠ some g) → wpAnyH P .any ops Q S2 f (setAll all done) (fin ν) w) :
    wpAnyH P .any ops Q S2 fuel done a w := by
  subst hfuel
  refine all_go Φ new V (late := late) hV hpart hrest hfr hst hS hS2 hop ?_ all.length all done (fun _ => undef) a w rfl ⟨fun _ h => h, hnd, rfl, fun x => ?_, shut_of hsh, fun _ h => h, fun x h h2 => absurd h h2, fun ν' _ => hfin ν', hcls, fun x h h2 => absurd h h2, fun x h h2 => absurd h h2, fun x h h2 => absurd h h2⟩
  · intro pend listed ν a w I hsub
    cases hp : pend with
    | nil =>
      subst hp
      have h1 := I.act ν (fun _ _ _ => rfl)
      have h2 := I.set
      simp only [lay] at h1
      simp only [setAll] at h2
      rw [List.length_nil, Nat.zero_add, h1, h2]
      exact hend ν w I.cls (fun i hi => I.facts i hi (by simp)) (fun i hi j hj => I.apart i hi (by simp) j hj (by simp))
    | cons p r =>
      have hr : r = [] := by
        cases r with
        | nil => rfl
        | cons q r' =>
          have hnd' := I.nodup
          rw [hp] at hnd'
          have e : p = q := hlate p (hsub p (by rw [hp]; simp)) q (hsub q (by rw [hp]; simp))
          subst e
          simp at hnd'
      subst hr
      subst hp
      have hpa := I.sub p List.mem_cons_self
      obtain ⟨o, ho, hpl, hpair, _⟩ := part_of hpart hpa
      have hsel := plain_select hpl
      obtain ⟨v, hv1, hv2, hv3, hv4, hv5, hv6, hv7, hv8⟩ := hl p (hsub p List.mem_cons_self) o ho hpa
      obtain ⟨μ, hμ, hVμ⟩ := hV ν w (fun x => x ∉ [p]) I.facts
      have hlook : ∀ j ∈ [p], ∀ d, dstOf ops j = some d → d ∉ o.looksAt ops := by
        intro j hj d hd hin
        obtain rfl : j = p := by simpa using hj
        have h1 := hpair j hpa
        simp only [okPair, hd] at h1
        simp [hin] at h1
      have hset : listed = setAll (all.erase p) done := by
        apply Array.ext_getElem?
        intro x
        have hu := I.un x
        have hs := I.set
        rw [setAll_erase all done hpa, setAll_comm] at hs
        simp only [setAll] at hs
        have h2 := congrArg (fun d : Array Bool => d[x]?) hs
        simp only [Array.getElem?_setIfInBounds] at h2
        by_cases e : p = x
        · subst e
          have hsz := congrArg Array.size hs
          simp only [Array.size_setIfInBounds] at hsz
          have hup : listed.getD p true = false := (I.un p).2 ⟨by
            have := List.all_eq_true.1 hfr p hpa
            simpa using this, fun _ => List.mem_cons_self⟩
          have hlt := getD_in _ _ hup
          have hr6 : p ∈ Region.ready .any ops (setAll (all.erase p) done) := by simpa using hv6
          have hup2 := (mem_ready.1 hr6).1
          simp only [Array.getD_eq_getD_getElem?] at hup hup2
          have hlt2 : p < (setAll (all.erase p) done).size := by omega
          rw [Array.getElem?_eq_getElem hlt] at hup ⊢
          rw [Array.getElem?_eq_getElem hlt2] at hup2 ⊢
          simp only [Option.getD_some] at hup hup2
          rw [hup, hup2]
        · simpa [e] using h2
      have hex : execOp (fin μ).eval o = execOp a.eval o := by
        rw [← I.act μ hμ]
        exact lay_exec μ o hsel [p] a hlook
      have hact : ∀ ν', (∀ x ∈ all, x ∉ [p] → ν' x = ν x) → a.put (dstOf ops p) (ν' p) = fin ν' := fun ν' h => I.act ν' h
      have hdst : dstOf ops p = o.dst := by simp [dstOf, ho]
      rw [show [p].length + f = f + 1 by simp [Nat.add_comm], hset]
      refine wpAnyH_take ho hv4 hv5 hv6 hv8 (.inl ⟨plain_wanted hpl _, fun w' _ => by rw [← hex]; exact hv3 μ hVμ w'⟩) (hS2 w I.cls) ?_
      have hlast : (setAll (all.erase p) done).setIfInBounds p true = setAll all done := by rw [setAll_erase all done hpa, setAll_comm]
      rw [hlast]
      have h5 := hact (fun x => if x = p then v else ν x) (fun x _ hx => by
        have : x ≠ p := by simpa using hx
        simp [this])
      simp only [if_true] at h5
      rw [hdst] at h5
      rw [h5]
      refine hend _ w I.cls ?_ ?_
      · intro i hi
        by_cases e : i = p
        · subst e
          simpa using hv1 w
        · simp only [e, if_false]
          exact I.facts i hi (by simpa using e)
      · intro i hi j hj hne ni nj g hg
        have e1 : i ≠ p := fun e => by rw [e, hv7] at ni; cases ni
        have e2 : j ≠ p := fun e => by rw [e, hv7] at nj; cases nj
        simp only [e1, e2, if_false] at hg ⊢
        exact I.apart i hi (by simpa using e1) j hj (by simpa using e2) hne ni nj g hg
  · exact ⟨fun h => ⟨h, fun h => h⟩, fun h => h.1⟩

/-! ### what comes out is a known value, or a new block with known cells -/
inductive Know where
  | is (v : Value)
  | row (T : TypeId) (zs : Array Value)
def Know.isRow : Know → Bool
  | .is _ => false
  | .row _ _ => true
def kn : List (Nat × Know) → Nat → Know
  | [], _ => .is undef
  | (k, K) :: r, i => if i = k then K else kn r i
def val (L : List (Nat × Know)) (γ : Nat → Nat) (i : Nat) : Value :=
  match kn L i with
  | .is v => v
  | .row _ _ => .pointer (some ⟨γ i, 0, none⟩)
def holds (B : Nat) : Know → Value → World → Prop
  | .is u, v, _ => v = u
  | .row T zs, v, w => ∃ g, v = .pointer (some ⟨g, 0, none⟩) ∧ B ≤ g ∧ Whole w g T zs
def Does (P : Program) (W : World) (o : Oper) (a : Act) : Know → Prop
  | .is v => ∀ w, Below W.heap.size W w → (∃ f args, (execOp a.eval o).run P w = .ok (.enter f args) w ∧ Calls P f args w fun e w' => e = .returned v ∧ Below w.heap.size w w') ∨ (execOp a.eval o).run P w = .ok (.value v) w
  | .row T zs => ∀ w, (execOp a.eval o).run P w = .ok (.value (.pointer (some ⟨w.heap.size, 0, none⟩))) (w.alloc (.cells zs T))
def OpsOk (P : Program) (W : World) (ops : Array Oper) (a : Act) : List (Nat × Know) → Prop
  | [] => True
  | (k, K) :: r => (∀ o, ops[k]? = some o → Does P W o a K) ∧ OpsOk P W ops a r
def RowsOk (B : Nat) (γ : Nat → Nat) (w : World) : List (Nat × Know) → Prop
  | [] => True
  | (_, .is _) :: r => RowsOk B γ w r
  | (k, .row T zs) :: r => (B ≤ γ k ∧ Whole w (γ k) T zs) ∧ RowsOk B γ w r
theorem ops_of {W : World} {a : Act} : ∀ {L : List (Nat × Know)}, OpsOk P W ops a L → ∀ {i : Nat}, i ∈ L.map (·.1) → ∀ o, ops[i]? = some o → Does P W o a (kn L i)
  | [], _, _, h, _, _ => by cases h
  | (k, K) :: r, h, i, hi, o, ho => by
    by_cases e : i = k
    · subst e
      simp only [kn, if_true]
      exact h.1 o ho
    · simp only [kn, e, if_false]
      refine ops_of h.2 ?_ o ho
      simpa [e] using hi
theorem rows_of {B : Nat} {γ : Nat → Nat} {w : World} : ∀ {L : List (Nat × Know)}, (∀ p ∈ L, holds B p.2 (match p.2 with | .is v => v | .row _ _ => .pointer (some ⟨γ p.1, 0, none⟩)) w) → RowsOk B γ w L
  | [], _ => trivial
  | (k, .is v) :: r, h => rows_of (L := r) fun p hp => h p (List.mem_cons_of_mem _ hp)
  | (k, .row T zs) :: r, h => by
    obtain ⟨g, hg, h1, h2⟩ := h (k, .row T zs) List.mem_cons_self
    cases hg
    exact ⟨⟨h1, h2⟩, rows_of (L := r) fun p hp => h p (List.mem_cons_of_mem _ hp)⟩
theorem kn_of : ∀ {L : List (Nat × Know)}, (L.map (·.1)).Nodup → ∀ {p : Nat × Know}, p ∈ L → kn L p.1 = p.2
  | [], _, _, h => by cases h
  | (k, K) :: r, hn, p, hp => by
    simp only [List.map_cons, List.nodup_cons] at hn
    cases hp with
    | head => simp [kn]
    | tail _ hp =>
      have : p.1 ≠ k := fun e => hn.1 (e ▸ List.mem_map_of_mem hp)
      simp only [kn, this, if_false]
      exact kn_of hn.2 hp

/-- calls and new blocks in whatever order -/
theorem rows (L : List (Nat × Know)) (late : List Nat) (fin : (Nat → Nat) → Act) (f : Nat) {W : World} {done : Array Bool} {a : Act} {w : World} {fuel : Nat} (hfuel : fuel = L.length + f)
    (hnd : decide (L.map (·.1)).Nodup = true) (hpart : partB ops (L.map (·.1)) done = true) (hrest : restB ops (L.map (·.1)) late done = true) (hfr : freshB (L.map (·.1)) done = true) (hsh : shutB ops done = true)
    (hfin : ∀ γ, lay ops (val L γ) (L.map (·.1)) a = fin γ) (hcls : Below W.heap.size W w) (hS2 : ∀ w, Below W.heap.size W w → S2 w)
    (hop : ∀ γ, OpsOk P W ops (fin γ) L)
    (hlate : ∀ p ∈ late, ∀ q ∈ late, p = q)
    (hl : ∀ p ∈ late, ∀ o, ops[p]? = some o → ∃ v, kn L p = .is v ∧ (∀ γ w, (execOp (fin γ).eval o).run P w = .ok (.value v) w) ∧ Region.noSelect ops = true ∧ Region.free .any ops (setAll ((L.map (·.1)).erase p) done) p = true ∧ (Region.ready .any ops (setAll ((L.map (·.1)).erase p) done)).contains p = true ∧ ∀ c a w, Q (.panic c) (a.put o.dst v) w → Q (.panic c) a w)
    (hend : ∀ γ w, Below W.heap.size W w → RowsOk W.heap.size γ w L → (∀ i j, i ∈ L.map (·.1) → j ∈ L.map (·.1) → i ≠ j → (kn L i).isRow = true → (kn L j).isRow = true → γ i ≠ γ j) → wpAnyH P .any ops Q S2 f (setAll (L.map (·.1)) done) (fin γ) w) :
    wpAnyH P .any ops Q S2 fuel done a w := by
  have hnd' := of_decide_eq_true hnd
  refine go (L.map (·.1)) late (fun i v w => holds W.heap.size (kn L i) v w) (fun i => (kn L i).isRow) (fun ν => ∃ γ, ν = val L γ) (fun ν => lay ops ν (L.map (·.1)) a) f (by rw [hfuel, List.length_map]) ?_ hnd' hpart hrest hfr hsh (fun _ => rfl) hcls ?_ (fun w w' h hb => below_trans h hb) hS2 ?_ hlate ?_ ?_
  · intro ν w M h
    refine ⟨val L (fun i => match ν i with | .pointer (some p) => p.block | _ => 0), ?_, _, rfl⟩
    intro i hi hM
    have h1 := h i hi hM
    unfold val
    cases e : kn L i with
    | is u =>
      rw [e] at h1
      exact h1.symm
    | row T zs =>
      rw [e] at h1
      obtain ⟨g, hg, _⟩ := h1
      simp only [hg]
  · intro i _ v w w' h hb
    cases e : kn L i with
    | is u =>
      simp only [e] at h ⊢
      exact h
    | row T zs =>
      simp only [e] at h ⊢
      obtain ⟨g, hg, h1, h2⟩ := h
      exact ⟨g, hg, h1, h2.below hb h2.lt⟩
  · rintro i hi o ho ν w ⟨γ, rfl⟩ hS _
    have h := ops_of (hop γ) hi o ho
    rw [← hfin γ] at h
    cases e : kn L i with
    | is u =>
      rw [e] at h
      rcases h w hS with ⟨f, args, hr, hc⟩ | hr
      · refine .inr ⟨f, args, hr, hc.mono ?_⟩
        rintro x w' ⟨rfl, hb⟩
        refine ⟨u, rfl, hb, by simp only [e]; rfl, fun hn => ?_⟩
        simp [e, Know.isRow] at hn
      · refine .inl ⟨u, w, hr, Below.refl _ _, by simp only [e]; rfl, fun hn => ?_⟩
        simp [e, Know.isRow] at hn
    | row T zs =>
      rw [e] at h
      refine .inl ⟨_, _, h w, below_alloc (Below.refl _ _) _, ?_, fun _ g hg => ?_⟩
      · simp only [e]
        exact ⟨_, rfl, hS.size, Whole.new _ _ _⟩
      · simp only [blk, Option.some.injEq] at hg
        subst hg
        exact ⟨Nat.le_refl _, (Whole.new w T zs).lt⟩
  · intro p hp o ho _
    obtain ⟨v, h1, h2, h3, h4, h5, h6⟩ := hl p hp o ho
    refine ⟨v, fun w => ?_, fun u w hu => ?_, ?_, h3, h4, h5, ?_, h6⟩
    · simp only [h1]
      rfl
    · simp only [h1] at hu
      exact hu
    · rintro ν ⟨γ, rfl⟩ w
      rw [hfin γ]
      exact h2 γ w
    · simp only [h1]
      rfl
  · intro ν w hS hall hap
    obtain ⟨γ, hγ⟩ : ∃ γ, ∀ i ∈ L.map (·.1), ν i = val L γ i := by
      refine ⟨fun i => match ν i with | .pointer (some p) => p.block | _ => 0, fun i hi => ?_⟩
      have h1 := hall i hi
      unfold val
      cases e : kn L i with
      | is u =>
        simp only [e] at h1
        exact h1
      | row T zs =>
        simp only [e] at h1
        obtain ⟨g, hg, _⟩ := h1
        simp only [hg]
    have hlay : lay ops ν (L.map (·.1)) a = fin γ := by
      rw [← hfin γ]
      exact lay_congr hγ a
    rw [hlay]
    refine hend γ w hS (rows_of fun p hp => ?_) ?_
    · have hm : p.1 ∈ L.map (·.1) := List.mem_map_of_mem hp
      have h1 := hall p.1 hm
      rw [hγ p.1 hm, kn_of hnd' hp] at h1
      unfold val at h1
      rw [kn_of hnd' hp] at h1
      exact h1
    · intro i j hi hj hne ri rj he
      have h1 := hap i hi j hj hne ri rj (γ i)
      rw [hγ i hi, hγ j hj] at h1
      unfold val at h1
      cases ei : kn L i with
      | is u => simp [ei, Know.isRow] at ri
      | row T zs =>
        cases ej : kn L j with
        | is u => simp [ej, Know.isRow] at rj
        | row T' zs' =>
          rw [ei, ej] at h1
          exact h1 rfl (by rw [he]; rfl)

/-- the values laid where they belong -/
def puts (γ : Nat → Nat) : List (Nat × Tmp × Know) → Act → Act
  | [], a => a
  | (_, d, .is v) :: r, a => puts γ r (a.put (some d) v)
  | (k, d, .row _ _) :: r, a => puts γ r (a.put (some d) (.pointer (some ⟨γ k, 0, none⟩)))
def both (L : List (Nat × Tmp × Know)) : List (Nat × Know) := L.map fun p => (p.1, p.2.2)
def OpsAt (P : Program) (W : World) (l : List Oper) (a : Act) : List (Nat × Tmp × Know) → Prop
  | [] => True
  | (k, _, K) :: r => (∃ o rest, l.drop k = o :: rest ∧ Does P W o a K) ∧ OpsAt P W l a r
def RowsAt (B : Nat) (γ : Nat → Nat) (w : World) : List (Nat × Tmp × Know) → Prop
  | [] => True
  | (_, _, .is _) :: r => RowsAt B γ w r
  | (k, _, .row T zs) :: r => (B ≤ γ k ∧ Whole w (γ k) T zs) ∧ RowsAt B γ w r
theorem opsAt {P : Program} {W : World} {l : List Oper} {a : Act} : ∀ {L : List (Nat × Tmp × Know)}, OpsAt P W l a L → OpsOk P W l.toArray a (both L)
  | [], _ => trivial
  | (k, d, K) :: r, ⟨⟨o, rest, ho, h⟩, hr⟩ => ⟨fun o' ho' => by
      rw [drop_get ho] at ho'
      cases ho'
      exact h, opsAt (L := r) hr⟩
theorem rowsAt {B : Nat} {γ : Nat → Nat} {w : World} : ∀ {L : List (Nat × Tmp × Know)}, RowsOk B γ w (both L) → RowsAt B γ w L
  | [], _ => trivial
  | (_, _, .is _) :: r, h => rowsAt (L := r) h
  | (_, _, .row _ _) :: r, h => ⟨h.1, rowsAt (L := r) h.2⟩
theorem float_late {l : List Oper} (L : List (Nat × Tmp × Know)) (all late : List Nat) (f : Nat) {W : World} {done : Array Bool} {a : Act} {w : World} {fuel : Nat} (hall : L.map (·.1) = all) (hfuel : fuel = all.length + f)
    (hnd : decide all.Nodup = true) (hpart : partB l.toArray all done = true) (hrest : restB l.toArray all late done = true) (hfr : freshB all done = true) (hsh : shutB l.toArray done = true)
    (hfin : ∀ γ, lay l.toArray (val (both L) γ) all a = puts γ L a) (hcls : Below W.heap.size W w) (hS2 : ∀ w, Below W.heap.size W w → S2 w)
    (hop : ∀ γ, OpsAt P W l (puts γ L a) L)
    (hlate : ∀ p ∈ late, ∀ q ∈ late, p = q)
    (hl : ∀ p ∈ late, ∀ o, l.toArray[p]? = some o → ∃ v, kn (both L) p = .is v ∧ (∀ γ w, (execOp (puts γ L a).eval o).run P w = .ok (.value v) w) ∧ Region.noSelect l.toArray = true ∧ Region.free .any l.toArray (setAll (all.erase p) done) p = true ∧ (Region.ready .any l.toArray (setAll (all.erase p) done)).contains p = true ∧ ∀ c a w, Q (.panic c) (a.put o.dst v) w → Q (.panic c) a w)
    (hend : ∀ γ w, Below W.heap.size W w → RowsAt W.heap.size γ w L → (∀ i j, (kn (both L) i).isRow = true → (kn (both L) j).isRow = true → i ∈ all → j ∈ all → i ≠ j → γ i ≠ γ j) → wpAnyH P .any l.toArray Q S2 f (setAll all done) (puts γ L a) w) :
    wpAnyH P .any l.toArray Q S2 fuel done a w := by
  have e : (both L).map (·.1) = all := by
    rw [← hall]
    unfold both
    rw [List.map_map]
    rfl
  subst e
  refine rows (both L) late (fun γ => puts γ L a) f (by rw [hfuel, List.length_map]) hnd hpart hrest hfr hsh hfin hcls hS2 (fun γ => opsAt (hop γ)) hlate hl ?_
  intro γ w hS hr hne
  exact hend γ w hS (rowsAt hr) (fun i j ri rj hi hj hij => hne i j hi hj hij ri rj)
theorem float {l : List Oper} (L : List (Nat × Tmp × Know)) (all : List Nat) (f : Nat) {W : World} {done : Array Bool} {a : Act} {w : World} {fuel : Nat} (hall : L.map (·.1) = all) (hfuel : fuel = all.length + f)
    (hnd : decide all.Nodup = true) (hpart : partB l.toArray all done = true) (hrest : restB l.toArray all [] done = true) (hfr : freshB all done = true) (hsh : shutB l.toArray done = true)
    (hfin : ∀ γ, lay l.toArray (val (both L) γ) all a = puts γ L a) (hcls : Below W.heap.size W w) (hS2 : ∀ w, Below W.heap.size W w → S2 w)
    (hop : ∀ γ, OpsAt P W l (puts γ L a) L)
    (hend : ∀ γ w, Below W.heap.size W w → RowsAt W.heap.size γ w L → (∀ i j, (kn (both L) i).isRow = true → (kn (both L) j).isRow = true → i ∈ all → j ∈ all → i ≠ j → γ i ≠ γ j) → wpAnyH P .any l.toArray Q S2 f (setAll all done) (puts γ L a) w) :
    wpAnyH P .any l.toArray Q S2 fuel done a w :=
  float_late L all [] f hall hfuel hnd hpart hrest hfr hsh hfin hcls hS2 hop (fun _ h => by cases h) (fun _ h => by cases h) hend
theorem float_one {l : List Oper} (L : List (Nat × Tmp × Know)) (all : List Nat) (p : Nat) (f : Nat) {W : World} {done : Array Bool} {a : Act} {w : World} {fuel : Nat} (hall : L.map (·.1) = all) (hfuel : fuel = all.length + f)
    (hnd : decide all.Nodup = true) (hpart : partB l.toArray all done = true) (hrest : restB l.toArray all [p] done = true) (hfr : freshB all done = true) (hsh : shutB l.toArray done = true)
    (hfin : ∀ γ, lay l.toArray (val (both L) γ) all a = puts γ L a) {o : Oper} {rest : List Oper} (ho : l.drop p = o :: rest) (v : Value) (hv : kn (both L) p = .is v) (hs : Region.noSelect l.toArray = true) (hf : Region.free .any l.toArray (setAll (all.erase p) done) p = true) (hr : (Region.ready .any l.toArray (setAll (all.erase p) done)).contains p = true)
    (hQ : ∀ c a w, Q (.panic c) (a.put o.dst v) w → Q (.panic c) a w) (hcls : Below W.heap.size W w) (hS2 : ∀ w, Below W.heap.size W w → S2 w)
    (hrun : ∀ γ w, (execOp (puts γ L a).eval o).run P w = .ok (.value v) w)
    (hop : ∀ γ, OpsAt P W l (puts γ L a) L)
    (hend : ∀ γ w, Below W.heap.size W w → RowsAt W.heap.size γ w L → (∀ i j, (kn (both L) i).isRow = true → (kn (both L) j).isRow = true → i ∈ all → j ∈ all → i ≠ j → γ i ≠ γ j) → wpAnyH P .any l.toArray Q S2 f (setAll all done) (puts γ L a) w) :
    wpAnyH P .any l.toArray Q S2 fuel done a w := by
  refine float_late L all [p] f hall hfuel hnd hpart hrest hfr hsh hfin hcls hS2 hop (fun x hx y hy => ?_) (fun x hx o' ho' => ?_) hend
  · rw [List.mem_singleton] at hx hy
    rw [hx, hy]
  · rw [List.mem_singleton] at hx
    subst hx
    rw [drop_get ho] at ho'
    cases ho'
    exact ⟨v, hv, hrun, hs, hf, hr, hQ⟩
theorem does_call {W : World} {o : Oper} {a : Act} {v : Value} (f : FuncId) (args : Array Value) (hr : ∀ w, (execOp a.eval o).run P w = .ok (.enter f args) w) (hc : ∀ w, Below W.heap.size W w → Calls P f args w fun e w' => e = .returned v ∧ Below w.heap.size w w') : Does P W o a (.is v) :=
  fun w hw => .inl ⟨f, args, hr w, hc w hw⟩
theorem does_take {W : World} {o : Oper} {a : Act} {v : Value} (hr : ∀ w, Below W.heap.size W w → (execOp a.eval o).run P w = .ok (.value v) w) : Does P W o a (.is v) :=
  fun w hw => .inr (hr w hw)

end
end Float
end Go.Proofs.Ytdhjgenijieeaaa
