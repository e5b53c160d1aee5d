/- Regions of loads and stores in open order: what lies in memory hangs on what has not come yet. Nothing of the program. -/
import Derived.Test.YtnopjjkijedpeaaFloat
namespace Go.Proofs.Ytnopjjkijedpeaa
namespace FloatC
open Go.RowKit Mem Quiet Go.Proofs.Ytnopjjkijedpeaa.Float

section
variable {P : Program} {l : List Oper} {Q : Exit → Act → World → Prop} {S2 : World → Prop}

structure Inv (ops : Array Oper) (S : List Nat → World → Prop) (all : List Nat) (done : Array Bool) (v : Nat → Value) (fin : Act) (pend : List Nat) (listed : Array Bool) (a : Act) (w : World) : Prop where
  sub : ∀ i ∈ pend, i ∈ all
  nodup : pend.Nodup
  set : setAll pend listed = setAll all done
  un : ∀ x, listed.getD x true = false ↔ done.getD x true = false ∧ (x ∈ all → x ∈ pend)
  shut : Shut' ops listed
  old : ∀ x, done.getD x false = true → listed.getD x false = true
  lis : ∀ x ∈ all, x ∉ pend → listed.getD x false = true
  act : lay ops v pend a = fin
  cls : S pend w

theorem all_go {ops : Array Oper} (S : List Nat → World → Prop) (v : Nat → Value) {all : List Nat} {done : Array Bool} {fin : Act} {f : Nat}
    (hpart : partB ops all done = true) (hrest : restB ops all [] done = true) (hfr : freshB all done = true)
    (hS2 : ∀ p w, S p w → S2 w)
    (hop : ∀ i ∈ all, ∀ o, ops[i]? = some o → ∀ pend w, pend.Nodup → i ∈ pend → (∀ j ∈ all, ∀ q, ops[j]? = some q → waits q i = true → j ∈ pend) → S pend w → ∃ n w1, (execOp fin.eval o).run P w = .ok n w1 ∧ (n = .value (v i) ∨ (n = .skip ∧ v i = undef)) ∧ S (pend.erase i) w1)
    (hend : ∀ w, S [] w → wpAnyH P .any ops Q S2 f (setAll all done) fin w) :
    ∀ (n : Nat) (pend : List Nat) (listed : Array Bool) (a : Act) (w : World), pend.length = n → Inv ops S all done v fin pend listed a w → wpAnyH P .any ops Q S2 (n + f) listed a w := by
  intro n
  induction n with
  | zero =>
    intro pend listed a w hn I
    obtain rfl : pend = [] := List.eq_nil_of_length_eq_zero hn
    have h1 := I.act
    have h2 := I.set
    simp only [lay] at h1
    simp only [setAll] at h2
    rw [Nat.zero_add, h1, h2]
    exact hend w I.cls
  | succ n ih =>
    intro pend listed a w hn I
    have fresh : ∀ j ∈ pend, listed.getD j true = false := fun j hj => (I.un j).2 ⟨by
      have := List.all_eq_true.1 hfr j (I.sub j hj)
      simpa using this, fun _ => hj⟩
    have hready : ∀ i ∈ Region.ready .any ops listed, i ∈ pend := by
      intro i hi
      obtain ⟨hun, o, ho, hall⟩ := mem_ready.1 hi
      obtain ⟨h1, h2⟩ := (I.un i).1 hun
      apply Classical.byContradiction
      intro hne
      have hna : i ∉ all := fun h => hne (h2 h)
      have hsz := (Array.getElem?_eq_some_iff.1 ho).1
      have h3 := List.all_eq_true.1 hrest i (List.mem_range.2 hsz)
      simp only [Bool.or_eq_true, List.contains_iff_mem, hna, false_or, h1, Bool.false_eq_true, List.all_eq_true] at h3
      obtain ⟨j, hj⟩ : ∃ j, j ∈ pend := by
        cases pend with
        | nil => simp at hn
        | cons j r => exact ⟨j, List.mem_cons_self⟩
      have h4 := reach_listed I.shut _ i o ho ((h3 j (I.sub j hj)).resolve_left (by simp)) hall
      have h5 := getD_both _ _ h4
      rw [fresh j hj] at h5
      cases h5
    rw [Nat.succ_add]
    constructor
    · intro hnil
      obtain ⟨m, hm, hmin⟩ : ∃ m ∈ pend, ∀ x ∈ pend, m ≤ x := by
        cases pend with
        | nil => simp at hn
        | cons j r => exact ⟨(j :: r).min (by simp), List.min_mem _, fun x hx => List.min_le_of_mem hx⟩
      obtain ⟨o, ho, _, _, haf⟩ := part_of hpart (I.sub m hm)
      have : m ∈ Region.ready .any ops listed := mem_ready.2 ⟨fresh m hm, o, ho, fun e he hb => by
        obtain ⟨h1, h2⟩ := haf e he hb
        rcases h2 with h2 | h2
        · exact I.lis _ h2 (fun hp => by have := hmin _ hp; omega)
        · exact I.old _ h2⟩
      rw [hnil] at this
      cases this
    · intro i hi
      have hip := hready i hi
      have hia := I.sub i hip
      obtain ⟨hun, o, ho, hall⟩ := mem_ready.1 hi
      obtain ⟨o', ho', hpl, hpair, _⟩ := part_of hpart hia
      obtain rfl : o' = o := by rw [ho] at ho'; cases ho'; rfl
      have hsel := plain_select hpl
      have hdst : dstOf ops i = o'.dst := by simp [dstOf, ho]
      have hlook : ∀ j ∈ pend, ∀ d, dstOf ops j = some d → d ∉ o'.looksAt ops := by
        intro j hj d hd hin
        have h1 := hpair j (I.sub j hj)
        simp only [okPair, hd] at h1
        by_cases e : i = j
        · subst e
          simp [hin] at h1
        · simp only [beq_iff_eq, e, if_false, Bool.and_eq_true, Bool.or_eq_true, Bool.not_eq_true'] at h1
          rcases h1.1 with h2 | h2
          · simp [hin] at h2
          · obtain ⟨e', he', hb'⟩ := Array.any_eq_true'.1 h2
            simp only [Bool.and_eq_true, beq_iff_eq] at hb'
            have h3 := hall e' he' hb'.1
            rw [hb'.2] at h3
            have h4 := getD_both _ _ h3
            rw [fresh j hj] at h4
            cases h4
      have hap : ∀ j ∈ pend, j ≠ i → ∀ d, dstOf ops j = some d → dstOf ops i ≠ some d := by
        intro j hj hne d hd
        have h1 := hpair j (I.sub j hj)
        simp only [okPair, hd, beq_iff_eq, Ne.symm hne, if_false, Bool.and_eq_true, bne_iff_ne] at h1
        rw [hdst]
        exact h1.2
      have hex : execOp fin.eval o' = execOp a.eval o' := by
        rw [← I.act]
        exact lay_exec v o' hsel pend a hlook
      obtain ⟨nx, w1, hr, hnx, hS⟩ := hop i hia o' ho pend w I.nodup hip (fun j hj q hq hw => Classical.byContradiction fun hp => by
        obtain ⟨e', he', hb'⟩ := Array.any_eq_true'.1 hw
        simp only [Bool.and_eq_true, beq_iff_eq] at hb'
        have h3 := I.shut j q hq (I.lis j hj hp) e' he' hb'.1
        rw [hb'.2] at h3
        have h4 := getD_both _ _ h3
        rw [fresh i hip] at h4
        cases h4) I.cls
      have next : S2 w1 ∧ wpAnyH P .any ops Q S2 (n + f) (listed.setIfInBounds i true) (a.put o'.dst (v i)) w1 := by
        refine ⟨hS2 _ _ hS, ih (pend.erase i) (listed.setIfInBounds i true) (a.put o'.dst (v i)) w1 ?_ ?_⟩
        · rw [List.length_erase_of_mem hip, hn]
          rfl
        have hmem : ∀ x, x ∉ pend.erase i → x ∉ pend ∨ x = i := by
          intro x hx
          by_cases e : x = i
          · exact .inr e
          · left
            intro h
            exact hx ((List.mem_erase_of_ne e).2 h)
        refine ⟨fun x hx => I.sub x (List.mem_of_mem_erase hx), I.nodup.erase i, ?_, ?_, ?_, fun x hx => (getD_false _ _ _).2 (.inl (I.old x hx)), ?_, ?_, hS⟩
        · rw [← setAll_erase pend listed hip]
          exact I.set
        · intro x
          rw [getD_true, I.un]
          constructor
          · rintro ⟨⟨h1, h2⟩, h3⟩
            exact ⟨h1, fun h => (List.mem_erase_of_ne h3).2 (h2 h)⟩
          · rintro ⟨h1, h2⟩
            refine ⟨⟨h1, fun h => List.mem_of_mem_erase (h2 h)⟩, fun e => ?_⟩
            subst e
            exact (I.nodup.not_mem_erase) (h2 hia)
        · intro k q hq hk e he hb'
          rw [getD_false] at hk ⊢
          rcases hk with hk | ⟨hk, _⟩
          · exact .inl (I.shut k q hq hk e he hb')
          · subst hk
            rw [ho] at hq
            cases hq
            exact .inl (hall e he hb')
        · intro x hx hp
          rw [getD_false]
          rcases hmem x hp with h | h
          · exact .inl (I.lis x hx h)
          · exact .inr ⟨h, getD_in _ _ hun⟩
        · have h1 := I.act
          rw [lay_erase v pend a hip hap, hdst] at h1
          exact h1
      simp only [wpOp, ho, plain_wanted hpl, if_true]
      refine .inl ?_
      unfold Oper.wp
      rw [← hex, hr]
      rcases hnx with rfl | ⟨rfl, hu⟩
      · exact next
      · rw [hu] at next
        exact next

/-- the beginning -/
theorem go (S : List Nat → World → Prop) (v : Nat → Value) (all : List Nat) (fin : Act) (f : Nat) {done : Array Bool} {a : Act} {w : World} {fuel : Nat} (hfuel : fuel = all.length + f)
    (hnd : decide all.Nodup = true) (hpart : partB l.toArray all done = true) (hrest : restB l.toArray all [] done = true) (hfr : freshB all done = true) (hsh : shutB l.toArray done = true) (hfin : lay l.toArray v all a = fin) (hS : S all w) (hS2 : ∀ p w, S p w → S2 w)
    (hop : ∀ i ∈ all, ∀ o, l.toArray[i]? = some o → ∀ pend w, pend.Nodup → i ∈ pend → (∀ j ∈ all, ∀ q, l.toArray[j]? = some q → waits q i = true → j ∈ pend) → S pend w → ∃ n w1, (execOp fin.eval o).run P w = .ok n w1 ∧ (n = .value (v i) ∨ (n = .skip ∧ v i = undef)) ∧ S (pend.erase i) w1)
    (hend : ∀ w, S [] w → wpAnyH P .any l.toArray Q S2 f (setAll all done) fin w) : wpAnyH P .any l.toArray Q S2 fuel done a w := by
  subst hfuel
  exact all_go S v hpart hrest hfr hS2 hop hend all.length all done a w rfl ⟨fun _ h => h, of_decide_eq_true hnd, rfl, fun x => ⟨fun h => ⟨h, fun h => h⟩, fun h => h.1⟩, shut_of hsh, fun _ h => h, fun x h h2 => absurd h h2, hfin, hS⟩
def putv : List (Tmp × Value) → Act → Act
  | [], a => a
  | (d, u) :: r, a => putv r (a.put (some d) u)
theorem go' (S : List Nat → World → Prop) (v : Nat → Value) (all : List Nat) (L : List (Tmp × Value)) (f : Nat) {done : Array Bool} {a : Act} {w : World} {fuel : Nat} (hfuel : fuel = all.length + f)
    (hnd : decide all.Nodup = true) (hpart : partB l.toArray all done = true) (hrest : restB l.toArray all [] done = true) (hfr : freshB all done = true) (hsh : shutB l.toArray done = true) (hfin : lay l.toArray v all a = putv L a) (hS : S all w) (hS2 : ∀ p w, S p w → S2 w)
    (hop : ∀ i ∈ all, ∀ o, l.toArray[i]? = some o → ∀ pend w, pend.Nodup → i ∈ pend → (∀ j ∈ all, ∀ q, l.toArray[j]? = some q → waits q i = true → j ∈ pend) → S pend w → ∃ n w1, (execOp (putv L a).eval o).run P w = .ok n w1 ∧ (n = .value (v i) ∨ (n = .skip ∧ v i = undef)) ∧ S (pend.erase i) w1)
    (hend : ∀ w, S [] w → wpAnyH P .any l.toArray Q S2 f (setAll all done) (putv L a) w) : wpAnyH P .any l.toArray Q S2 fuel done a w :=
  go S v all (putv L a) f hfuel hnd hpart hrest hfr hsh hfin hS hS2 hop hend
theorem run_store_op {o : Oper} {a : Act} {w : World} (ty : TypeId) (x y : Operand) (ho : o.op = .store ty x y) (g : Nat) (cells : Array Value) (hx : a.eval x = .pointer (some ⟨g, 0, none⟩)) (hy : a.eval y = .agg cells)
    (t : TypeId) (old : Array Value) (hg : Whole w g t old) (hi : (P.info? ty).map (·.size) = some cells.size) (hold : old.size = cells.size) (h1 : cells.all (·.oneCell') = true) : (execOp a.eval o).run P w = .ok .skip (w.setRow g cells) := by
  unfold execOp
  simp only [ho, hx, hy, Instr.storeAt, Instr.sureAddr, Sem.run_bind, Sem.run_pure, Result.andThen_ok, run_storeVar_row w g t ty old cells hg hi hold h1]
theorem erase_skip {p : List Nat} {i j : Nat} (h : j ≠ i) : (j ∈ p.erase i) = (j ∈ p) := propext (List.mem_erase_of_ne h)
theorem erase_self {p : List Nat} {i : Nat} (h : p.Nodup) : i ∉ p.erase i := h.not_mem_erase
end
end FloatC
end Go.Proofs.Ytnopjjkijedpeaa
