/- XFloatK's regions anew: what is known of an operation's value may hang on the world, and several quiet operations may come late, behind a store. Nothing of the program. -/
import Derived.Test.YtdhjgenijieeaaaFloatK
namespace Go.Proofs.Ytdhjgenijieeaaa
namespace FloatD
open Go.RowKit Mem Quiet Go.Proofs.Ytdhjgenijieeaaa.Float

section
variable {ops : Array Oper} {P : Program} {Q : Exit → Act → World → Prop} {S S2 : World → Prop}

def lateB (ops : Array Oper) (all late : List Nat) (done : Array Bool) : Bool :=
  late.all fun p => all.contains p && match ops[p]? with
    | none => false
    | some o => o.dst.isSome && (late.all fun q => !waits o q) && (List.range ops.size).all fun j => j == p || (all.contains j && !late.contains j) || done.getD j true || match ops[j]? with
      | some oj => oj.after.any (fun e => Region.binds .any e && e.on == p) || o.apart ops oj
      | none => true

theorem behind (all late : List Nat) (Φ : Nat → Value → World → Prop) (new : Nat → Bool) {fin : (Nat → Value) → Act} {f : Nat} {done : Array Bool}
    (hpart : partB ops all done = true) (hfr : freshB all done = true) (hlate : lateB ops all late done = true) (hsel : Region.noSelect ops = true) (hS2 : ∀ w, S w → S2 w)
    (hQ : ∀ c a w d v, Q (.panic c) (Act.put a (some d) v) w → Q (.panic c) a w)
    (hlt : ∀ p ∈ late, ∀ o, ops[p]? = some o → new p = false ∧ ∀ ν w, S w → (∀ j ∈ all, waits o j = true → Φ j (ν j) w) → ∃ v, Φ p v w ∧ ∀ w', (execOp (fin ν).eval o).run P w' = .ok (.value v) w')
    (hend : ∀ ν w, S w → (∀ i ∈ all, Φ i (ν i) w) → (∀ i ∈ all, ∀ j ∈ all, i ≠ j → new i = true → new j = true → ∀ g, blk (ν i) = some g → blk (ν j) ≠ some g) → wpAnyH P .any ops Q S2 f (setAll all done) (fin ν) w) :
    ∀ (n : Nat) (pend : List Nat) (listed : Array Bool) (ν : Nat → Value) (a : Act) (w : World), pend.length = n → Inv Φ new ops S all done fin pend listed ν a w → (∀ x ∈ pend, x ∈ late) → wpAnyH P .any ops Q S2 (n + f) listed a w := by
  intro n
  induction n with
  | zero =>
    intro pend listed ν a w hn I _
    obtain rfl := List.eq_nil_of_length_eq_zero hn
    have h1 := I.act ν (fun _ _ _ => rfl)
    have h2 := I.set
    simp only [lay] at h1
    simp only [setAll] at h2
    rw [Nat.zero_add, h1, h2]
    exact hend ν w I.cls (fun i hi => I.facts i hi (by simp)) (fun i hi j hj => I.apart i hi (by simp) j hj (by simp))
  | succ n ih =>
    intro pend listed ν a w hn I hsub
    obtain ⟨p, r, hp⟩ : ∃ p r, pend = p :: r := by
      cases pend with
      | nil => simp at hn
      | cons p r => exact ⟨p, r, rfl⟩
    have hip : p ∈ pend := by rw [hp]; exact List.mem_cons_self
    have hpa := I.sub p hip
    have hpl := hsub p hip
    obtain ⟨o, ho, hpn, hpair, haf⟩ := part_of hpart hpa
    have hL := List.all_eq_true.1 hlate p hpl
    simp only [ho, Bool.and_eq_true, List.all_eq_true, Bool.not_eq_true', List.mem_range] at hL
    obtain ⟨_, ⟨hds, hnw⟩, hfree⟩ := hL
    obtain ⟨dd, hdd⟩ := Option.isSome_iff_exists.1 hds
    have hsl := plain_select hpn
    have hun : listed.getD p true = false := (I.un p).2 ⟨by
      have := List.all_eq_true.1 hfr p hpa
      simpa using this, fun _ => hip⟩
    have hdeps : ∀ e ∈ o.after, Region.binds .any e = true → listed.getD e.on false = true := by
      intro e he hb
      obtain ⟨_, h2⟩ := haf e he hb
      rcases h2 with h2 | h2
      · refine I.lis _ h2 fun hpe => ?_
        have h3 := hnw e.on (hsub _ hpe)
        have h4 : waits o e.on = true := Array.any_eq_true'.2 ⟨e, he, by simp [hb]⟩
        rw [h4] at h3
        cases h3
      · exact I.old _ h2
    have hrd : p ∈ Region.ready .any ops listed := mem_ready.2 ⟨hun, o, ho, hdeps⟩
    have hfr' : Region.free .any ops listed p = true := by
      unfold Region.free
      rw [ho]
      simp only [List.all_eq_true, List.mem_range]
      intro j hj
      have h1 := hfree j hj
      simp only [Bool.or_eq_true, Bool.and_eq_true, beq_iff_eq, List.contains_iff_mem, Bool.not_eq_true'] at h1 ⊢
      rcases h1 with ((h1 | ⟨h1, h2⟩) | h1) | h1
      · exact .inl (.inl h1)
      · refine .inl (.inr (getD_both _ _ (I.lis j h1 fun hpe => ?_)))
        have := hsub j hpe
        rw [← List.contains_iff_mem, h2] at this
        cases this
      · refine .inl (.inr ?_)
        cases hlj : listed.getD j true with
        | true => rfl
        | false =>
          have := ((I.un j).1 hlj).1
          rw [h1] at this
          cases this
      · exact .inr h1
    have hlook : ∀ j ∈ pend, ∀ d, dstOf ops j = some d → d ∉ o.looksAt ops := by
      intro j hj d hd hin
      have h1 := hpair j (I.sub j hj)
      simp only [okPair, hd] at h1
      by_cases e : p = j
      · subst e
        simp [hin] at h1
      · simp only [beq_iff_eq, e, if_false, Bool.and_eq_true, Bool.or_eq_true, Bool.not_eq_true'] at h1
        rcases h1.1 with h2 | h2
        · simp [hin] at h2
        · have h3 := hnw j (hsub j hj)
          rw [h2] at h3
          cases h3
    have hap : ∀ j ∈ pend, j ≠ p → ∀ d, dstOf ops j = some d → dstOf ops p ≠ some d := by
      intro j hj hne d hd
      have h1 := hpair j (I.sub j hj)
      simp only [okPair, hd, beq_iff_eq, Ne.symm hne, if_false, Bool.and_eq_true, bne_iff_ne] at h1
      simpa [dstOf, ho] using h1.2
    have hex : execOp (fin ν).eval o = execOp a.eval o := by
      rw [← I.act ν (fun _ _ _ => rfl)]
      exact lay_exec ν o hsl pend a hlook
    obtain ⟨hnew, hy⟩ := hlt p hpl o ho
    obtain ⟨v, hΦ, hrun⟩ := hy ν w I.cls (fun j hj hw => I.facts j hj fun hpe => by
      have h3 := hnw j (hsub j hpe)
      rw [hw] at h3
      cases h3)
    have hdst : dstOf ops p = o.dst := by simp [dstOf, ho]
    rw [Nat.succ_add]
    refine wpAnyH_take (v := v) ho hsel hfr' (by simpa using hrd) (fun c a w => by rw [hdd]; exact hQ c a w _ _) (.inl ⟨plain_wanted hpn _, fun w' _ => by rw [← hex]; exact hrun w'⟩) (hS2 w I.cls) ?_
    have hmem : ∀ x, x ∉ pend.erase p → x ∉ pend ∨ x = p := by
      intro x hx
      by_cases e : x = p
      · exact .inr e
      · left
        intro h
        exact hx ((List.mem_erase_of_ne e).2 h)
    refine ih (pend.erase p) (listed.setIfInBounds p true) (fun x => if x = p then v else ν x) (a.put o.dst v) w (by rw [List.length_erase_of_mem hip, hn]; rfl) ?_ (fun x hx => hsub x (List.mem_of_mem_erase hx))
    refine ⟨fun x hx => I.sub x (List.mem_of_mem_erase hx), I.nodup.erase p, ?_, ?_, ?_, ?_, ?_, ?_, I.cls, ?_, ?_, ?_⟩
    · rw [← setAll_erase pend listed hip]
      exact I.set
    · intro x
      rw [getD_true, I.un]
      constructor
      · rintro ⟨⟨h1, h2⟩, h3⟩
        exact ⟨h1, fun h => (List.mem_erase_of_ne h3).2 (h2 h)⟩
      · rintro ⟨h1, h2⟩
        refine ⟨⟨h1, fun h => List.mem_of_mem_erase (h2 h)⟩, fun e => ?_⟩
        subst e
        exact (I.nodup.not_mem_erase) (h2 hpa)
    · intro k q hq hk e he hb'
      rw [getD_false] at hk ⊢
      rcases hk with hk | ⟨hk, _⟩
      · exact .inl (I.shut k q hq hk e he hb')
      · subst hk
        rw [ho] at hq
        cases hq
        exact .inl (hdeps e he hb')
    · exact fun x hx => (getD_false _ _ _).2 (.inl (I.old x hx))
    · intro x hx hp
      rw [getD_false]
      rcases hmem x hp with h | h
      · exact .inl (I.lis x hx h)
      · exact .inr ⟨h, getD_in _ _ hun⟩
    · intro ν' hν'
      have hv : ν' p = v := by
        have := hν' p hpa (I.nodup.not_mem_erase)
        simpa using this
      have h1 := I.act ν' (fun x hx hp => by
        have h2 := hν' x hx (fun h => hp (List.mem_of_mem_erase h))
        have h3 : x ≠ p := fun e => hp (e ▸ hip)
        simpa [h3] using h2)
      rw [lay_erase ν' pend a hip hap, hv, hdst] at h1
      exact h1
    · intro x hx hp
      rcases hmem x hp with h | h
      · have h3 : x ≠ p := fun e => h (e ▸ hip)
        simp only [h3, if_false]
        exact I.facts x hx h
      · subst h
        simpa using hΦ
    · intro x hx hp hn' g hg
      rcases hmem x hp with h | h
      · have h3 : x ≠ p := fun e => h (e ▸ hip)
        simp only [h3, if_false] at hg
        exact I.low x hx h hn' g hg
      · subst h
        rw [hnew] at hn'
        cases hn'
    · intro x hx hpx y hy' hpy hne nx ny g hgx hgy
      rcases hmem x hpx with h1 | h1
      · have h3 : x ≠ p := fun e => h1 (e ▸ hip)
        simp only [h3, if_false] at hgx
        rcases hmem y hpy with h2 | h2
        · have h4 : y ≠ p := fun e => h2 (e ▸ hip)
          simp only [h4, if_false] at hgy
          exact I.apart x hx h1 y hy' h2 hne nx ny g hgx hgy
        · subst h2
          rw [hnew] at ny
          cases ny
      · subst h1
        rw [hnew] at nx
        cases nx

/-- what is known of an operation: 'Φ k v w', which lasts; 'late': quiet ones that may come behind a store -/
theorem float {l : List Oper} (all late : List Nat) (Φ : Nat → Value → World → Prop) (new : Nat → Bool) (fin : (Nat → Value) → Act) (f : Nat) {W : World} {done : Array Bool} {a : Act} {w : World} {fuel : Nat} (hfuel : fuel = all.length + f)
    (hnd : decide all.Nodup = true) (hpart : partB l.toArray all done = true) (hrest : restB l.toArray all late done = true) (hfr : freshB all done = true) (hsh : shutB l.toArray done = true) (hlate : lateB l.toArray all late done = true) (hsel : Region.noSelect l.toArray = true)
    (hfin : ∀ ν, lay l.toArray ν all a = fin ν) (hcls : Below W.heap.size W w) (hS2 : ∀ w, Below W.heap.size W w → S2 w) (hQ : ∀ c a w d v, Q (.panic c) (Act.put a (some d) v) w → Q (.panic c) a w)
    (hst : ∀ i ∈ all, ∀ v w w', Φ i v w → Below w.heap.size w w' → Φ i v w')
    (hop : ∀ i ∈ all, i ∉ late → ∀ o, l.toArray[i]? = some o → ∀ ν w, Below W.heap.size W w → (∀ j ∈ all, waits o j = true → Φ j (ν j) w) → Step P Φ new i o (fin ν) w)
    (hlt : ∀ p ∈ late, ∀ o, l.toArray[p]? = some o → new p = false ∧ ∀ ν w, Below W.heap.size W w → (∀ j ∈ all, waits o j = true → Φ j (ν j) w) → ∃ v, Φ p v w ∧ ∀ w', (execOp (fin ν).eval o).run P w' = .ok (.value v) w')
    (hend : ∀ ν w, Below W.heap.size W w → (∀ i ∈ all, Φ i (ν i) w) → (∀ i ∈ all, ∀ j ∈ all, i ≠ j → new i = true → new j = true → ∀ g, blk (ν i) = some g → blk (ν j) ≠ some g) → wpAnyH P .any l.toArray Q S2 f (setAll all done) (fin ν) w) :
    wpAnyH P .any l.toArray Q S2 fuel done a w := by
  subst hfuel
  refine all_go (S := Below W.heap.size W) Φ new (fun _ => True) (late := late) (fin := fin) (fun ν w L h => ⟨ν, fun _ _ _ => rfl, trivial⟩) hpart hrest hfr hst (fun w w' h hb => below_trans h hb) hS2 ?_ ?_ all.length all done (fun _ => undef) a w rfl ⟨fun _ h => h, of_decide_eq_true hnd, rfl, fun x => ?_, shut_of hsh, fun _ h => h, fun x h h2 => absurd h h2, fun ν' _ => hfin ν', hcls, fun x h h2 => absurd h h2, fun x h h2 => absurd h h2, fun x h h2 => absurd h h2⟩
  · intro i hi o ho ν w _ hS hd
    by_cases hl : i ∈ late
    · obtain ⟨hn, hy⟩ := hlt i hl o ho
      obtain ⟨v, hΦ, hr⟩ := hy ν w hS hd
      exact .inl ⟨v, w, hr w, Below.refl _ _, hΦ, fun h => by rw [hn] at h; cases h⟩
    · exact hop i hi hl o ho ν w hS hd
  · intro pend listed ν a w I hsub
    exact behind (S := Below W.heap.size W) all late Φ new hpart hfr hlate hsel hS2 hQ hlt hend pend.length pend listed ν a w rfl I hsub
  · constructor
    · exact fun h => ⟨h, fun h => h⟩
    · exact fun h => h.1

def puts (ν : Nat → Value) : List (Nat × Tmp) → Act → Act
  | [], a => a
  | (k, d) :: r, a => puts ν r (a.put (some d) (ν k))
def OpsAt (P : Program) (Φ : Nat → Value → World → Prop) (new : Nat → Bool) (l : List Oper) (L : List (Nat × Tmp)) (a : Act) (W : World) : List Nat → Prop
  | [] => True
  | k :: r => (∃ o rest, l.drop k = o :: rest ∧ ∀ ν w, Below W.heap.size W w → (∀ j ∈ L.map (·.1), waits o j = true → Φ j (ν j) w) → Step P Φ new k o (puts ν L a) w) ∧ OpsAt P Φ new l L a W r
def LateAt (P : Program) (Φ : Nat → Value → World → Prop) (new : Nat → Bool) (l : List Oper) (L : List (Nat × Tmp)) (a : Act) (W : World) : List Nat → Prop
  | [] => True
  | k :: r => (new k = false ∧ ∃ o rest, l.drop k = o :: rest ∧ ∀ ν w, Below W.heap.size W w → (∀ j ∈ L.map (·.1), waits o j = true → Φ j (ν j) w) → ∃ v, Φ k v w ∧ ∀ w', (execOp (puts ν L a).eval o).run P w' = .ok (.value v) w') ∧ LateAt P Φ new l L a W r
def Facts (Φ : Nat → Value → World → Prop) (ν : Nat → Value) (w : World) : List Nat → Prop
  | [] => True
  | k :: r => Φ k (ν k) w ∧ Facts Φ ν w r
theorem facts_of {Φ : Nat → Value → World → Prop} {ν : Nat → Value} {w : World} : ∀ {l : List Nat}, (∀ i ∈ l, Φ i (ν i) w) → Facts Φ ν w l
  | [], _ => trivial
  | _ :: _, h => ⟨h _ List.mem_cons_self, facts_of fun i hi => h i (List.mem_cons_of_mem _ hi)⟩
theorem ops_of {Φ : Nat → Value → World → Prop} {new : Nat → Bool} {l : List Oper} {L : List (Nat × Tmp)} {a : Act} {W : World} : ∀ {r : List Nat}, OpsAt P Φ new l L a W r → ∀ i ∈ r, ∀ o, l.toArray[i]? = some o →
    ∀ ν w, Below W.heap.size W w → (∀ j ∈ L.map (·.1), waits o j = true → Φ j (ν j) w) → Step P Φ new i o (puts ν L a) w
  | k :: r, h, i, hi, o, ho => by
    rcases List.mem_cons.1 hi with e | e
    · subst e
      obtain ⟨⟨o', rest, ho', hd⟩, _⟩ := h
      rw [drop_get ho'] at ho
      cases ho
      exact hd
    · exact ops_of h.2 i e o ho
theorem late_of {Φ : Nat → Value → World → Prop} {new : Nat → Bool} {l : List Oper} {L : List (Nat × Tmp)} {a : Act} {W : World} : ∀ {r : List Nat}, LateAt P Φ new l L a W r → ∀ i ∈ r, ∀ o, l.toArray[i]? = some o →
    new i = false ∧ ∀ ν w, Below W.heap.size W w → (∀ j ∈ L.map (·.1), waits o j = true → Φ j (ν j) w) → ∃ v, Φ i v w ∧ ∀ w', (execOp (puts ν L a).eval o).run P w' = .ok (.value v) w'
  | k :: r, h, i, hi, o, ho => by
    rcases List.mem_cons.1 hi with e | e
    · subst e
      obtain ⟨⟨hn, o', rest, ho', hd⟩, _⟩ := h
      rw [drop_get ho'] at ho
      cases ho
      exact ⟨hn, hd⟩
    · exact late_of h.2 i e o ho
/-- as 'float', its parts as lists: L the operations with their slots, 'main' and 'late' of them -/
theorem floatL {l : List Oper} (L : List (Nat × Tmp)) (all main late : List Nat) (Φ : Nat → Value → World → Prop) (new : Nat → Bool) (f : Nat) {W : World} {done : Array Bool} {a : Act} {w : World} {fuel : Nat} (hall : L.map (·.1) = all) (hml : (all.all fun i => main.contains i || late.contains i) = true) (hfuel : fuel = all.length + f)
    (hnd : decide all.Nodup = true) (hpart : partB l.toArray all done = true) (hrest : restB l.toArray all late done = true) (hfr : freshB all done = true) (hsh : shutB l.toArray done = true) (hlate : lateB l.toArray all late done = true) (hsel : Region.noSelect l.toArray = true)
    (hfin : ∀ ν, lay l.toArray ν all a = puts ν L a) (hcls : Below W.heap.size W w) (hS2 : ∀ w, Below W.heap.size W w → S2 w) (hQ : ∀ c a w d v, Q (.panic c) (Act.put a (some d) v) w → Q (.panic c) a w)
    (hst : ∀ i v w w', Φ i v w → Below w.heap.size w w' → Φ i v w')
    (hop : OpsAt P Φ new l L a W main) (hlt : LateAt P Φ new l L a W late)
    (hend : ∀ ν w, Below W.heap.size W w → Facts Φ ν w all → (∀ i ∈ all, ∀ j ∈ all, i ≠ j → new i = true → new j = true → ∀ g, blk (ν i) = some g → blk (ν j) ≠ some g) → wpAnyH P .any l.toArray Q S2 f (setAll all done) (puts ν L a) w) :
    wpAnyH P .any l.toArray Q S2 fuel done a w := by
  refine float all late Φ new (fun ν => puts ν L a) f hfuel hnd hpart hrest hfr hsh hlate hsel hfin hcls hS2 hQ (fun i _ v w w' => hst i v w w') ?_ ?_ ?_
  · intro i hi hl o ho ν w hb hd
    have h1 := List.all_eq_true.1 hml i hi
    simp only [Bool.or_eq_true, List.contains_iff_mem, hl, or_false] at h1
    exact ops_of hop i h1 o ho ν w hb (by rw [hall]; exact hd)
  · intro p hp o ho
    obtain ⟨h1, h2⟩ := late_of hlt p hp o ho
    exact ⟨h1, fun ν w hb hd => h2 ν w hb (by rw [hall]; exact hd)⟩
  · exact fun ν w hb hF ha => hend ν w hb (facts_of hF) ha

section
variable {Φ : Nat → Value → World → Prop} {new : Nat → Bool} {i : Nat} {o : Oper} {a : Act} {w : World}
theorem step_value {v : Value} (hr : (execOp a.eval o).run P w = .ok (.value v) w) (hΦ : Φ i v w) (hn : new i = false) : Step P Φ new i o a w :=
  .inl ⟨v, w, hr, Below.refl _ _, hΦ, fun h => by rw [hn] at h; cases h⟩
theorem step_made {v : Value} {b : Obj} (hr : (execOp a.eval o).run P w = .ok (.value v) (w.alloc b)) (hΦ : Φ i v (w.alloc b)) (hn : new i = false) : Step P Φ new i o a w :=
  .inl ⟨v, _, hr, below_alloc (Below.refl _ _) _, hΦ, fun h => by rw [hn] at h; cases h⟩
theorem step_new {T : TypeId} {zs : Array Value} (hr : (execOp a.eval o).run P w = .ok (.value (.pointer (some ⟨w.heap.size, 0, none⟩))) (w.alloc (.cells zs T))) (hΦ : Φ i (.pointer (some ⟨w.heap.size, 0, none⟩)) (w.alloc (.cells zs T))) : Step P Φ new i o a w :=
  .inl ⟨_, _, hr, below_alloc (Below.refl _ _) _, hΦ, fun _ g hg => by
    simp only [blk, Option.some.injEq] at hg
    subst hg
    exact ⟨Nat.le_refl _, (Whole.new w T zs).lt⟩⟩
theorem step_call {f : FuncId} {args : Array Value} (hr : (execOp a.eval o).run P w = .ok (.enter f args) w) (hc : Calls P f args w fun e w' => ∃ v, e = .returned v ∧ Φ i v w' ∧ Below w.heap.size w w') (hn : new i = false) : Step P Φ new i o a w :=
  .inr ⟨f, args, hr, hc.mono fun _ w' ⟨v, e, h1, h2⟩ => ⟨v, e, h2, h1, fun h => by rw [hn] at h; cases h⟩⟩
end

end
end FloatD
end Go.Proofs.Ytdhjgenijieeaaa
