/- As XFloat; an operation may also give a value of which no more is known than a property. Nothing of the program. -/
import Derived.Test.YtnopjjkijedpeaaFloat
namespace Go.Proofs.Ytnopjjkijedpeaa
namespace FloatB
open Go.RowKit Mem Quiet Go.Proofs.Ytnopjjkijedpeaa.Float

section
variable {ops : Array Oper} {P : Program} {Q : Exit → Act → World → Prop} {S2 : World → Prop}

inductive Know where
  | is (v : Value)
  | row (T : TypeId) (zs : Array Value)
  | some (p : Value → Prop)
def Know.isRow : Know → Bool
  | .row _ _ => true
  | _ => false
def kn : List (Nat × Know) → Nat → Know
  | [], _ => .is undef
  | (k, K) :: r, i => if i = k then K else kn r i
def out (γ : Nat → Nat) (δ : Nat → Value) (i : Nat) : Know → Value
  | .is v => v
  | .row _ _ => .pointer (.some ⟨γ i, 0, none⟩)
  | .some _ => δ i
def val (L : List (Nat × Know)) (γ : Nat → Nat) (δ : Nat → Value) (i : Nat) : Value := out γ δ i (kn L i)
def holds (B : Nat) : Know → Value → World → Prop
  | .is u, v, _ => v = u
  | .row T zs, v, w => ∃ g, v = .pointer (.some ⟨g, 0, none⟩) ∧ B ≤ g ∧ Whole w g T zs
  | .some p, v, _ => p v
def Does (P : Program) (W : World) (o : Oper) (a : Act) : Know → Prop
  | .is v => ∀ w, Below W.heap.size W w → (∃ f args, (execOp a.eval o).run P w = .ok (.enter f args) w ∧ Calls P f args w fun e w' => e = .returned v ∧ Below w.heap.size w w') ∨ (execOp a.eval o).run P w = .ok (.value v) w
  | .row T zs => ∀ w, (execOp a.eval o).run P w = .ok (.value (.pointer (.some ⟨w.heap.size, 0, none⟩))) (w.alloc (.cells zs T))
  | .some p => ∀ w, Below W.heap.size W w → ∃ f args, (execOp a.eval o).run P w = .ok (.enter f args) w ∧ Calls P f args w fun e w' => ∃ v, e = .returned v ∧ p v ∧ Below w.heap.size w w'
/-- the values of which a property is known -/
def Good (δ : Nat → Value) : List (Nat × Know) → Prop
  | [] => True
  | (k, .some p) :: r => p (δ k) ∧ Good δ r
  | (_, .is _) :: r => Good δ r
  | (_, .row _ _) :: r => Good δ r
theorem good_of {δ : Nat → Value} : ∀ {L : List (Nat × Know)}, (∀ q ∈ L, ∀ p, q.2 = .some p → p (δ q.1)) → Good δ L
  | [], _ => trivial
  | (_, .some p) :: r, h => ⟨h _ List.mem_cons_self p rfl, good_of (L := r) fun q hq => h q (List.mem_cons_of_mem _ hq)⟩
  | (_, .is _) :: r, h => good_of (L := r) fun q hq => h q (List.mem_cons_of_mem _ hq)
  | (_, .row _ _) :: r, h => good_of (L := r) fun q hq => h q (List.mem_cons_of_mem _ hq)
def OpsAt (P : Program) (W : World) (l : List Oper) (a : Act) : List (Nat × Tmp × Know) → Prop
  | [] => True
  | (k, _, K) :: r => (∃ o rest, l.drop k = o :: rest ∧ Does P W o a K) ∧ OpsAt P W l a r
def RowsAt (B : Nat) (γ : Nat → Nat) (w : World) : List (Nat × Tmp × Know) → Prop
  | [] => True
  | (k, _, .row T zs) :: r => (B ≤ γ k ∧ Whole w (γ k) T zs) ∧ RowsAt B γ w r
  | (_, _, .is _) :: r => RowsAt B γ w r
  | (_, _, .some _) :: r => RowsAt B γ w r
def puts (γ : Nat → Nat) (δ : Nat → Value) : List (Nat × Tmp × Know) → Act → Act
  | [], a => a
  | (_, d, .is v) :: r, a => puts γ δ r (a.put (.some d) v)
  | (k, d, .row _ _) :: r, a => puts γ δ r (a.put (.some d) (.pointer (.some ⟨γ k, 0, none⟩)))
  | (k, d, .some _) :: r, a => puts γ δ r (a.put (.some d) (δ k))
def both (L : List (Nat × Tmp × Know)) : List (Nat × Know) := L.map fun p => (p.1, p.2.2)
theorem kn_of : ∀ {L : List (Nat × Know)}, (L.map (·.1)).Nodup → ∀ {p : Nat × Know}, p ∈ L → kn L p.1 = p.2
  | [], _, _, h => by cases h
  | (k, K) :: r, hn, p, hp => by
    simp only [List.map_cons, List.nodup_cons] at hn
    cases hp with
    | head => simp [kn]
    | tail _ hp =>
      have : p.1 ≠ k := fun e => hn.1 (e ▸ List.mem_map_of_mem hp)
      simp only [kn, this, if_false]
      exact kn_of hn.2 hp
theorem ops_of {W : World} {l : List Oper} {a : Act} : ∀ {L : List (Nat × Tmp × Know)}, OpsAt P W l a L → ∀ {i : Nat}, i ∈ L.map (·.1) → ∀ o, l.toArray[i]? = .some o → Does P W o a (kn (both L) i)
  | [], _, _, h, _, _ => by cases h
  | (k, d, K) :: r, h, i, hi, o, ho => by
    by_cases e : i = k
    · subst e
      obtain ⟨⟨o', rest, ho', hd⟩, _⟩ := h
      rw [drop_get ho'] at ho
      cases ho
      simpa [both, kn] using hd
    · have := ops_of h.2 (i := i) (by simpa [e] using hi) o ho
      simpa [both, kn, e] using this
theorem rows_of {B : Nat} {γ : Nat → Nat} {w : World} : ∀ {L : List (Nat × Tmp × Know)}, (∀ p ∈ L, ∀ T zs, p.2.2 = .row T zs → B ≤ γ p.1 ∧ Whole w (γ p.1) T zs) → RowsAt B γ w L
  | [], _ => trivial
  | (_, _, .row T zs) :: r, h => ⟨h _ List.mem_cons_self T zs rfl, rows_of (L := r) fun p hp => h p (List.mem_cons_of_mem _ hp)⟩
  | (_, _, .is _) :: r, h => rows_of (L := r) fun p hp => h p (List.mem_cons_of_mem _ hp)
  | (_, _, .some _) :: r, h => rows_of (L := r) fun p hp => h p (List.mem_cons_of_mem _ hp)

theorem float {l : List Oper} (L : List (Nat × Tmp × Know)) (all : List Nat) (f : Nat) {W : World} {done : Array Bool} {a : Act} {w : World} {fuel : Nat} (hall : L.map (·.1) = all) (hfuel : fuel = all.length + f)
    (hnd : decide all.Nodup = true) (hpart : partB l.toArray all done = true) (hrest : restB l.toArray all [] done = true) (hfr : freshB all done = true) (hsh : shutB l.toArray done = true)
    (hfin : ∀ γ δ, lay l.toArray (val (both L) γ δ) all a = puts γ δ L a) (hcls : Below W.heap.size W w) (hS2 : ∀ w, Below W.heap.size W w → S2 w)
    (hwit : ∃ δ, Good δ (both L))
    (hop : ∀ γ δ, Good δ (both L) → OpsAt P W l (puts γ δ L a) L)
    (hend : ∀ γ δ w, Below W.heap.size W w → Good δ (both L) → RowsAt W.heap.size γ w L → (∀ i j, (kn (both L) i).isRow = true → (kn (both L) j).isRow = true → i ∈ all → j ∈ all → i ≠ j → γ i ≠ γ j) → wpAnyH P .any l.toArray Q S2 f (setAll all done) (puts γ δ L a) w) :
    wpAnyH P .any l.toArray Q S2 fuel done a w := by
  have hnd' := of_decide_eq_true hnd
  have hmap : (both L).map (·.1) = all := by
    rw [← hall]
    unfold both
    rw [List.map_map]
    rfl
  have hbn : ((both L).map (·.1)).Nodup := by rw [hmap]; exact hnd'
  have hkn : ∀ {p : Nat × Tmp × Know}, p ∈ L → kn (both L) p.1 = p.2.2 := fun {p} hp => kn_of hbn (p := (p.1, p.2.2)) (List.mem_map_of_mem hp)
  obtain ⟨δ0, hδ0⟩ := hwit
  have good_at : ∀ {δ : Nat → Value}, Good δ (both L) → ∀ q ∈ both L, ∀ p, q.2 = .some p → p (δ q.1) := by
    intro δ
    generalize both L = M
    intro h
    induction M with
    | nil => intro q hq; cases hq
    | cons x r ih =>
      obtain ⟨k, K⟩ := x
      intro q hq p hp
      cases K with
      | some p' =>
        cases hq with
        | head =>
          cases hp
          exact h.1
        | tail _ hq => exact ih h.2 q hq p hp
      | is u =>
        cases hq with
        | head => cases hp
        | tail _ hq => exact ih h q hq p hp
      | row T zs =>
        cases hq with
        | head => cases hp
        | tail _ hq => exact ih h q hq p hp
  -- from what holds of the values to their form
  have form : ∀ (ν : Nat → Value) (w : World) (M : Nat → Prop), (∀ i ∈ all, M i → holds W.heap.size (kn (both L) i) (ν i) w) → ∃ γ δ, Good δ (both L) ∧ (∀ i ∈ all, M i → ν i = val (both L) γ δ i) := by
    intro ν w M h
    refine ⟨fun i => match ν i with | .pointer (.some p) => p.block | _ => 0, fun i => @ite _ (M i) (Classical.propDecidable _) (ν i) (δ0 i), ?_, ?_⟩
    · refine good_of fun q hq p hp => ?_
      have hk := kn_of hbn hq
      have hqa : q.1 ∈ all := by rw [← hmap]; exact List.mem_map_of_mem hq
      by_cases e : M q.1
      · simp only [e, if_true]
        have h1 := h q.1 hqa e
        rw [hk, hp] at h1
        exact h1
      · simp only [e, if_false]
        exact good_at hδ0 q hq p hp
    · intro i hi hM
      have h1 := h i hi hM
      unfold val
      cases e : kn (both L) i with
      | is u =>
        rw [e] at h1
        exact h1
      | row T zs =>
        rw [e] at h1
        obtain ⟨g, hg, _⟩ := h1
        simp only [out, hg]
      | some p => simp only [out, hM, if_true]
  refine go all [] (fun i v w => holds W.heap.size (kn (both L) i) v w) (fun i => (kn (both L) i).isRow) (fun ν => ∃ γ δ, Good δ (both L) ∧ ν = val (both L) γ δ) (fun ν => lay l.toArray ν all a) f hfuel ?_ hnd' hpart hrest hfr hsh (fun _ => rfl) hcls ?_ (fun w w' h hb => below_trans h hb) hS2 ?_ (fun _ h => by cases h) (fun _ h => by cases h) ?_
  · intro ν w M h
    obtain ⟨γ, δ, hg, hv⟩ := form ν w M h
    exact ⟨val (both L) γ δ, fun i hi hM => (hv i hi hM).symm, γ, δ, hg, rfl⟩
  · intro i _ v w w' h hb
    cases e : kn (both L) i with
    | is u =>
      simp only [e] at h ⊢
      exact h
    | row T zs =>
      simp only [e] at h ⊢
      obtain ⟨g, hg, h1, h2⟩ := h
      exact ⟨g, hg, h1, h2.below hb h2.lt⟩
    | some p =>
      simp only [e] at h ⊢
      exact h
  · rintro i hi o ho ν w ⟨γ, δ, hg, rfl⟩ hS _
    have h := ops_of (hop γ δ hg) (by rw [hall]; exact hi) o ho
    rw [← hfin γ δ] at h
    cases e : kn (both L) i with
    | is u =>
      rw [e] at h
      rcases h w hS with ⟨f, args, hr, hc⟩ | hr
      · refine .inr ⟨f, args, hr, hc.mono ?_⟩
        rintro x w' ⟨rfl, hb⟩
        refine ⟨u, rfl, hb, by simp only [e]; rfl, fun hn => ?_⟩
        simp [e, Know.isRow] at hn
      · refine .inl ⟨u, w, hr, Below.refl _ _, by simp only [e]; rfl, fun hn => ?_⟩
        simp [e, Know.isRow] at hn
    | row T zs =>
      rw [e] at h
      refine .inl ⟨_, _, h w, below_alloc (Below.refl _ _) _, ?_, fun _ g hg => ?_⟩
      · simp only [e]
        exact ⟨_, rfl, hS.size, Whole.new _ _ _⟩
      · simp only [blk, Option.some.injEq] at hg
        subst hg
        exact ⟨Nat.le_refl _, (Whole.new w T zs).lt⟩
    | some p =>
      rw [e] at h
      obtain ⟨f, args, hr, hc⟩ := h w hS
      refine .inr ⟨f, args, hr, hc.mono ?_⟩
      rintro x w' ⟨v, rfl, hp, hb⟩
      refine ⟨v, rfl, hb, by simp only [e]; exact hp, fun hn => ?_⟩
      simp [e, Know.isRow] at hn
  · intro ν w hS hallF hap
    obtain ⟨γ, δ, hg, hγ⟩ := form ν w (fun _ => True) (fun i hi _ => hallF i hi)
    have hlay : lay l.toArray ν all a = puts γ δ L a := by
      rw [← hfin γ δ]
      exact lay_congr (fun i hi => hγ i hi trivial) a
    rw [hlay]
    refine hend γ δ w hS hg (rows_of fun p hp T zs e => ?_) ?_
    · have hm : p.1 ∈ all := by rw [← hall]; exact List.mem_map_of_mem hp
      have h1 := hallF p.1 hm
      rw [hγ p.1 hm trivial] at h1
      unfold val at h1
      rw [hkn hp, e] at h1
      obtain ⟨g, hg, h2, h3⟩ := h1
      simp only [out] at hg
      cases hg
      exact ⟨h2, h3⟩
    · intro i j ri rj hi hj hne he
      have h1 := hap i hi j hj hne ri rj (γ i)
      rw [hγ i hi trivial, hγ j hj trivial] at h1
      unfold val at h1
      cases ei : kn (both L) i with
      | is u => simp [ei, Know.isRow] at ri
      | some p => simp [ei, Know.isRow] at ri
      | row T zs =>
        cases ej : kn (both L) j with
        | is u => simp [ej, Know.isRow] at rj
        | some p => simp [ej, Know.isRow] at rj
        | row T' zs' =>
          rw [ei, ej] at h1
          exact h1 rfl (by rw [he]; rfl)
theorem does_call {W : World} {o : Oper} {a : Act} {v : Value} (f : FuncId) (args : Array Value) (hr : ∀ w, (execOp a.eval o).run P w = .ok (.enter f args) w) (hc : ∀ w, Below W.heap.size W w → Calls P f args w fun e w' => e = .returned v ∧ Below w.heap.size w w') : Does P W o a (.is v) :=
  fun w hw => .inl ⟨f, args, hr w, hc w hw⟩
theorem does_take {W : World} {o : Oper} {a : Act} {v : Value} (hr : ∀ w, Below W.heap.size W w → (execOp a.eval o).run P w = .ok (.value v) w) : Does P W o a (.is v) :=
  fun w hw => .inr (hr w hw)
theorem does_some {W : World} {o : Oper} {a : Act} {p : Value → Prop} (f : FuncId) (args : Array Value) (hr : ∀ w, (execOp a.eval o).run P w = .ok (.enter f args) w) (hc : ∀ w, Below W.heap.size W w → Calls P f args w fun e w' => ∃ v, e = .returned v ∧ p v ∧ Below w.heap.size w w') : Does P W o a (.some p) :=
  fun w hw => ⟨f, args, hr w, hc w hw⟩

end
end FloatB
end Go.Proofs.Ytnopjjkijedpeaa
