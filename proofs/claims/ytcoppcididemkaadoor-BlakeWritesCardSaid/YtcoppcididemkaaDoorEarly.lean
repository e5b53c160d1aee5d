/- A call that returns one value in every world of a class and leaves the world as it is may be taken first in a region whose order Go leaves open. Nothing of the program. -/
import Derived.Test.YtcoppcididemkaaDoorQuiet
import Derived.Laws.CopyOwn
namespace Go.Proofs.YtcoppcididemkaaDoor
namespace Quiet
open Go.RowKit Mem

section
variable {P : Program} {ops : Array Oper} {Q : Exit → Act → World → Prop} {md : Region.Mode} {S : World → Prop}

/-- in every world of S this operation gives v, itself or by a call, and nothing else happens -/
def Early (P : Program) (ops : Array Oper) (S : World → Prop) (o : Oper) (v : Value) (a : Act) : Prop :=
  Region.wanted o (yielded ops a.tmps) = true ∧
  ∀ w, S w → ∃ n, (execOp a.eval o).run P w = .ok n w ∧ (n = .value v ∨ ∃ f args, n = .enter f args ∧ Calls P f args w fun e w' => e = .returned v ∧ w' = w)

theorem Early.carry {o : Oper} {v : Value} {a b : Act} (h : Early P ops S o v a) (he : execOp b.eval o = execOp a.eval o) (hw : Region.wanted o (yielded ops b.tmps) = Region.wanted o (yielded ops a.tmps)) : Early P ops S o v b := by
  unfold Early
  rw [he, hw]
  exact h

theorem Early.now {i : Nat} {o : Oper} {v : Value} {a : Act} (hi : ops[i]? = some o) (h : Early P ops S o v a) {K : Act → World → Prop} {w : World} (hS : S w) (hk : K (a.put o.dst v) w) : wpOp P ops Q i K a w := by
  obtain ⟨n, hr, hn⟩ := h.2 w hS
  simp only [wpOp, hi, h.1, if_true]
  refine .inl ?_
  unfold Oper.wp
  rw [hr]
  rcases hn with rfl | ⟨f, args, rfl, hc⟩
  · exact hk
  · refine Calls.mono hc ?_
    rintro e w' ⟨rfl, rfl⟩
    exact hk

/-- another operation, apart from this one, goes as it went with the value laid already -/
theorem Early.swap {j : Nat} {o p : Oper} {v : Value} (hj : ops[j]? = some p) (hap : o.apart ops p = true) (hso : ∀ cs b, o.op ≠ .select cs b) (hsp : ∀ cs b, p.op ≠ .select cs b)
    (hQ : ∀ c a w, Q (.panic c) (a.put o.dst v) w → Q (.panic c) a w) {K : Act → World → Prop} {a : Act} {w : World} (hy : Early P ops S o v a) (h : wpOp P ops Q j K (a.put o.dst v) w) :
    wpOp P ops Q j (fun a' w' => Early P ops S o v a' ∧ K (a'.put o.dst v) w') a w := by
  obtain ⟨h1, h2, h3⟩ := Oper.apart_spec hap
  have stay : ∀ (b : Act) (u : Value), Early P ops S o v b → Early P ops S o v (b.put p.dst u) := fun b u hb => hb.carry (execOp_put o hso b p.dst u h3) (wanted_put o b p.dst u h3)
  have eJ := execOp_put p hsp a o.dst v h1
  have nxt : ∀ (b : Act) (u : Value) (w' : World), Early P ops S o v b → K ((b.put o.dst v).put p.dst u) w' → Early P ops S o v (b.put p.dst u) ∧ K ((b.put p.dst u).put o.dst v) w' := fun b u w' hb hk => ⟨stay b u hb, by rw [← Act.put_comm b v u h2]; exact hk⟩
  simp only [wpOp, hj] at h ⊢
  rw [wanted_put p a o.dst v h1] at h
  by_cases hw : Region.wanted p (yielded ops a.tmps) = true
  · rw [if_pos hw] at h ⊢
    rcases h with h | ⟨k1, k2⟩
    · left
      unfold Oper.wp at h ⊢
      rw [eJ] at h
      cases hr : (execOp a.eval p).run P w with
      | ok n w' =>
        rw [hr] at h
        cases n with
        | value u => exact nxt a u w' hy h
        | skip => exact nxt a undef w' hy h
        | defer d =>
          have hd : Early P ops S o v { a with defers := d :: a.defers } := hy.carry rfl rfl
          refine nxt _ undef w' hd ?_
          rw [← Act.put_defers]
          exact h
        | enter f args =>
          refine Calls.mono h ?_
          intro e w2 he
          cases e with
          | returned u => exact nxt a u w2 hy he
          | panicked c => exact hQ _ _ _ he
          | outgrown => exact he
        | row r args => exact Rows.mono h fun u w2 he => nxt a u w2 hy he
        | _ => exact absurd h (by simp [Oper.upon])
      | halt x w' =>
        rw [hr] at h
        cases x with
        | panic u => exact hQ _ _ _ h
        | _ => exact absurd h (by simp [Oper.upon])
    · refine .inr ⟨?_, k2⟩
      unfold Oper.asks at k1 ⊢
      rw [eJ] at k1
      exact k1
  · rw [if_neg hw] at h ⊢
    exact nxt a undef w hy h

theorem early_first {i : Nat} {o : Oper} {v : Value} (hi : ops[i]? = some o) (hsel : ∀ (j : Nat) (p : Oper) cs b, ops[j]? = some p → p.op ≠ .select cs b) (hQ : ∀ c a w, Q (.panic c) (a.put o.dst v) w → Q (.panic c) a w) :
    ∀ (fuel : Nat) (listed : Array Bool) (a : Act) (w : World),
      (∀ j p, ops[j]? = some p → j ≠ i → listed.getD j true = false → (∀ e ∈ p.after, Region.binds md e = true → e.on ≠ i) → o.apart ops p = true) →
      i ∈ Region.ready md ops listed → Early P ops S o v a → S w → wpAnyH P md ops Q S fuel (listed.setIfInBounds i true) (a.put o.dst v) w → wpAnyH P md ops Q S (fuel + 1) listed a w := by
  intro fuel
  induction fuel with
  | zero =>
    intro listed a w _ hr hy hS H
    constructor
    · intro h0
      rw [h0] at hr
      cases hr
    · intro j hj
      by_cases e : j = i
      · subst e
        exact hy.now hi hS ⟨hS, H⟩
      · have := ready_mono hj e
        rw [H.1] at this
        cases this
  | succ fuel ih =>
    intro listed a w hfree hr hy hS H
    constructor
    · intro h0
      rw [h0] at hr
      cases hr
    · intro j hj
      by_cases e : j = i
      · subst e
        exact hy.now hi hS ⟨hS, H⟩
      · obtain ⟨hun, p, hp, hdone⟩ := mem_ready.1 hj
        have hiun := (mem_ready.1 hr).1
        have hno : ∀ d ∈ p.after, Region.binds md d = true → d.on ≠ i := by
          intro d hd hb hq
          have hl := hdone d hd hb
          rw [hq] at hl
          rcases Nat.lt_or_ge i listed.size with hlt | hge
          · simp [hlt] at hiun hl
            rw [hiun] at hl
            cases hl
          · simp [Array.getElem?_eq_none hge] at hl
        refine wpOp_mono ?_ (hy.swap hp (hfree j p hp e hun hno) (fun cs b => hsel i o cs b hi) (fun cs b => hsel j p cs b hp) hQ (H.2 j (ready_mono hj e)))
        rintro a' w' ⟨hy', hS', hrest⟩
        refine ⟨hS', ih (listed.setIfInBounds j true) a' w' ?_ (ready_mono hr (Ne.symm e)) hy' hS' ?_⟩
        · intro k q hq hki hku hkn
          refine hfree k q hq hki ?_ hkn
          by_cases ejk : j = k
          · subst ejk
            exact hun
          · rw [getD_set_ne true ejk] at hku
            exact hku
        · rw [Array.setIfInBounds_comm _ _ e]
          exact hrest

theorem take_call {l : List Oper} {fuel : Nat} {listed : Array Bool} {a : Act} {w : World} {o : Oper} {rest : List Oper} (k : Nat) (v : Value) (f : FuncId) (args : Array Value) (ho : l.drop k = o :: rest) (hs : Region.noSelect l.toArray = true) (hf : Region.free .any l.toArray listed k = true) (hr : (Region.ready .any l.toArray listed).contains k = true)
    (hQ : ∀ c a w, Q (.panic c) (a.put o.dst v) w → Q (.panic c) a w) (hw : Region.wanted o (yielded l.toArray a.tmps) = true) (hS : S w)
    (hrun : ∀ w, (execOp a.eval o).run P w = .ok (.enter f args) w) (hc : ∀ w, S w → Calls P f args w fun e w' => e = .returned v ∧ w = w')
    (h : wpAnyH P .any l.toArray Q S fuel (listed.setIfInBounds k true) (a.put o.dst v) w) : wpAnyH P .any l.toArray Q S (fuel + 1) listed a w :=
  early_first (drop_get ho) (Region.noSelect_spec hs) hQ fuel listed a w (Region.free_spec (drop_get ho) hf) (by simpa using hr)
    ⟨hw, fun w hS => ⟨_, hrun w, .inr ⟨f, args, rfl, (hc w hS).mono fun _ _ ⟨h1, h2⟩ => ⟨h1, h2.symm⟩⟩⟩⟩ hS h
theorem run_load_op {o : Oper} {a : Act} {w : World} (ty : TypeId) (x : Operand) (ho : o.op = .load ty x) (g : Nat) (hx : a.eval x = .pointer (some ⟨g, 0, none⟩)) {t : TypeId} {cs : Array Value} {d : TypeDesc} (hg : Whole w g t cs)
    (hu : P.underlying ty = some d) (hd : (match d with | .struct _ | .array _ _ => true | _ => false) = true) (hi : (P.info? ty).map (·.size) = some cs.size) : (execOp a.eval o).run P w = .ok (.value (.agg cs)) w := by
  unfold execOp
  simp only [ho, hx, Instr.loadAt, Instr.sureAddr, Sem.run_bind, Sem.run_pure, Result.andThen_ok, run_loadVar_row w g t ty cs (0, 0) d hg hu hd hi]
/-- the foot of a region: a call whose value is laid into a new variable, which may be made before or behind the call -/
theorem call_alloc_store {l : List Oper} {fuel : Nat} {listed : Array Bool} {a : Act} {w W : World} (k1 k2 k3 : Nat) {o1 o2 o3 : Oper} {r1 r2 r3 : List Oper} (f : FuncId) (args : Array Value) (T : TypeId) (d1 d2 : Tmp) (zs cs : Array Value)
    (h1 : l.drop k1 = o1 :: r1) (h2 : l.drop k2 = o2 :: r2) (h3 : l.drop k3 = o3 :: r3)
    (hr : Region.ready .any l.toArray listed = [k1, k2]) (hra : Region.ready .any l.toArray (listed.setIfInBounds k1 true) = [k2]) (hrb : Region.ready .any l.toArray (listed.setIfInBounds k2 true) = [k1])
    (hr3 : Region.ready .any l.toArray ((listed.setIfInBounds k1 true).setIfInBounds k2 true) = [k3]) (hr4 : Region.ready .any l.toArray (((listed.setIfInBounds k1 true).setIfInBounds k2 true).setIfInBounds k3 true) = [])
    (hk : k1 ≠ k2) (g1 : o1.guard = none) (g2 : o2.guard = none) (g3 : o3.guard = none) (hd1 : o1.dst = some d1) (hd2 : o2.dst = some d2) (hd3 : o3.dst = none) (hd : d1 ≠ d2) (hz1 : d1 < a.tmps.size) (hz2 : d2 < a.tmps.size)
    (hst : o3.op = .store T (.tmp d2) (.tmp d1)) (hal : ∀ (a : Act) w, (execOp a.eval o2).run P w = .ok (.value (.pointer (some ⟨w.heap.size, 0, none⟩))) (w.alloc (.cells zs T)))
    (ht : (P.info? T).map (·.size) = some cs.size) (hz : zs.size = cs.size) (hone : cs.all (·.oneCell') = true)
    (hrun : ∀ w, (execOp a.eval o1).run P w = .ok (.enter f args) w) (hrun' : ∀ p w, (execOp (a.put (some d2) p).eval o1).run P w = .ok (.enter f args) w)
    (hc : ∀ w, Below W.heap.size W w → Calls P f args w fun e w' => e = .returned (.agg cs) ∧ Below w.heap.size w w')
    (hS : Below W.heap.size W w)
    (h : ∀ g w', W.heap.size ≤ g → Whole w' g T cs → Below W.heap.size W w' → Q .normal ((a.put (some d1) (.agg cs)).put (some d2) (.pointer (some ⟨g, 0, none⟩))) w') :
    wpAnyH P .any l.toArray Q (fun w' => Below W.heap.size W w') (fuel + 3) listed a w := by
  have want : ∀ (o : Oper) (x : Array Value), o.guard = none → Region.wanted o (yielded l.toArray x) = true := fun o x hg => by simp [Region.wanted, hg]
  have fin : ∀ g w1, W.heap.size ≤ g → Whole w1 g T zs → Below W.heap.size W w1 → wpAnyH P .any l.toArray Q (fun w' => Below W.heap.size W w') (fuel + 1) ((listed.setIfInBounds k1 true).setIfInBounds k2 true) ((a.put (some d1) (.agg cs)).put (some d2) (.pointer (some ⟨g, 0, none⟩))) w1 := by
    intro g w1 hg hw1 hb1
    refine wpAnyH_ready hr3 (by simp) (AllReadyH.cons (drop_get h3) (fun K hK => ?_) AllReadyH.nil)
    rw [if_pos (want _ _ g3)]
    refine wp_store_row T (.tmp d2) (.tmp d1) hst g cs (by simp [Act.eval, Act.put, hz2]) (by simp [Act.eval, Act.put, hz1, Ne.symm hd]) T zs hw1 ht hz hone ?_
    rw [hd3]
    have hb2 := below_setRow hb1 hg cs
    exact hK.out _ _ hb2 fun _ => region_end hr4 (h g _ hg (setRow_heap w1 g _ _ _ _ hw1) hb2)
  refine wpAnyH_ready hr (by simp) (AllReadyH.cons (drop_get h1) (fun K hK => ?_) (AllReadyH.cons (drop_get h2) (fun K hK => ?_) AllReadyH.nil))
  · rw [if_pos (want _ _ g1)]
    unfold Oper.wp
    rw [hrun w]
    refine Calls.mono (hc w hS) ?_
    rintro e w1 ⟨rfl, hb⟩
    have hS1 := below_trans hS hb
    refine hK.out _ _ hS1 fun _ => ?_
    refine wpAnyH_ready hra (by simp) (AllReadyH.cons (drop_get h2) (fun K hK => ?_) AllReadyH.nil)
    rw [if_pos (want _ _ g2)]
    unfold Oper.wp
    rw [hal]
    refine hK.out _ _ (below_alloc hS1 _) fun _ => ?_
    rw [hd1, hd2]
    exact fin _ _ hS1.size (Whole.new _ _ _) (below_alloc hS1 _)
  · rw [if_pos (want _ _ g2)]
    unfold Oper.wp
    rw [hal]
    refine hK.out _ _ (below_alloc hS _) fun hS1 => ?_
    refine wpAnyH_ready hrb (by simp) (AllReadyH.cons (drop_get h1) (fun K hK => ?_) AllReadyH.nil)
    rw [if_pos (want _ _ g1)]
    unfold Oper.wp
    rw [hd2, hrun' _ _]
    refine Calls.mono (hc _ hS1) ?_
    rintro e w1 ⟨rfl, hb⟩
    have hS2 := below_trans hS1 hb
    refine hK.out _ _ hS2 fun _ => ?_
    rw [hd1, Array.setIfInBounds_comm _ _ (Ne.symm hk), ← Act.put_comm a (.agg cs) _ (by intro d e1 e2; cases e1; cases e2; exact hd rfl)]
    exact fin _ _ hS.size ((Whole.new _ _ _).below hb (by simp)) hS2
end

end Quiet
end Go.Proofs.YtcoppcididemkaaDoor
