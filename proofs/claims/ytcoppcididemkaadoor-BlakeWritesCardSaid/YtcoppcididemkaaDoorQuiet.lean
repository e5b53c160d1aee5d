/- A region whose order Go leaves open, of which each operation yields one value in every world of a class and leaves a world of the class: one walk in the order of the text, by laws on single operations. Nothing of the program. -/
import Derived.BigQuiet
import Derived.Deep.RegionHeld3
import Derived.Test.YtcoppcididemkaaDoorStr
namespace Go.Proofs.YtcoppcididemkaaDoor
namespace Quiet
open Go.RowKit Mem

section
variable {P : Program} {o : Oper} {a : Act} {C : World → Prop} {K : Act → Prop}

/-- what yields its value in whatever world -/
theorem quiet_pure (v : Value) (h : ∀ w, (execOp a.eval o).run P w = .ok (.value v) w) (hk : K (a.put o.dst v)) : o.quiet P a C K :=
  ⟨v, fun w _ => by unfold Oper.quietAt; rw [h w]; exact ⟨rfl, rfl⟩, hk⟩

/-- 'string(b)' of a slice that reads alike in every world of the class -/
theorem quiet_string (src dst e : TypeId) (x : Operand) (ho : o.op = .convert src dst x) {A : Option Addr} {n c : Nat} {f : Nat → Nat} (hx : a.eval x = .slice A n c)
    (hs : P.underlying src = some (.slice e)) (he : P.underlying e = some (.int .u8)) (hd : P.underlying dst = some .string)
    (h : ∀ w, C w → Rd w A n f) (hk : K (a.put o.dst (.string (strOf f n)))) : o.quiet P a C K := by
  refine ⟨_, fun w hw => ?_, hk⟩
  unfold Oper.quietAt
  have : (execOp a.eval o).run P w = .ok (.value (.string (strOf f n))) w := by
    unfold execOp
    simp only [ho, hx, Sem.run_bind, run_string_of src dst e hs he hd (h w hw), Result.andThen_ok, Sem.run_pure]
  rw [this]
  exact ⟨rfl, rfl⟩

/-- a call, by its contract -/
theorem quiet_call (f : FuncId) (args : Array Value) (v : Value) (hr : ∀ w, (execOp a.eval o).run P w = .ok (.enter f args) w)
    (hc : ∀ w, C w → Calls P f args w fun e w' => e = .returned v ∧ C w') (hk : K (a.put o.dst v)) : o.quiet P a C K := by
  refine ⟨v, fun w hw => ?_, hk⟩
  unfold Oper.quietAt
  rw [hr w]
  exact ⟨rfl, hc w hw⟩
end

theorem region_class {P : Program} {C : World → Prop} {id : Nat} {Q : Exit → Act → World → Prop} {a : Act} {w : World} {l : List Oper} (hm : P.follows .mixedOrders = true) (hB : Region.lexB .any l.toArray = true) (hC : C w.drew)
    (h : wpQuiet P l.toArray C (fun a' => ∀ w', C w' → Q .normal a' w') l a) : (Code.region id l.toArray true).wp P Q a w :=
  wp_region_quiet (C := C) hm hB hC (by simpa using h)

/-! ### one order after the other, by hand: what yields alike in every world that meets S is taken first; what alone may come up is carried out -/
section
variable {P : Program} {Q : Exit → Act → World → Prop} {S : World → Prop} {l : List Oper} {fuel k : Nat} {listed : Array Bool} {a : Act} {w : World} {o : Oper} {rest : List Oper}

theorem drop_get (ho : l.drop k = o :: rest) : l.toArray[k]? = some o := by
  have : l[k]? = (l.drop k)[0]? := by rw [List.getElem?_drop, Nat.add_zero]
  rw [List.getElem?_toArray, this, ho]
  rfl

theorem region_start {id : Nat} (S : World → Prop) (hm : P.follows .mixedOrders = true) (hS : S w.drew) (h : ∀ w', S w' → wpAnyH P .any l.toArray Q S l.length (Array.replicate l.length false) a w') : (Code.region id l.toArray true).wp P Q a w :=
  wp_region_held_drew (S := S) hm hS fun hS => by simpa using h _ hS

theorem region_drew {id : Nat} (S : World → Prop) (hm : P.follows .mixedOrders = true) (hS : S w.drew) (h : S w.drew → wpAnyH P .any l.toArray Q S l.length (Array.replicate l.length false) a w.drew) : (Code.region id l.toArray true).wp P Q a w :=
  wp_region_held_drew (S := S) hm hS fun hS => by simpa using h hS

theorem take (k : Nat) (v : Value) (ho : l.drop k = o :: rest) (hs : Region.noSelect l.toArray = true) (hf : Region.free .any l.toArray listed k = true) (hr : (Region.ready .any l.toArray listed).contains k = true)
    (hQ : ∀ c a w, Q (.panic c) (a.put o.dst v) w → Q (.panic c) a w) (hw : Region.wanted o (yielded l.toArray a.tmps) = true) (hS : S w) (hy : ∀ w, S w → (execOp a.eval o).run P w = .ok (.value v) w)
    (h : wpAnyH P .any l.toArray Q S fuel (listed.setIfInBounds k true) (a.put o.dst v) w) : wpAnyH P .any l.toArray Q S (fuel + 1) listed a w :=
  wpAnyH_take (drop_get ho) hs hf hr hQ (.inl ⟨hw, hy⟩) hS h

theorem pass (k : Nat) (ho : l.drop k = o :: rest) (hs : Region.noSelect l.toArray = true) (hf : Region.free .any l.toArray listed k = true) (hr : (Region.ready .any l.toArray listed).contains k = true)
    (hQ : ∀ c a w, Q (.panic c) (a.put o.dst undef) w → Q (.panic c) a w) (hw : Region.wanted o (yielded l.toArray a.tmps) = false) (hS : S w)
    (h : wpAnyH P .any l.toArray Q S fuel (listed.setIfInBounds k true) (a.put o.dst undef) w) : wpAnyH P .any l.toArray Q S (fuel + 1) listed a w :=
  wpAnyH_take (drop_get ho) hs hf hr hQ (.inr ⟨hw, rfl⟩) hS h

theorem alone (k : Nat) (ho : l.drop k = o :: rest) (hr : Region.ready .any l.toArray listed = [k]) (hw : Region.wanted o (yielded l.toArray a.tmps) = true)
    (h : ∀ K : Act → World → Prop, Shut (∀ a w, S w → wpAnyH P .any l.toArray Q S fuel (listed.setIfInBounds k true) a w → K a w) → Oper.wp P o a w K Q) : wpAnyH P .any l.toArray Q S (fuel + 1) listed a w :=
  wpAnyH_ready hr (by simp) (AllReadyH.cons (drop_get ho) (fun K hK => by rw [if_pos hw]; exact h K (fun a w h1 h2 => hK.out a w h1 (fun _ => h2))) AllReadyH.nil)

theorem alone_run (k : Nat) (v : Value) (ho : l.drop k = o :: rest) (hr : Region.ready .any l.toArray listed = [k]) (hw : Region.wanted o (yielded l.toArray a.tmps) = true) (hS : S w)
    (hrun : (execOp a.eval o).run P w = .ok (.value v) w) (h : wpAnyH P .any l.toArray Q S fuel (listed.setIfInBounds k true) (a.put o.dst v) w) : wpAnyH P .any l.toArray Q S (fuel + 1) listed a w :=
  alone k ho hr hw fun K hK => by
    unfold Oper.wp
    rw [hrun]
    exact hK.out _ _ hS h

theorem region_end (hr : Region.ready .any l.toArray listed = []) (h : Q .normal a w) : wpAnyH P .any l.toArray Q S fuel listed a w := wpAnyH_done hr h fuel
end

theorem run_string_op {P : Program} {o : Oper} {a : Act} {w : World} (src dst e : TypeId) (x : Operand) (ho : o.op = .convert src dst x) {A : Option Addr} {n c : Nat} {f : Nat → Nat} (hx : a.eval x = .slice A n c)
    (hs : P.underlying src = some (.slice e)) (he : P.underlying e = some (.int .u8)) (hd : P.underlying dst = some .string)
    (h : Rd w A n f) : (execOp a.eval o).run P w = .ok (.value (.string (strOf f n))) w := by
  unfold execOp
  simp only [ho, hx, Sem.run_bind, run_string_of src dst e hs he hd h, Result.andThen_ok, Sem.run_pure]

end Quiet
end Go.Proofs.YtcoppcididemkaaDoor
