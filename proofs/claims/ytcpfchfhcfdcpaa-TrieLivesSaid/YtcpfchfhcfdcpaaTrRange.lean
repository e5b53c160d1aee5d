/- A range over a function whose elements are those of a list that is known: each round comes in its turn. -/
import Derived.Test.YtcpfchfhcfdcpaaTrByt
import Derived.RangeFuncBound
import Derived.RangeFuncCalls
import Derived.RangeFuncLeaves
import Derived.RangeFuncWrites
import Derived.Shelf.Abstract
import Derived.WalkKit
import Derived.OwnWalkIn
import Derived.TacticsInMore
import Derived.LoopNIn
import Derived.LoopIn
namespace Go.Proofs.Ytcpfchfhcfdcpaa
namespace Tri
open Go.RowKit Go.Shelf
open Num Mem

/-- what lay below n₀, and all cells, lie as they lay -/
structure KC (n₀ : Nat) (W W' : World) : Prop where
  low : Below n₀ W W'
  same : ∀ (k : Nat) (o : Obj), W.heap[k]? = some o → o.isCells = true → W'.heap[k]? = some o
theorem KC.of_below {n₀ : Nat} {W W' : World} (hn : n₀ ≤ W.heap.size) (h : Below W.heap.size W W') : KC n₀ W W' :=
  ⟨h.mono hn, fun k _ hk _ => (h.block k (Array.getElem?_eq_some_iff.1 hk).1).trans hk⟩
theorem KC.put {n₀ : Nat} {W : World} {l : Nat} {o : Obj} (o' : Obj) (hl : W.heap[l]? = some o) (ho : o.isCells = false) (hn : n₀ ≤ l) : KC n₀ W (W.putObj l o') :=
  ⟨(Below.refl n₀ W).grown (grownBy_putObj' W l o') (by have := (Array.getElem?_eq_some_iff.1 hl).1; omega) (fun k e => by cases e; omega), fun k ok hk hc => by
    by_cases e : k = l
    · subst e; rw [hl] at hk; cases hk; rw [ho] at hc; cases hc
    · exact (World.putObj_heap_other e).trans hk⟩
/-- blocks that stay as well -/
def Sm (G : Nat → Prop) (W W' : World) : Prop := ∀ k, G k → W'.heap[k]? = W.heap[k]?
theorem Sm.trans {G : Nat → Prop} {X Y Z : World} (h : Sm G X Y) (k : Sm G Y Z) : Sm G X Z := fun i hi => (k i hi).trans (h i hi)
/-- the round's end -/
def endOf {α : Type} (B n₀ : Nat) (G : Nat → Prop) (I Ix : List α → World → Prop) (xs : List α) (W : World) : Exit → Act → World → Prop
  | .normal, _, W' => KeepsFrom B W W' ∧ Below n₀ W W' ∧ Sm G W W' ∧ I xs W'
  | .ret, _, W' => KeepsFrom B W W' ∧ Ix xs W'
  | .exit _, _, _ => False
  | .goto _, _, _ => False
  | .panic _, _, _ => False
  | .outgrown, _, _ => False
/-- what an iterator owes that hands out the elements of L, one behind the other -/
def Tells {α : Type} (P : Program) (n₀ : Nat) (G : Nat → Prop) (gf : Nat) (lb : Array Value) (encs : α → Array Value) (L : List α) (w : World) : Prop :=
  ∀ (l : Nat) (J Jx : List α → World → Prop) (W : World), Below n₀ w W → n₀ ≤ W.heap.size → Below w.heap.size w W →
    (∀ pre X Y, J pre X → Below X.heap.size X Y → J pre Y) → (∀ pre X Y, Jx pre X → Below X.heap.size X Y → Jx pre Y) →
    (∀ m pre x X, J pre X → pre ++ [x] <+: L → YieldAt Fence.wide m P l (encs x) X fun e Y => (e = .returned (.bool true) ∧ J (pre ++ [x]) Y ∧ Below n₀ X Y ∧ Sm G X Y) ∨ (e = .returned (.bool false) ∧ Jx (pre ++ [x]) Y)) →
    J [] W → Calls P gf (#[.func (.yield l) #[] #[]] ++ lb) W fun e Y => (∃ v, e = .returned v) ∧ (J L Y ∨ ∃ pre, pre <+: L ∧ Jx pre Y)
theorem zip1 (p : Tmp) (v : Value) (T : Array Value) : (#[p].zip #[v]).foldl (fun t q => t.setIfInBounds q.1 q.2) T = T.setIfInBounds p v := by simp
theorem range_known {α : Type} {P : Program} {g : Operand} {ps : Array Tmp} {assign body : Code} {Q : Exit → Act → World → Prop} {a : Act} {w : World} {n : Nat} {gf : Nat} {lb : Array Value}
    (hg : a.eval g = .func (.func gf) #[] lb) (eg : ∀ args w, (callFunc gf args).run P w = .ok (.enter gf args) w)
    (n₀ : Nat) (hn : n₀ ≤ w.heap.size) (encs : α → Array Value) (hps : ∀ x, (encs x).size = ps.size) (L : List α) (w0 : World) (hw0 : Below w0.heap.size w0 w) (hw1 : Below n₀ w0 w) (G : Nat → Prop) (hG : ∀ k, G k → k < w.heap.size) (hseq : Tells P n₀ G gf lb encs L w0)
    (I Ix : List α → World → Prop) (hI : ∀ pre X Y, I pre X → KC n₀ X Y → I pre Y) (hIx : ∀ pre X Y, Ix pre X → KC n₀ X Y → Ix pre Y) (h0 : I [] w)
    (hround : ∀ (l : Nat) (pre : List α) (x : α) (W : World), I pre W → pre ++ [x] <+: L → w.heap.size ≤ W.heap.size →
      assign.wpIn (Fence.wide.inRound l) n P (Exit.then (fun a' W' => KeepsFrom w.heap.size W W' ∧ Below n₀ W W' ∧ Sm G W W' ∧ ∀ W'', KC n₀ W' W'' → body.wpIn (Fence.wide.inRound l) n P (endOf w.heap.size n₀ G I Ix (pre ++ [x]) W'') a' W'') (fun _ _ _ => False))
        { tmps := (ps.zip (encs x)).foldl (fun t q => t.setIfInBounds q.1 q.2) a.tmps, defers := [] } W)
    (hdone : ∀ W, I L W → W.heap[w.heap.size]? = some (.deferred (some [])) → w.heap.size < W.heap.size → Q .normal { a with defers := { target := .collected w.heap.size, args := #[] } :: a.defers } W)
    (hstop : ∀ pre W, pre <+: L → Ix pre W → W.heap[w.heap.size]? = some (.deferred (some [])) → w.heap.size < W.heap.size → Code.ret.wpIn Fence.wide n P Q { a with defers := { target := .collected w.heap.size, args := #[] } :: a.defers } W) :
    (Code.rangeFunc g ps assign body).wpIn Fence.wide n P Q a w := by
  refine wpIn_rangeFunc fun fn hfn => ?_
  obtain ⟨B, hB⟩ : ∃ B, w.heap.size = B := ⟨_, rfl⟩
  obtain ⟨rec, hrec⟩ : ∃ rec : LoopState → Option Code → Loop, rec = fun st pe => { state := st, pending := pe, fn, tmps := a.tmps, params := ps, assign, body, defers := B } := ⟨_, rfl⟩
  have rs : ∀ st pe, (rec st pe).state = st ∧ (rec st pe).params = ps ∧ (rec st pe).pending = pe := fun st pe => by rw [hrec]; exact ⟨rfl, rfl, rfl⟩
  have hA : (Instr.enterLoop fn a.tmps ps assign body none).run P w = .ok (B + 1, [{ target := .collected B, args := #[] }]) ((w.alloc (.deferred (some []))).alloc (.loop (rec .ready none))) := by
    rw [hrec, ← hB]; exact run_enterLoop_outer _ _ _ _ _
  have b1 : Below w.heap.size w ((w.alloc (.deferred (some []))).alloc (.loop (rec .ready none))) := ((Below.refl _ w).alloc (Nat.le_refl _) _).alloc (by simp) _
  have hD : ((w.alloc (.deferred (some []))).alloc (.loop (rec .ready none))).heap[B]? = some (.deferred (some [])) := by
    rw [← hB]; exact (Below.heap_alloc _ _ _ (by simp)).trans (World.alloc_heap_new w _)
  have hL : ((w.alloc (.deferred (some []))).alloc (.loop (rec .ready none))).heap[B + 1]? = some (.loop (rec .ready none)) := by
    have := World.alloc_heap_new (w.alloc (.deferred (some []))) (.loop (rec .ready none)); rwa [World.size_alloc, hB] at this
  have hI0 : I [] ((w.alloc (.deferred (some []))).alloc (.loop (rec .ready none))) := hI _ _ _ h0 (KC.of_below hn b1)
  generalize (w.alloc (.deferred (some []))).alloc (.loop (rec .ready none)) = W1 at hA b1 hD hL hI0
  rw [hB] at hround hdone hstop hn hG
  have hsz := b1.size
  refine ⟨B + 1, [{ target := .collected B, args := #[] }], W1, { target := .fn (.func gf) lb, args := #[.func (.yield (B + 1)) #[] #[]] }, W1, gf, #[.func (.yield (B + 1)) #[] #[]] ++ lb, W1, hA, ?_, fun _ _ => trivial, ?_, (fun h => by cases h), ?_⟩
  · simp only [resolve, hg]
    simp [go_sem]
  · simp [invoke, go_sem, eg]
  refine callsIn_wide.2 ((hseq (B + 1) (fun pre W => I pre W ∧ W.heap[B + 1]? = some (.loop (rec .ready none)) ∧ W.heap[B]? = some (.deferred (some [])))
    (fun pre W => pre <+: L ∧ Ix pre W ∧ W.heap[B + 1]? = some (.loop (rec .done (some .ret))) ∧ W.heap[B]? = some (.deferred (some []))) W1 (hw1.trans (b1.mono (by omega))) (by omega) (hw0.trans (b1.mono hw0.size))
    ?_ ?_ ?_ ⟨hI0, hL, hD⟩).mono ?_)
  · rintro pre X Y ⟨i, h1, h2⟩ hb
    have hx := (Array.getElem?_eq_some_iff.1 h1).1
    exact ⟨hI _ _ _ i (KC.of_below (by omega) hb), (hb.block _ hx).trans h1, (hb.block _ (by omega)).trans h2⟩
  · rintro pre X Y ⟨hp, i, h1, h2⟩ hb
    have hx := (Array.getElem?_eq_some_iff.1 h1).1
    exact ⟨hp, hIx _ _ _ i (KC.of_below (by omega) hb), (hb.block _ hx).trans h1, (hb.block _ (by omega)).trans h2⟩
  · rintro m pre x X ⟨hi, hl, hd⟩ hpre
    have hlt := (Array.getElem?_eq_some_iff.1 hl).1
    have hy := run_yield (P := P) (args := encs x) hl (by rw [(rs _ _).2.1]; exact hps x)
    rw [hrec] at hy
    refine ⟨fn, _, assign, body, hy, ?_⟩
    have key : RoundIn Fence.wide n P (B + 1) fn ((ps.zip (encs x)).foldl (fun t (p, v) => t.setIfInBounds p v) a.tmps) assign body X fun e Y => (e = .returned (.bool true) ∧ (I (pre ++ [x]) Y ∧ Y.heap[B + 1]? = some (.loop (rec .ready none)) ∧ Y.heap[B]? = some (.deferred (some []))) ∧ Below n₀ X Y ∧ Sm G X Y) ∨ (e = .returned (.bool false) ∧ (pre ++ [x] <+: L ∧ Ix (pre ++ [x]) Y ∧ Y.heap[B + 1]? = some (.loop (rec .done (some .ret))) ∧ Y.heap[B]? = some (.deferred (some [])))) := by
      refine roundIn_of_wpIn hfn (wpIn_mono (hround (B + 1) pre x X hi hpre (by omega)) ?_)
      intro e a' W' hW'
      cases e <;> first | exact hW' | skip
      obtain ⟨hkf, hbl, hsm, hbody⟩ := hW'
      have hl1 := hkf.same _ _ (by omega) hl rfl
      have hd1 := hkf.same _ _ (Nat.le_refl _) hd rfl
      have hlt1 := (Array.getElem?_eq_some_iff.1 hl1).1
      refine ⟨_, run_beginRound hl1 (rs _ _).1, ?_⟩
      have hkc := KC.put (n₀ := n₀) (.loop { rec .ready none with state := .busy }) hl1 rfl (by omega)
      have hl2 : (W'.putObj (B + 1) (.loop { rec .ready none with state := .busy })).heap[B + 1]? = some (.loop { rec .ready none with state := .busy }) := World.putObj_heap_same hlt1
      have hd2 := (World.putObj_heap_other (w := W') (o := .loop { rec .ready none with state := .busy }) (show B ≠ B + 1 by omega)).trans hd1
      have hsm2 : Sm G W' (W'.putObj (B + 1) (.loop { rec .ready none with state := .busy })) := fun k hk => World.putObj_heap_other (by have := hG k hk; omega)
      have hbb := hbody _ hkc
      generalize W'.putObj (B + 1) (.loop { rec .ready none with state := .busy }) = W2 at hkc hl2 hd2 hbb hsm2
      refine wpIn_mono hbb ?_
      intro e a3 W3 hp
      cases e with
      | normal =>
        obtain ⟨hk3, hb3, hs3, hi3⟩ := hp
        have hl3 := hk3.same _ _ (by omega) hl2 rfl
        have hd3 := hk3.same _ _ (Nat.le_refl _) hd2 rfl
        have hr := run_endRound (P := P) none hl3
        have hc3 := KC.put (n₀ := n₀) (.loop (rec .ready none)) hl3 rfl (by omega)
        rw [hrec] at hr
        refine ⟨_, _, hr, .inl ⟨rfl, ⟨?_, ?_, ?_⟩, ?_, ?_⟩⟩
        · rw [hrec] at hc3; exact hI _ _ _ hi3 hc3
        · rw [hrec]; exact World.putObj_heap_same (Array.getElem?_eq_some_iff.1 hl3).1
        · exact (World.putObj_heap_other (by omega)).trans hd3
        · rw [hrec] at hc3; exact hbl.trans (hkc.low.trans (hb3.trans hc3.low))
        · exact hsm.trans (hsm2.trans (hs3.trans (fun k hk => World.putObj_heap_other (by have := hG k hk; omega))))
      | ret =>
        obtain ⟨hk3, hi3⟩ := hp
        have hl3 := hk3.same _ _ (by omega) hl2 rfl
        have hd3 := hk3.same _ _ (Nat.le_refl _) hd2 rfl
        have hr := run_endRound (P := P) (some .ret) hl3
        have hc3 := KC.put (n₀ := n₀) (.loop (rec .done (some .ret))) hl3 rfl (by omega)
        rw [hrec] at hr
        refine ⟨_, _, hr, .inr ⟨rfl, hpre, ?_, ?_, ?_⟩⟩
        · rw [hrec] at hc3; exact hIx _ _ _ hi3 hc3
        · rw [hrec]; exact World.putObj_heap_same (Array.getElem?_eq_some_iff.1 hl3).1
        · exact (World.putObj_heap_other (by omega)).trans hd3
      | exit id => exact hp.elim
      | goto t => exact hp.elim
      | panic c => exact hp.elim
      | outgrown => exact hp.elim
    exact ⟨key.1, fun c cs _ => key.2 c cs (fun d h => (by cases h))⟩
  · rintro e Y ⟨⟨v, rfl⟩, ⟨hi, hl, hd⟩ | ⟨pre, _, hp, hi, hl, hd⟩⟩
    · have hlt := (Array.getElem?_eq_some_iff.1 hl).1
      have hr := run_endLoop (P := P) hl (by rw [(rs _ _).1]; simp)
      rw [(rs _ _).2.2] at hr
      exact ⟨none, _, hr, hdone _ (hI _ _ _ hi (KC.put _ hl rfl (by omega))) ((World.putObj_heap_other (by omega)).trans hd) (by simp; omega)⟩
    · have hlt := (Array.getElem?_eq_some_iff.1 hl).1
      have hr := run_endLoop (P := P) hl (by rw [(rs _ _).1]; simp)
      rw [(rs _ _).2.2] at hr
      exact ⟨some .ret, _, hr, hstop pre _ hp (hIx _ _ _ hi (KC.put _ hl rfl (by omega))) ((World.putObj_heap_other (by omega)).trans hd) (by simp; omega)⟩
end Tri
end Go.Proofs.Ytcpfchfhcfdcpaa
