/- Blocks that are told apart, and what lies in each. Nothing of the program. -/
import Derived.Test.YtpdgnknabjigbaaKit
namespace Go.Proofs.Ytpdgnknabjigbaa
namespace Kept
open Mem Go.RowKit Go.ChangeAt Go.ChangeShapes Go.WideShapes

def Kp (B : Nat) (X : World) (l : List (Nat × (Obj → Prop))) : Prop := (l.map (·.1)).Nodup ∧ ∀ p ∈ l, B ≤ p.1 ∧ ∃ o, X.heap[p.1]? = some o ∧ p.2 o
def WF (t : TypeId) (cs : Array Value) (o : Obj) : Prop := o = .cells cs t
def OF (t : TypeId) (n c : Nat) (f : Nat → Nat) (o : Obj) : Prop := ∃ cur, o = .cells cur t (0, 0) ∧ n ≤ c ∧ c ≤ maxLen ∧ cur.size = c * 1 ∧ cur.toList.take (n * 1) = byteCells f n

theorem lt_of_get {X : World} {g : Nat} {o : Obj} (h : X.heap[g]? = some o) : g < X.heap.size := (Array.getElem?_eq_some_iff.1 h).1
section
variable {B : Nat} {X Y : World} {l l' : List (Nat × (Obj → Prop))}
theorem Kp.nil (B : Nat) (X : World) : Kp B X [] := ⟨List.nodup_nil, fun p hp => by cases hp⟩
theorem Kp.lt (h : Kp B X l) {p : Nat × (Obj → Prop)} (hp : p ∈ l) : B ≤ p.1 ∧ p.1 < X.heap.size := by
  obtain ⟨h1, o, h2, _⟩ := h.2 p hp
  exact ⟨h1, lt_of_get h2⟩
theorem Kp.below (h : Kp B X l) (hb : Below X.heap.size X Y) : Kp B Y l := ⟨h.1, fun p hp => by
  obtain ⟨h1, o, h2, h3⟩ := h.2 p hp
  exact ⟨h1, o, (hb.block _ (lt_of_get h2)).trans h2, h3⟩⟩
theorem Kp.of (h : Kp B X l) (hn : (l'.map (·.1)).Nodup) (hs : ∀ p ∈ l', p ∈ l) : Kp B X l' := ⟨hn, fun p hp => h.2 p (hs p hp)⟩
theorem Kp.drop {p : Nat × (Obj → Prop)} (h : Kp B X (p :: l)) : Kp B X l := h.of (by have := h.1; rw [List.map_cons, List.nodup_cons] at this; exact this.2) fun q hq => List.mem_cons_of_mem _ hq
theorem Kp.new (h : Kp B X l) (hB : B ≤ X.heap.size) {g : Nat} (hg : X.heap.size = g) (o : Obj) (F : Obj → Prop) (hF : F o) : Kp B (X.alloc o) ((g, F) :: l) := by
  subst hg
  refine ⟨?_, fun p hp => ?_⟩
  · rw [List.map_cons, List.nodup_cons]
    refine ⟨fun hm => ?_, h.1⟩
    obtain ⟨p, hp, e⟩ := List.mem_map.1 hm
    have := (h.lt hp).2
    omega
  · rcases List.mem_cons.1 hp with rfl | hp
    · exact ⟨hB, o, heap_alloc_new X _, hF⟩
    · obtain ⟨h1, o', h2, h3⟩ := h.2 p hp
      exact ⟨h1, o', (Below.heap_alloc X o p.1 (lt_of_get h2)).trans h2, h3⟩
theorem Kp.own (h : Kp B X l) (hB : B ≤ X.heap.size) (hb : Below X.heap.size X Y) {t : TypeId} {A : Option Addr} {n c : Nat} {f : Nat → Nat} (ho : Own Y X.heap.size t A n c f) (hn : 0 < n) : ∃ b, A = some ⟨b, 0, none⟩ ∧ Kp B Y ((b, OF t n c f) :: l) := by
  rcases ho.2 with ⟨_, h0⟩ | ⟨g, cap, cur, e, h1, h2, h3, h4, h5, h6⟩
  · omega
  · injection e with e1 _ e3
    subst e3
    refine ⟨g, e1, ?_, fun p hp => ?_⟩
    · rw [List.map_cons, List.nodup_cons]
      refine ⟨fun hm => ?_, h.1⟩
      obtain ⟨p, hp, e⟩ := List.mem_map.1 hm
      have := (h.lt hp).2
      have e' : p.1 = g := e
      omega
    · rcases List.mem_cons.1 hp with rfl | hp
      · exact ⟨Nat.le_trans hB h1, _, h2, cur, rfl, h3, h4, h5, h6⟩
      · exact (h.below hb).2 p hp
theorem Kp.isOwn (h : Kp B X l) {t : TypeId} {b n c : Nat} {f : Nat → Nat} (hm : (b, OF t n c f) ∈ l) : Own X B t (some ⟨b, 0, none⟩) n c f := by
  obtain ⟨h1, o, h2, cur, rfl, h3, h4, h5, h6⟩ := h.2 _ hm
  exact ⟨by rw [byteCells_length, Nat.mul_one], .inr ⟨b, c, cur, rfl, h1, h2, h3, h4, h5, h6⟩⟩
theorem Kp.whole (h : Kp B X l) {t : TypeId} {g : Nat} {cs : Array Value} (hm : (g, WF t cs) ∈ l) : Whole X g t cs := by
  obtain ⟨h1, o, h2, h3⟩ := h.2 _ hm
  have h3' : o = .cells cs t := h3
  rw [h3'] at h2
  exact h2
theorem Kp.set {t : TypeId} {g : Nat} {cs : Array Value} (h : Kp B X ((g, WF t cs) :: l)) (a : Array Value) : Kp B (X.setRow g a) ((g, WF t a) :: l) := by
  refine ⟨h.1, fun p hp => ?_⟩
  rcases List.mem_cons.1 hp with rfl | hp
  · exact ⟨(h.lt List.mem_cons_self).1, _, setRow_heap _ _ _ _ _ _ (h.whole List.mem_cons_self), rfl⟩
  · obtain ⟨h1, o', h2, h3⟩ := h.2 p (List.mem_cons_of_mem _ hp)
    refine ⟨h1, o', (setRow_other X g p.1 a ?_).trans h2, h3⟩
    have := h.1
    rw [List.map_cons, List.nodup_cons] at this
    intro e
    exact this.1 (List.mem_map.2 ⟨p, hp, e⟩)
theorem Kp.grown {b : Nat} {F : Obj → Prop} (h : Kp B X ((b, F) :: l)) (hg : X.grownBy Y (some b)) : Kp B Y l := by
  refine ⟨h.drop.1, fun p hp => ?_⟩
  obtain ⟨h1, o', h2, h3⟩ := h.2 p (List.mem_cons_of_mem _ hp)
  refine ⟨h1, o', (hg.block p.1 (lt_of_get h2) fun e => ?_).trans h2, h3⟩
  have := h.1
  rw [List.map_cons, List.nodup_cons] at this
  injection e with e
  exact this.1 (List.mem_map.2 ⟨p, hp, e⟩)
end

macro "kmem" : tactic => `(tactic| repeat (first | exact List.mem_cons_self | refine List.mem_cons_of_mem _ ?_))
end Kept
end Go.Proofs.Ytpdgnknabjigbaa
