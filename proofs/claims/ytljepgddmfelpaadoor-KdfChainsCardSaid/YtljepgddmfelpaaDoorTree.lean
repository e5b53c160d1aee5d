/- Regions in which two or three operations may come next: each of them is carried out. Nothing of the program. -/
import Derived.Test.YtljepgddmfelpaaDoorEarly
namespace Go.Proofs.YtljepgddmfelpaaDoor
namespace Quiet
open Go.RowKit Mem

section
variable {P : Program} {Q : Exit → Act → World → Prop} {S : World → Prop} {l : List Oper} {fuel : Nat} {listed : Array Bool} {a : Act} {w : World} {o1 o2 o3 : Oper} {r1 r2 r3 : List Oper}

theorem ready_two (k1 k2 : Nat) (h1 : l.drop k1 = o1 :: r1) (h2 : l.drop k2 = o2 :: r2) (hr : Region.ready .any l.toArray listed = [k1, k2])
    (w1 : Region.wanted o1 (yielded l.toArray a.tmps) = true) (w2 : Region.wanted o2 (yielded l.toArray a.tmps) = true)
    (g1 : ∀ K : Act → World → Prop, Shut (∀ a w, S w → wpAnyH P .any l.toArray Q S fuel (listed.setIfInBounds k1 true) a w → K a w) → Oper.wp P o1 a w K Q)
    (g2 : ∀ K : Act → World → Prop, Shut (∀ a w, S w → wpAnyH P .any l.toArray Q S fuel (listed.setIfInBounds k2 true) a w → K a w) → Oper.wp P o2 a w K Q) : wpAnyH P .any l.toArray Q S (fuel + 1) listed a w :=
  wpAnyH_ready hr (by simp) (AllReadyH.cons (drop_get h1) (fun K hK => by rw [if_pos w1]; exact g1 K (fun a w h1 h2 => hK.out a w h1 (fun _ => h2)))
    (AllReadyH.cons (drop_get h2) (fun K hK => by rw [if_pos w2]; exact g2 K (fun a w h1 h2 => hK.out a w h1 (fun _ => h2))) AllReadyH.nil))

theorem ready_three (k1 k2 k3 : Nat) (h1 : l.drop k1 = o1 :: r1) (h2 : l.drop k2 = o2 :: r2) (h3 : l.drop k3 = o3 :: r3) (hr : Region.ready .any l.toArray listed = [k1, k2, k3])
    (w1 : Region.wanted o1 (yielded l.toArray a.tmps) = true) (w2 : Region.wanted o2 (yielded l.toArray a.tmps) = true) (w3 : Region.wanted o3 (yielded l.toArray a.tmps) = true)
    (g1 : ∀ K : Act → World → Prop, Shut (∀ a w, S w → wpAnyH P .any l.toArray Q S fuel (listed.setIfInBounds k1 true) a w → K a w) → Oper.wp P o1 a w K Q)
    (g2 : ∀ K : Act → World → Prop, Shut (∀ a w, S w → wpAnyH P .any l.toArray Q S fuel (listed.setIfInBounds k2 true) a w → K a w) → Oper.wp P o2 a w K Q)
    (g3 : ∀ K : Act → World → Prop, Shut (∀ a w, S w → wpAnyH P .any l.toArray Q S fuel (listed.setIfInBounds k3 true) a w → K a w) → Oper.wp P o3 a w K Q) : wpAnyH P .any l.toArray Q S (fuel + 1) listed a w :=
  wpAnyH_ready hr (by simp) (AllReadyH.cons (drop_get h1) (fun K hK => by rw [if_pos w1]; exact g1 K (fun a w h1 h2 => hK.out a w h1 (fun _ => h2)))
    (AllReadyH.cons (drop_get h2) (fun K hK => by rw [if_pos w2]; exact g2 K (fun a w h1 h2 => hK.out a w h1 (fun _ => h2)))
    (AllReadyH.cons (drop_get h3) (fun K hK => by rw [if_pos w3]; exact g3 K (fun a w h1 h2 => hK.out a w h1 (fun _ => h2))) AllReadyH.nil)))

theorem cut_any {md : Region.Mode} {ops : Array Oper} (R : World → Prop) (hR : R w) (h : ∀ w', R w' → wpAnyH P md ops Q S fuel listed a w') : wpAnyH P md ops Q S fuel listed a w := h w hR

theorem new_block {B : Nat} {w1 w : World} (hS : Below B w1 w) (hB : B ≤ w.heap.size) (t : TypeId) (cs : Array Value) : Whole (w.alloc (.cells cs t)) w.heap.size t cs ∧ Below B w1 (w.alloc (.cells cs t)) := ⟨Whole.new _ _ _, hS.alloc hB _⟩
end

end Quiet
end Go.Proofs.YtljepgddmfelpaaDoor
