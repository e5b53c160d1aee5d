/- WheelOnce: what its walk needs. -/
import Derived.Test.YtgbahkkccpcadaaWheelSteps
namespace Go.Proofs.Ytgbahkkccpcadaa
namespace WheelOnce
open Go.ChangeShapes Go.WideShapes Go.ChangeAt Go.RowKit Go.Maps
open Num Mem Words Chacha Aead Poly Quiet RowV RowS Ops EqLits Stamp Wh
open WheelSteps (IsU open_us bel_fk and18 own_block)

theorem setT_cases {now : Int} {T : List Tm} {o k t : Int} (hf : findT o k T = none) : (setT now T o k t).1 = 0 ∧ (setT now T o k t).2 = ins ⟨o, k, t⟩ T ∨ ((setT now T o k t).1 == 0) = false ∧ (setT now T o k t).2 = T := by
  unfold setT
  split
  · exact .inr ⟨rfl, rfl⟩
  · split
    · exact .inr ⟨rfl, rfl⟩
    · exact .inl ⟨rfl, by rw [rem_none (find_none hf)]⟩
/-- a wheel, and what was set in it as a row -/
structure O1 (w : World) (g : Nat) (nb : Int) (S T : List Tm) (As : Option Addr) (cs : Nat) (F : Nat → Prop) (X : World) : Prop where
  wb : WB w.heap.size X F g nb T
  row : X.ownsRow w.heap.size 38 3 (.slice As S.length cs) S.length (flatT S)
  out : ∀ j, (Value.slice As S.length cs).ownBlock = some j → ¬ F j
  bel : Below w.heap.size w X
section
variable {w X Y : World} {g : Nat} {nb n' : Int} {S T T' : List Tm} {As : Option Addr} {cs : Nat} {F : Nat → Prop}
theorem O1.below (h : O1 w g nb S T As cs F X) (hb : Below X.heap.size X Y) : O1 w g nb S T As cs F Y :=
  ⟨⟨h.wb.1.below hb, fun i hi => ⟨(h.wb.2 i hi).1, Nat.lt_of_lt_of_le (h.wb.2 i hi).2 hb.size⟩⟩, own_keep h.row hb, h.out, below_trans h.bel hb⟩
theorem O1.same (h : O1 w g nb S T As cs F X) (hY : WW Y F g n' T') (hk : Fk F X Y) : O1 w g n' S T' As cs F Y :=
  ⟨⟨hY, fun i hi => ⟨(h.wb.2 i hi).1, Nat.lt_of_lt_of_le (h.wb.2 i hi).2 hk.size⟩⟩, own_fk' h.row hk h.out, h.out, bel_fk h.bel hk (fun i hi => (h.wb.2 i hi).1)⟩
theorem O1.set (h : O1 w g nb S T As cs F X) (hY : WW Y (ext F X) g n' T') (hk : Fk F X Y) : ∃ F', O1 w g n' S T' As cs F' Y ∧ ∀ i, i < X.heap.size → F' i → F i := by
  obtain ⟨F2, h1, h2, _⟩ := WB.turn (B := w.heap.size) hY (fun _ h => h) hk h.wb.2 h.bel.size
  exact ⟨F2, ⟨h1, own_fk' h.row hk h.out, fun j hj c => h.out j hj (h2 j (own_lt' h.row j hj).2 c), bel_fk h.bel hk (fun i hi => (h.wb.2 i hi).1)⟩, h2⟩
theorem O1.push (h : O1 w g nb S T As cs F X) {x : Tm} {A' : Option Addr} {c' : Nat} (g1 : Y.ownsRow w.heap.size 38 3 (.slice A' (S.length + 1) c') (S.length + 1) (flatT S ++ tmL x))
    (g3 : X.grownBy Y (Value.slice As S.length cs).ownBlock) (g5 : ∀ i, i < X.heap.size → (Value.slice As S.length cs).ownBlock ≠ some i → (Value.slice A' (S.length + 1) c').ownBlock ≠ some i) : O1 w g nb (S ++ [x]) T A' c' F Y := by
  have hrow : ∀ j, (Value.slice As S.length cs).ownBlock = some j → ∃ t cs, Whole X j t cs := fun j hj => by obtain ⟨cs, hw⟩ := own_block h.row hj; exact ⟨_, cs, hw⟩
  have e : (S ++ [x]).length = S.length + 1 := by rw [List.length_append]; rfl
  refine ⟨⟨h.wb.1.grown g3 (fun j hj => ⟨h.out j hj, hrow j hj⟩), fun i hi => ⟨(h.wb.2 i hi).1, Nat.lt_of_lt_of_le (h.wb.2 i hi).2 g3.size⟩⟩, by rw [e, flatT_append, flatT_one]; exact g1, fun j hj c => ?_, ?_⟩
  · rw [e] at hj
    by_cases hb : (Value.slice As S.length cs).ownBlock = some j
    · exact h.out j hb c
    · exact g5 j (h.wb.2 j c).2 hb hj
  · have hb := h.bel
    exact ⟨g3.os.trans hb.os, g3.tape.trans hb.tape, g3.output.trans hb.output, Nat.le_trans hb.size g3.size, fun i hi => (g3.block i (Nat.lt_of_lt_of_le hi hb.size) (fun e => by have := (own_lt' h.row i e.symm).1; omega)).trans (hb.block i hi)⟩
end
/-- while timers are set -/
def L1 (w : World) (g : Nat) (S : List Tm) (As : Option Addr) (cs : Nat) (X : World) : Prop := ∃ T F, O1 w g 0 S T As cs F X ∧ (∀ x, x ∈ T ↔ x ∈ S) ∧ T.length = S.length
/-- while the time goes on -/
def L2 (w : World) (g : Nat) (nb : Int) (i : Nat) (S : List Tm) (As : Option Addr) (cs : Nat) (came : Nat) (X : World) : Prop := ∃ T F, O1 w g nb S T As cs F X ∧ (∀ x ∈ T, x ∈ S) ∧ came + T.length = S.length ∧ (0 < i → ∀ x ∈ T, nb < x.t)
end WheelOnce
end Go.Proofs.Ytgbahkkccpcadaa
