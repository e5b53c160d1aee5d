/- The door of the tables eight and orders: what the condition on the start gives (Laid), and that the door's own run meets it. -/
import Derived.Test.YtcoppcididemkaaDoorBlakeNum
import Derived.Test.YtcoppcididemkaaDoorRows
import Derived.Test.YtcoppcididemkaaDoorTie
import Derived.ProofKit
import Derived.LaidMore
import Derived.OpenShut
import Derived.Stop.Joined
import Derived.SevenTiedAt
namespace Go.Proofs.YtcoppcididemkaaDoor
namespace Blake
open Go.ChangeShapes Go.WideShapes Go.ChangeAt Go.WideMaps Go.WideElems Go.RowKit

section
variable {H : Type} {enc : TypeId × Value → H} {P : Program} {W : World} {base : Nat} {spare : Nat → Bool} {held : Bool}
theorem ints_of {t e : TypeId} {k : IntKind} {n fuel : Nat} {cells : List Value} {x : DataW H × List MemPlace} (ht : P.underlying t = some (.array n e)) (he : P.underlying e = some (.int k)) (hce : P.cellsOf e = 1) (hct : P.cellsOf t = n)
    (h : DataW.trod enc P W base spare held fuel t cells = some x) (zs : List Int) (hd : x.1 = .agg (zs.map fun z => .lit (.int k z))) : ∀ i, i < n → cells[i]? = some (.int k (zs.getD i 0)) := by
  obtain ⟨xs, m, _, hx, hl, hn, hel⟩ := DataW.trod_array ht h
  rw [hct] at hl
  rw [hx] at hd
  simp only [DataW.agg.injEq] at hd
  intro i hi
  have h1 := hel i hi
  rw [hce, List.getElem?_eq_getElem (by omega)] at h1
  have h2 : (cells.drop (i * 1)).take 1 = [(cells[i]'(by omega) : Value)] := by
    have h0 := List.drop_eq_getElem_cons (l := cells) (i := i) (by omega)
    rw [Nat.mul_one, h0]
    rfl
  rw [h2] at h1
  obtain ⟨a, e1, e2, _⟩ := DataW.trod_int he h1
  rw [List.getElem?_eq_getElem (by omega)]
  have hz : zs.length = n := by
    have := congrArg List.length hd
    simpa [hn] using this.symm
  have h3 : (xs[i]'(by omega)).1 = .lit (.int k (zs.getD i 0)) := by
    have := congrArg (fun l => l[i]?) hd
    simp only [List.getElem?_map, List.getElem?_eq_getElem (show i < xs.length by omega), List.getElem?_eq_getElem (show i < zs.length by omega), Option.map_some, Option.some.injEq] at this
    rw [this, List.getD, List.getElem?_eq_getElem (by omega)]
    rfl
  rw [e2] at h3
  simp only [DataW.lit.injEq, Lit.int.injEq, true_and] at h3
  injection e1 with e1
  rw [e1, h3]
theorem rows_of {t e : TypeId} {n fuel c : Nat} {cells : List Value} {x : DataW H × List MemPlace} (ht : P.underlying t = some (.array n e)) (hce : P.cellsOf e = c)
    (h : DataW.trod enc P W base spare held fuel t cells = some x) (ds : List (DataW H)) (hd : x.1 = .agg ds) : ∀ i d, ds[i]? = some d → ∃ m p, DataW.trod enc P W base spare held m e ((cells.drop (i * c)).take c) = some (d, p) := by
  obtain ⟨xs, m, _, hx, hl, hn, hel⟩ := DataW.trod_array ht h
  rw [hx] at hd
  simp only [DataW.agg.injEq] at hd
  intro i d hi
  have hi2 : i < xs.length := by
    rw [← hd, List.getElem?_map] at hi
    rcases Nat.lt_or_ge i xs.length with k | k
    · exact k
    · rw [List.getElem?_eq_none k] at hi
      cases hi
  have h1 := hel i (by omega)
  rw [hce, List.getElem?_eq_getElem hi2] at h1
  rw [← hd, List.getElem?_map, List.getElem?_eq_getElem hi2] at hi
  simp only [Option.map_some, Option.some.injEq] at hi
  exact ⟨m, (xs[i]'hi2).2, by rw [h1, ← hi]⟩
end

def eightI : List Int := [1779033703, 3144134277, 1013904242, 2773480762, 1359893119, 2600822924, 528734635, 1541459225]
def ordersI : List (List Int) := [[0, 1, 2, 3, 4, 5, 6, 7, 8, 9, 10, 11, 12, 13, 14, 15], [14, 10, 4, 8, 9, 15, 13, 6, 1, 12, 0, 2, 11, 7, 5, 3], [11, 8, 12, 0, 5, 2, 15, 13, 10, 14, 3, 6, 7, 1, 9, 4], [7, 9, 3, 1, 13, 12, 11, 14, 2, 6, 5, 10, 4, 0, 15, 8], [9, 0, 5, 7, 2, 4, 10, 15, 14, 1, 11, 12, 6, 8, 3, 13], [2, 12, 6, 10, 0, 11, 8, 3, 4, 13, 7, 5, 15, 14, 1, 9], [12, 5, 1, 15, 14, 13, 4, 10, 0, 7, 6, 3, 9, 2, 8, 11], [13, 11, 7, 14, 12, 1, 3, 9, 5, 0, 15, 4, 8, 6, 2, 10], [6, 15, 14, 9, 11, 3, 0, 8, 12, 2, 13, 7, 1, 4, 10, 5], [10, 2, 8, 4, 7, 6, 1, 5, 15, 11, 9, 14, 3, 12, 13, 0]]
theorem eightI_is : ∀ i, i < 8 → eightI.getD i 0 = (eight.getD i 0 : Nat) := by decide
theorem ordersI_is : ∀ i, i < 160 → (ordersI.getD (i / 16) []).getD (i % 16) 0 = (orders.getD i 0 : Nat) := by decide +kernel
theorem gEight : Tryd.prog.globalNamed "adit/blake.eight" = some 0 := by kernel_rfl
theorem gOrders : Tryd.prog.globalNamed "adit/blake.orders" = some 1 := by kernel_rfl
theorem tEight : (Tryd.prog.globals[0]?).map (·.type) = some 37 := by kernel_rfl
theorem tOrders : (Tryd.prog.globals[1]?).map (·.type) = some 57 := by kernel_rfl

/-- the condition on the start, of every row of this seat -/
def tables : List (String × DataW Unit) := [("adit/blake.eight", Rows.laid_adit_blake_eight), ("adit/blake.orders", Rows.laid_adit_blake_orders)]

/-- What the condition gives the walks. -/
theorem of_laid {W : World} (h : laidMetH Tryd.prog tables W) : Laid W := by
  rw [MakeChecks.laidMetH_plain _ _ _ (by kernel_rfl)] at h
  obtain ⟨ps, ⟨g0, t0, cs0, f0, p0, q0, hg0, ht0, hv0, hd0, ⟨g1, t1, cs1, f1, p1, q1, hg1, ht1, hv1, hd1, _, _⟩, _⟩, _, _⟩ := h
  obtain rfl := Option.some.inj (gEight.symm.trans hg0)
  obtain rfl := Option.some.inj (gOrders.symm.trans hg1)
  obtain rfl := Option.some.inj (tEight.symm.trans ht0)
  obtain rfl := Option.some.inj (tOrders.symm.trans ht1)
  have e0 := ints_of Tryd.underlying37 Tryd.underlying36 (by kernel_rfl) (by kernel_rfl) hd0 eightI rfl
  have e1 := rows_of Tryd.underlying57 (c := 16) (by kernel_rfl) hd1 (ordersI.map fun r => .agg (r.map fun z => .lit (.int .u8 z))) rfl
  have hc0 : ∀ i, i < 8 → W.cell? ⟨0, i, none⟩ = some (.int .u32 (eight.getD i 0 : Nat)) := fun i hi => by
    have := World.var?_cell hg0 hv0 i
    rw [this, ← eightI_is i hi, ← e0 i hi, Array.getElem?_toList]
  have hc1 : ∀ i, i < 160 → W.cell? ⟨1, i, none⟩ = some (.int .u8 (orders.getD i 0 : Nat)) := fun i hi => by
    have := World.var?_cell hg1 hv1 i
    rw [this, ← ordersI_is i hi]
    have hr : i / 16 < ordersI.length := show i / 16 < 10 by omega
    obtain ⟨m, p, hm⟩ := e1 (i / 16) _ (by rw [List.getElem?_map, List.getElem?_eq_getElem hr]; rfl)
    have h3 := ints_of Tryd.underlying56 Tryd.underlying5 (by kernel_rfl) (by kernel_rfl) hm _ rfl (i % 16) (by omega)
    rw [List.getElem?_take_of_lt (by omega), List.getElem?_drop, Array.getElem?_toList, show i / 16 * 16 + i % 16 = i by omega] at h3
    rw [h3, List.getD, List.getD, List.getD, List.getElem?_eq_getElem hr]
    rfl
  refine ⟨hc0, hc1, ?_⟩
  rcases Nat.lt_or_ge 1 W.heap.size with k | k
  · omega
  · have := hc1 0 (by omega)
    simp [World.cell?, Array.getElem?_eq_none k] at this

end Blake
end Go.Proofs.YtcoppcididemkaaDoor
