/- The calls pass and carry of package poly, on numbers of five limbs. -/
import Derived.Test.YthjmbfhakccomaaPolyNum
import Derived.Test.YthjmbfhakccomaaFirst
import Derived.Deep.MidRow
import Derived.Deep.Cut
namespace Go.Proofs.Ythjmbfhakccomaa
namespace Mem
open Go.RowKit

/-- the cells of a row of numbers of 64 digits -/
def qcells (f : Nat → Nat) (n : Nat) : List Value := (List.range n).map fun i => .int .u64 (f i : Nat)
theorem qcells_lit5 (f : Nat → Nat) : (qcells f 5).toArray = #[.int .u64 (f 0 : Nat), .int .u64 (f 1 : Nat), .int .u64 (f 2 : Nat), .int .u64 (f 3 : Nat), .int .u64 (f 4 : Nat)] := rfl
theorem qcells_lit10 (f : Nat → Nat) : (qcells f 10).toArray = #[.int .u64 (f 0 : Nat), .int .u64 (f 1 : Nat), .int .u64 (f 2 : Nat), .int .u64 (f 3 : Nat), .int .u64 (f 4 : Nat), .int .u64 (f 5 : Nat), .int .u64 (f 6 : Nat), .int .u64 (f 7 : Nat), .int .u64 (f 8 : Nat), .int .u64 (f 9 : Nat)] := rfl
theorem qcells_get (f : Nat → Nat) (n i : Nat) (h : i < n) : (qcells f n)[i]? = some (.int .u64 (f i : Nat)) := by
  simp [qcells, h]
theorem qcells_length (f : Nat → Nat) (n : Nat) : (qcells f n).length = n := by simp [qcells]
theorem qcells_congr {f g : Nat → Nat} {n : Nat} (h : ∀ i, i < n → f i = g i) : qcells f n = qcells g n := by
  unfold qcells
  exact List.map_congr_left fun i hi => by rw [h i (List.mem_range.1 hi)]
theorem qcells_set (f : Nat → Nat) (n j v : Nat) : (qcells f n).toArray.setIfInBounds j (.int .u64 (v : Nat)) = (qcells (fun i => if i = j then v else f i) n).toArray := by
  apply Array.ext_getElem?
  intro i
  rw [Array.getElem?_setIfInBounds]
  by_cases hi : i < n
  · by_cases hj : j = i
    · subst hj
      simp [qcells, hi]
    · have : ¬ i = j := fun e => hj e.symm
      simp [qcells, hi, hj, this]
  · simp [qcells, hi]
    omega
theorem qcells_one (f : Nat → Nat) (n : Nat) : (qcells f n).toArray.all (·.oneCell') = true := by
  simp [qcells, Value.oneCell']
theorem qcells_size (f : Nat → Nat) (n : Nat) : (qcells f n).toArray.size = n := by rw [List.size_toArray, qcells_length]
theorem Whole.num {w : World} {g n : Nat} {t : TypeId} {f : Nat → Nat} (h : Whole w g t (qcells f n).toArray) (i : Nat) (hi : i < n) : w.cell? ⟨g, i, none⟩ = some (.int .u64 (f i : Nat)) := by
  rw [h.cell, List.getElem?_toArray, qcells_get f n i hi]
end Mem

namespace Poly
open Go.ChangeShapes Go.WideShapes Go.ChangeAt Go.RowKit
open Num Mem Words PolyN Chacha

theorem and26 (v : Nat) (hv : v < 18446744073709551616) : bits .and .u64 (v : Int) 67108863 = ((v % 67108864 : Nat) : Int) := by
  have h := u64_and_nat v 67108863 hv (by omega)
  rw [show (67108863 : Nat) = 2 ^ 26 - 1 from rfl, Nat.and_two_pow_sub_one_eq_mod] at h
  exact h

theorem whole_range {w : World} {g : Nat} {t : TypeId} {cs : List Value} (h : Whole w g t cs.toArray) : w.rangeAt g 0 cs := by
  intro j v hj
  rw [Nat.zero_add, h.cell, List.getElem?_toArray, hj]

theorem results_cell_tmp {fn : Func} {p u : Tmp} {ty : TypeId} {P : Program} (h : fn.results = #[.cell p ty, .tmp u]) (tmps : Array Value) (w : World) (g : Nat) (t : TypeId) (cs : List Value) (d : TypeDesc)
    (hp : tmps.getD p undef = .pointer (some ⟨g, 0, none⟩)) (hg : Whole w g t cs.toArray)
    (hu : P.underlying ty = some d) (hd : d.isRow = true) (hi : (P.info? ty).map (·.size) = some cs.length) :
    (results fn tmps).run P w = .ok (.tuple #[.agg cs.toArray, tmps.getD u undef]) w := by
  have hp' : tmps[p]?.getD undef = .pointer (some ⟨g, 0, none⟩) := by simpa using hp
  simp [results, h, hp', asAddr, run_loadVar_mid w g 0 ty cs d (whole_range hg) hu hd hi]

theorem pc_small (a : Nat → Nat) (over : Nat) (ha : ∀ i, i < 5 → a i < 4611686018427387904) (ho : over < 4611686018427387904) (k : Nat) (hk : k ≤ 5) : pc a over k < 4611686018427387904 := by
  induction k with
  | zero => exact ho
  | succ k ih =>
    have h1 := ih (by omega)
    have h2 := ha k (by omega)
    rw [pc]
    omega

theorem ca_fits (a : Nat → Nat) (ha : ∀ i, i < 5 → a i < 4611686018427387904) : po a 0 0 + 5 * pc a 0 5 < 4611686018427387904 := by
  have := (ca_wide a ha).1 0 (by omega)
  unfold ca at this
  rw [if_pos rfl] at this
  omega

end Poly
end Go.Proofs.Ythjmbfhakccomaa
