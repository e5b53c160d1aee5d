/- The call Xor of package chacha. -/
import Derived.Test.YthjmbfhakccomaaBlock
import Derived.Test.YthjmbfhakccomaaStr
namespace Go.Proofs.Ythjmbfhakccomaa
namespace Chacha
open Go.ChangeShapes Go.WideShapes Go.ChangeAt Go.RowKit
open Num Mem Words State Quiet

theorem blk_lt (key nonce : Nat → Nat) (ctr j : Nat) : blk key nonce ctr j < 256 := byteAt_lt _ _

/-- what b is xor'ed to -/
def xo (key nonce : Nat → Nat) (ctr : Nat) (f : Nat → Nat) (j : Nat) : Nat := f j ^^^ blk key nonce (ctr + j / 64) (j % 64)

/-- the first k are xor'ed -/
def xpart (key nonce : Nat → Nat) (ctr : Nat) (f : Nat → Nat) (k j : Nat) : Nat := if j < k then xo key nonce ctr f j else f j

theorem rd_copy {w : World} {A : Option Addr} {n g : Nat} {f : Nat → Nat} (h : Rd w A n f) : 0 < (byteCells f n).length → (some (⟨g, 0, none⟩ : Addr) = some ⟨g, 0, none⟩) ∧ ∃ ad, A = some ad ∧ ∀ (j : Nat) (v : Value), (byteCells f n)[j]? = some v → w.cell? (ad.add j) = some v := by
  intro h0
  rw [byteCells_length] at h0
  rcases h with h | ⟨b, off, hA, _, hc⟩
  · omega
  · refine ⟨rfl, _, hA, fun j v hj => ?_⟩
    have hj' : j < n := by
      rcases Nat.lt_or_ge j n with k | k
      · exact k
      · rw [List.getElem?_eq_none (by rw [byteCells_length]; exact k)] at hj
        cases hj
    rw [byteCells_get f n j hj'] at hj
    have h2 := hc j hj'
    rw [hj] at h2
    by_cases h0 : j = 0
    · subst h0
      simpa [Addr.add] using h2
    · simpa [Addr.add, h0] using h2

theorem rd_more3 {w : World} {A : Option Addr} {n : Nat} {f : Nat → Nat} (h : Rd w A n f) (a b c : Obj) : Rd (((w.alloc a).alloc b).alloc c) A n f :=
  h.below (below_alloc (below_alloc (below_alloc (Below.refl _ _) _) _) _) (Nat.le_refl _)

end Chacha
end Go.Proofs.Ythjmbfhakccomaa
