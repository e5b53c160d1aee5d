/- The document's own Note: what a gauge with a measure more has; and Note as one function. -/
import Derived.Test.YteombmahglbeeaaGaugeNote
namespace Go.Proofs.Yteombmahglbeeaa
namespace Gauge
open Go.ChangeShapes Go.WideShapes Go.ChangeAt Go.RowKit
open Num Mem Words Chacha Aead Poly Quiet Fl

/-- a gauge as a value -/
def gV (g : G) : Value := .agg #[.int .u64 (g.c : Nat), .int .u64 (g.b : Nat), .float .f64 g.lo, .float .f64 g.hi, .float .f64 g.sm]
theorem note_any (g : G) (h : g.ok) (hc : g.c < 18446744073709551615) (hb : g.b < 18446744073709551615) (x : Nat) (hx : x < 18446744073709551616) (w : World) :
    Calls Try.prog 17 #[gV g, .float .f64 x] w fun e w' => e = .returned (gV (note g x)) ∧ Below w.heap.size w w' := by
  obtain ⟨c, b, lo, hi, sm⟩ := g
  unfold note gV
  rcases hcx : counts x with _ | _
  · rw [if_neg (by simp)]
    exact note_bad c b lo hi sm x hx hcx hb h.lo.1 h.hi.1 h.sm.1 w
  · rw [if_pos rfl]
    by_cases h0 : c = 0
    · rw [if_pos h0]
      exact note_first c b lo hi sm x hx hcx h0 w
    · rw [if_neg h0]
      exact note_more c b lo hi sm x hx hcx h0 hc h.lo h.hi h.sm w

end Gauge
end Go.Proofs.Yteombmahglbeeaa
