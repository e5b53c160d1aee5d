/- The calls behindNoughts, Counter and tooLong of package aead. -/
import Derived.Test.YthjmbfhakccomaaCopy
import Derived.Test.YthjmbfhakccomaaWordsTwo
import Derived.Test.YthjmbfhakccomaaPolyBoth
namespace Go.Proofs.Ythjmbfhakccomaa
namespace Aead
open Go.ChangeShapes Go.WideShapes Go.ChangeAt Go.RowKit
open Num Mem Words PolyN Chacha Quiet Poly

theorem wpList_copy {P : Program} {ops : Array Oper} {rest : List Oper} {o : Oper} {a : Act} {w : World} {Q : Exit → Act → World → Prop} (hgd : o.guard = none) (d s : Operand) (dT sT : TypeId)
    (ho : o.op = .call { callee := .builtin .copy, args := #[d, s], argTypes := #[dT, sT] }) (elem : TypeId) (hu : P.underlying dT = some (.slice elem)) (hsz : (P.info? elem).map (·.size) = some 1)
    (g off dLen dCap : Nat) (ad : Addr) (sLen sCap : Nat) (hd : a.eval d = .slice (some ⟨g, off, none⟩) dLen dCap) (hs : a.eval s = .slice (some ad) sLen sCap)
    (cur : List Value) (t : TypeId) (hg : w.heap[g]? = some (.cells cur.toArray t (0, 0))) (cs : List Value) (hn : cs.length = Nat.min sLen dLen)
    (hsrc : ∀ j v, cs[j]? = some v → w.cell? (ad.add j) = some v)
    (hfit : off + cs.length ≤ cur.length) (h1 : ∀ v ∈ cs, v.oneCell' = true)
    (h : ∀ w', Hid (w'.heap[g]? = some (.cells (splice cur off cs).toArray t (0, 0))) → w.grownBy w' (some g) → wpList P ops Q rest (a.put o.dst (goInt cs.length)) w') : wpList P ops Q (o :: rest) a w :=
  wpList_step fun _ hK => step_copy_grown hgd d s dT sT ho elem hu hsz g off dLen dCap ad sLen sCap hd hs cur t hg cs hn hsrc hfit h1 fun w' h2 h3 => hK _ _ (h w' h2 h3)

/-- four noughts, and eight bytes behind them -/
def bn (f : Nat → Nat) (i : Nat) : Nat := if 4 ≤ i then f (i - 4) else 0
theorem bn_lt {f : Nat → Nat} (h : ∀ i, f i < 256) (i : Nat) : bn f i < 256 := by
  have := h (i - 4)
  unfold bn
  split <;> omega

end Aead
end Go.Proofs.Ythjmbfhakccomaa
