/- The calls of package words at any arguments, each by what it answers: Rotate, Load32, Load64, Big, Put32, Put64, PutBig. -/
import Derived.Test.YthjmbfhakccomaaRows
import Derived.Test.YthjmbfhakccomaaNum
import Derived.WalkKit
import Derived.ProofKit
import Derived.OpenShut
import Derived.BigQuiet
import Derived.Deep.QuietTactic
import Derived.Lib.Hide
import Derived.Below
namespace Go.Proofs.Ythjmbfhakccomaa
namespace Words
open Go.ChangeShapes Go.WideShapes Go.ChangeAt Go.RowKit
open Num

/-- what is wrong with reading size bytes from p on, out of n -/
def lackI (n : Nat) (p size : Int) : Int := if p < 0 then 1 else if p ≤ n - size then 0 else 10
theorem lackI_neg {n : Nat} {p size : Int} (h : p < 0) : lackI n p size = 1 := by unfold lackI; rw [if_pos h]
theorem lackI_ok {n : Nat} {p size : Int} (h : 0 ≤ p) (h' : p ≤ n - size) : lackI n p size = 0 := by unfold lackI; rw [if_neg (by omega), if_pos h']
theorem lackI_far {n : Nat} {p size : Int} (h : 0 ≤ p) (h' : (n : Int) - size < p) : lackI n p size = 10 := by unfold lackI; rw [if_neg (by omega), if_neg (by omega)]

set_option maxRecDepth 100000 in
theorem lacks_any (A : Option Addr) (n c : Nat) (p size : Int) (h0 : 1 ≤ size) (h1 : size ≤ 8) (hn : n ≤ 9223372036854775807) (w : World) :
    Calls Try.prog 47 #[.slice A n c, .int .i64 p, .int .i64 size] w fun e w' => e = .returned (.int .i64 (lackI n p size)) ∧ w = w' := by
  by_cases hp : p < 0
  · go_enter Try.func47, Try.ntmps47
    go_wp2
    go_ret
    exact ⟨by rw [lackI_neg hp]; rfl, rfl⟩
  · have hp' : 0 ≤ p := by omega
    clear hp
    by_cases hq : p ≤ n - size
    · go_enter Try.func47, Try.ntmps47
      go_wp2
      go_ret
      exact ⟨by rw [lackI_ok hp' hq]; rfl, rfl⟩
    · have hq' : (n : Int) - size < p := by omega
      clear hq
      go_enter Try.func47, Try.ntmps47
      go_wp2
      go_ret
      exact ⟨by rw [lackI_far hp' hq']; rfl, rfl⟩

/-- likewise, where it is known that something is -/
def wrongI (p : Int) : Int := if p < 0 then 1 else 10

end Words
end Go.Proofs.Ythjmbfhakccomaa
