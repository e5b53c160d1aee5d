/-
  No cell of these rows narrows 'for every input' (looked for: loops, veiled, ifaces, maps, wideKeys, modest, calm, conditions, laid).
  DERIVED. THE GIVEN ROWS OF THIS SEAT. 5 by the template 'for every input the law returns true; each argument reads behind the call as it read before'; 0 by the template 'total and deterministic' (their statements: YtcpfchfhcfdcpaaTotals.lean).
  GIVEN WITH THE SEED: the statements are not yours to turn. If you find one false, say at which input.
  Laid BY PROGRAM, IN A SANDBOX (cutbox-rows.mjs): the forced cells as the released guide's own fill.sh prints them over the translation 0bde674a1eca89f8… (all of the seat's roots in one cut). By AI agents, Wed Nov 11 2026. No macro, syntax, notation, axiom, sorry.
-/
import Derived.Test.YtcpfchfhcfdcpaaChecked
import GoSem.Claim
import GoSem.ClaimJoined
import GoSem.ClaimMapViews
import Derived.JoinedTies
import Derived.KernelRfl
namespace Go.Proofs.Ytcpfchfhcfdcpaa
/- THE CELL 'sum', in the pinned program and in every row, IS THE sha256 OF THE DUMP (.gsa) THAT YtcpfchfhcfdcpaaProg.lean LOADS. Nothing in Lean hashes anything: it is a label: what it is worth is what the hold of that sum in a sandbox is worth. -/
noncomputable def Try.pinned : Pinned := { name := "ytcpfchfhcfdcpaa", sum := "0bde674a1eca89f8871a9019bfbcb914fb82a1790da0a6d52970cd04eed9d09d", checked := Try.checked }
namespace Rows
def none {H : Type} : Left H := { results := [], args := [] }

/-- 'aditlaw14.TrieLives': WHATEVER THE INPUT: true; the input reads as it did. -/
def trieLivesSpec : ChangeSpec := { name := "trieLives", fn := fun _ => fun
  | [d] => { results := [.lit (.bool true)], args := [d] }
  | _ => none }
def trieLivesRow : OpenClaim := { program := "ytcpfchfhcfdcpaa", sum := "0bde674a1eca89f8871a9019bfbcb914fb82a1790da0a6d52970cd04eed9d09d", func := "adit/aditlaw14.TrieLives", spec := "trieLives", unfollowed := true, recurses := true, apart := false }
def TrieLivesSaid : Prop := trieLivesRow.holds Try.pinned (OpenSpec.ofChange trieLivesSpec)

/-- ITS FALSE NEIGHBOUR: 'it returns false'. Refute it at one input. -/
def trieLivesWrong : ChangeSpec := { name := "trieLives", fn := fun _ => fun
  | [d] => { results := [.lit (.bool false)], args := [d] }
  | _ => none }
def TrieLivesWrongFalsely : Prop := trieLivesRow.holds Try.pinned (OpenSpec.ofChange trieLivesWrong)

/-- 'aditlaw14.TrieLongest': WHATEVER THE INPUT: true; the input reads as it did. -/
def trieLongestSpec : ChangeSpec := { name := "trieLongest", fn := fun _ => fun
  | [d1, d2] => { results := [.lit (.bool true)], args := [d1, d2] }
  | _ => none }
def trieLongestRow : OpenClaim := { program := "ytcpfchfhcfdcpaa", sum := "0bde674a1eca89f8871a9019bfbcb914fb82a1790da0a6d52970cd04eed9d09d", func := "adit/aditlaw14.TrieLongest", spec := "trieLongest", unfollowed := true, recurses := true, apart := false }
def TrieLongestSaid : Prop := trieLongestRow.holds Try.pinned (OpenSpec.ofChange trieLongestSpec)

/-- ITS FALSE NEIGHBOUR: 'it returns false'. Refute it at one input. -/
def trieLongestWrong : ChangeSpec := { name := "trieLongest", fn := fun _ => fun
  | [d1, d2] => { results := [.lit (.bool false)], args := [d1, d2] }
  | _ => none }
def TrieLongestWrongFalsely : Prop := trieLongestRow.holds Try.pinned (OpenSpec.ofChange trieLongestWrong)

/-- 'aditlaw14.TrieStays': WHATEVER THE INPUT: true; the input reads as it did. -/
def trieStaysSpec : ChangeSpec := { name := "trieStays", fn := fun _ => fun
  | [d1, d2] => { results := [.lit (.bool true)], args := [d1, d2] }
  | _ => none }
def trieStaysRow : OpenClaim := { program := "ytcpfchfhcfdcpaa", sum := "0bde674a1eca89f8871a9019bfbcb914fb82a1790da0a6d52970cd04eed9d09d", func := "adit/aditlaw14.TrieStays", spec := "trieStays", unfollowed := true, recurses := true, apart := false }
def TrieStaysSaid : Prop := trieStaysRow.holds Try.pinned (OpenSpec.ofChange trieStaysSpec)

/-- ITS FALSE NEIGHBOUR: 'it returns false'. Refute it at one input. -/
def trieStaysWrong : ChangeSpec := { name := "trieStays", fn := fun _ => fun
  | [d1, d2] => { results := [.lit (.bool false)], args := [d1, d2] }
  | _ => none }
def TrieStaysWrongFalsely : Prop := trieStaysRow.holds Try.pinned (OpenSpec.ofChange trieStaysWrong)

/-- 'aditlaw14.TrieOrder': WHATEVER THE INPUT: true; the input reads as it did. -/
def trieOrderSpec : ChangeSpec := { name := "trieOrder", fn := fun _ => fun
  | [d1, d2, d3] => { results := [.lit (.bool true)], args := [d1, d2, d3] }
  | _ => none }
def trieOrderRow : OpenClaim := { program := "ytcpfchfhcfdcpaa", sum := "0bde674a1eca89f8871a9019bfbcb914fb82a1790da0a6d52970cd04eed9d09d", func := "adit/aditlaw14.TrieOrder", spec := "trieOrder", unfollowed := true, recurses := true, apart := false }
def TrieOrderSaid : Prop := trieOrderRow.holds Try.pinned (OpenSpec.ofChange trieOrderSpec)

/-- ITS FALSE NEIGHBOUR: 'it returns false'. Refute it at one input. -/
def trieOrderWrong : ChangeSpec := { name := "trieOrder", fn := fun _ => fun
  | [d1, d2, d3] => { results := [.lit (.bool false)], args := [d1, d2, d3] }
  | _ => none }
def TrieOrderWrongFalsely : Prop := trieOrderRow.holds Try.pinned (OpenSpec.ofChange trieOrderWrong)

/-- 'aditlaw14.TrieOwners': WHATEVER THE INPUT: true; the input reads as it did. -/
def trieOwnersSpec : ChangeSpec := { name := "trieOwners", fn := fun _ => fun
  | [d1, d2] => { results := [.lit (.bool true)], args := [d1, d2] }
  | _ => none }
def trieOwnersRow : OpenClaim := { program := "ytcpfchfhcfdcpaa", sum := "0bde674a1eca89f8871a9019bfbcb914fb82a1790da0a6d52970cd04eed9d09d", func := "adit/aditlaw14.TrieOwners", spec := "trieOwners", unfollowed := true, recurses := true, apart := false }
def TrieOwnersSaid : Prop := trieOwnersRow.holds Try.pinned (OpenSpec.ofChange trieOwnersSpec)

/-- ITS FALSE NEIGHBOUR: 'it returns false'. Refute it at one input. -/
def trieOwnersWrong : ChangeSpec := { name := "trieOwners", fn := fun _ => fun
  | [d1, d2] => { results := [.lit (.bool false)], args := [d1, d2] }
  | _ => none }
def TrieOwnersWrongFalsely : Prop := trieOwnersRow.holds Try.pinned (OpenSpec.ofChange trieOwnersWrong)

/- THE SECOND FORM. 'bulk': how many values and letters a reading holds, each counted each time it is reached (what is shared counts as often as it is met; a slice's spare places count too). A statement '..UptoSaid' is the law's where the arguments, and the package variables that the reading takes, are together of bulk at most 1048576: NARROWER than '..Said'. Prove '..Said' where nothing that the law and all that it calls make is longer than what came in: it says more and counts as full. Else prove '..UptoSaid'. A law counts once. -/
mutual
def uptoBulk {H : Type} : DataW H → Nat
  | .lit (.string bytes) => bytes.length + 1
  | .lit _ => 1
  | .nil => 1
  | .ptr d => uptoBulk d + 1
  | .slice elems spare => uptoBulkAll elems + uptoBulkAll spare + 1
  | .agg parts => uptoBulkAll parts + 1
  | .iface _ d => uptoBulk d + 1
  | .map entries => uptoBulkEntries entries + 1
  | .held _ => 1
def uptoBulkAll {H : Type} : List (DataW H) → Nat
  | [] => 0
  | d :: r => uptoBulk d + uptoBulkAll r
def uptoBulkEntries {H : Type} : List (Lit × DataW H) → Nat
  | [] => 0
  | x :: r => uptoBulkEntry x + uptoBulkEntries r
def uptoBulkEntry {H : Type} : Lit × DataW H → Nat
  | (.string bytes, d) => bytes.length + uptoBulk d + 1
  | (_, d) => uptoBulk d + 1
 end
def uptoSmall : (H : Type) → List (DataW H) → Bool := fun _ ds => decide (uptoBulkAll ds ≤ 1048576)
def OpenSpec.upto (s : _root_.Go.ChangeSpec) : _root_.Go.OpenSpec := { _root_.Go.OpenSpec.ofChange s with cond := some uptoSmall }

/-- 'aditlaw14.TrieLives', WHERE WHAT IT READS IS OF BULK AT MOST 1048576: true; the input reads as it did. -/
def trieLivesUptoRow : OpenClaim := { program := "ytcpfchfhcfdcpaa", sum := "0bde674a1eca89f8871a9019bfbcb914fb82a1790da0a6d52970cd04eed9d09d", func := "adit/aditlaw14.TrieLives", spec := "trieLives", unfollowed := true, recurses := true, apart := false, narrowed := true }
def TrieLivesUptoSaid : Prop := trieLivesUptoRow.holds Try.pinned (OpenSpec.upto trieLivesSpec)

/-- 'aditlaw14.TrieLongest', WHERE WHAT IT READS IS OF BULK AT MOST 1048576: true; the input reads as it did. -/
def trieLongestUptoRow : OpenClaim := { program := "ytcpfchfhcfdcpaa", sum := "0bde674a1eca89f8871a9019bfbcb914fb82a1790da0a6d52970cd04eed9d09d", func := "adit/aditlaw14.TrieLongest", spec := "trieLongest", unfollowed := true, recurses := true, apart := false, narrowed := true }
def TrieLongestUptoSaid : Prop := trieLongestUptoRow.holds Try.pinned (OpenSpec.upto trieLongestSpec)

/-- 'aditlaw14.TrieStays', WHERE WHAT IT READS IS OF BULK AT MOST 1048576: true; the input reads as it did. -/
def trieStaysUptoRow : OpenClaim := { program := "ytcpfchfhcfdcpaa", sum := "0bde674a1eca89f8871a9019bfbcb914fb82a1790da0a6d52970cd04eed9d09d", func := "adit/aditlaw14.TrieStays", spec := "trieStays", unfollowed := true, recurses := true, apart := false, narrowed := true }
def TrieStaysUptoSaid : Prop := trieStaysUptoRow.holds Try.pinned (OpenSpec.upto trieStaysSpec)

/-- 'aditlaw14.TrieOrder', WHERE WHAT IT READS IS OF BULK AT MOST 1048576: true; the input reads as it did. -/
def trieOrderUptoRow : OpenClaim := { program := "ytcpfchfhcfdcpaa", sum := "0bde674a1eca89f8871a9019bfbcb914fb82a1790da0a6d52970cd04eed9d09d", func := "adit/aditlaw14.TrieOrder", spec := "trieOrder", unfollowed := true, recurses := true, apart := false, narrowed := true }
def TrieOrderUptoSaid : Prop := trieOrderUptoRow.holds Try.pinned (OpenSpec.upto trieOrderSpec)

/-- 'aditlaw14.TrieOwners', WHERE WHAT IT READS IS OF BULK AT MOST 1048576: true; the input reads as it did. -/
def trieOwnersUptoRow : OpenClaim := { program := "ytcpfchfhcfdcpaa", sum := "0bde674a1eca89f8871a9019bfbcb914fb82a1790da0a6d52970cd04eed9d09d", func := "adit/aditlaw14.TrieOwners", spec := "trieOwners", unfollowed := true, recurses := true, apart := false, narrowed := true }
def TrieOwnersUptoSaid : Prop := trieOwnersUptoRow.holds Try.pinned (OpenSpec.upto trieOwnersSpec)

end Rows
end Go.Proofs.Ytcpfchfhcfdcpaa
