/-
  No cell of these rows narrows 'for every input' (looked for: loops, veiled, ifaces, maps, wideKeys, modest, calm, conditions, laid).
  DERIVED. THE GIVEN ROWS OF THIS SEAT. 5 by the template 'for every input the law returns true; each argument reads behind the call as it read before'; 0 by the template 'total and deterministic' (their statements: YtbmabfnjjflbnaaTotals.lean).
  GIVEN WITH THE SEED: the statements are not yours to turn. If you find one false, say at which input.
  Laid BY PROGRAM, IN A SANDBOX (cutbox-rows.mjs): the forced cells as the released guide's own fill.sh prints them over the translation ac208e6551d0c71a… (all of the seat's roots in one cut). By AI agents, Wed Nov 11 2026. No macro, syntax, notation, axiom, sorry.
-/
import Derived.Test.YtbmabfnjjflbnaaChecked
import GoSem.Claim
import GoSem.ClaimJoined
import GoSem.ClaimMapViews
import Derived.JoinedTies
import Derived.KernelRfl
namespace Go.Proofs.Ytbmabfnjjflbnaa
/- THE CELL 'sum', in the pinned program and in every row, IS THE sha256 OF THE DUMP (.gsa) THAT YtbmabfnjjflbnaaProg.lean LOADS. Nothing in Lean hashes anything: it is a label: what it is worth is what the hold of that sum in a sandbox is worth. -/
noncomputable def Try.pinned : Pinned := { name := "ytbmabfnjjflbnaa", sum := "ac208e6551d0c71a78d8c86a96bfb8d7570d9d3edfec788e17ddeecf637c1cbf", checked := Try.checked }
namespace Rows
def none {H : Type} : Left H := { results := [], args := [] }

/-- 'aditlaw22.StagedLives': WHATEVER THE INPUT: true; the input reads as it did. -/
def stagedLivesSpec : ChangeSpec := { name := "stagedLives", fn := fun _ => fun
  | [d1, d2] => { results := [.lit (.bool true)], args := [d1, d2] }
  | _ => none }
def stagedLivesRow : OpenClaim := { program := "ytbmabfnjjflbnaa", sum := "ac208e6551d0c71a78d8c86a96bfb8d7570d9d3edfec788e17ddeecf637c1cbf", func := "adit/aditlaw22.StagedLives", spec := "stagedLives", apart := false }
def StagedLivesSaid : Prop := stagedLivesRow.holds Try.pinned (OpenSpec.ofChange stagedLivesSpec)

/-- ITS FALSE NEIGHBOUR: 'it returns false'. Refute it at one input. -/
def stagedLivesWrong : ChangeSpec := { name := "stagedLives", fn := fun _ => fun
  | [d1, d2] => { results := [.lit (.bool false)], args := [d1, d2] }
  | _ => none }
def StagedLivesWrongFalsely : Prop := stagedLivesRow.holds Try.pinned (OpenSpec.ofChange stagedLivesWrong)

/-- 'aditlaw22.StagedNobody': WHATEVER THE INPUT: true; the input reads as it did. -/
def stagedNobodySpec : ChangeSpec := { name := "stagedNobody", fn := fun _ => fun
  | [d] => { results := [.lit (.bool true)], args := [d] }
  | _ => none }
def stagedNobodyRow : OpenClaim := { program := "ytbmabfnjjflbnaa", sum := "ac208e6551d0c71a78d8c86a96bfb8d7570d9d3edfec788e17ddeecf637c1cbf", func := "adit/aditlaw22.StagedNobody", spec := "stagedNobody", apart := false }
def StagedNobodySaid : Prop := stagedNobodyRow.holds Try.pinned (OpenSpec.ofChange stagedNobodySpec)

/-- ITS FALSE NEIGHBOUR: 'it returns false'. Refute it at one input. -/
def stagedNobodyWrong : ChangeSpec := { name := "stagedNobody", fn := fun _ => fun
  | [d] => { results := [.lit (.bool false)], args := [d] }
  | _ => none }
def StagedNobodyWrongFalsely : Prop := stagedNobodyRow.holds Try.pinned (OpenSpec.ofChange stagedNobodyWrong)

/-- 'aditlaw22.StagedOrder': WHATEVER THE INPUT: true; the input reads as it did. -/
def stagedOrderSpec : ChangeSpec := { name := "stagedOrder", fn := fun _ => fun
  | [d] => { results := [.lit (.bool true)], args := [d] }
  | _ => none }
def stagedOrderRow : OpenClaim := { program := "ytbmabfnjjflbnaa", sum := "ac208e6551d0c71a78d8c86a96bfb8d7570d9d3edfec788e17ddeecf637c1cbf", func := "adit/aditlaw22.StagedOrder", spec := "stagedOrder", apart := false }
def StagedOrderSaid : Prop := stagedOrderRow.holds Try.pinned (OpenSpec.ofChange stagedOrderSpec)

/-- ITS FALSE NEIGHBOUR: 'it returns false'. Refute it at one input. -/
def stagedOrderWrong : ChangeSpec := { name := "stagedOrder", fn := fun _ => fun
  | [d] => { results := [.lit (.bool false)], args := [d] }
  | _ => none }
def StagedOrderWrongFalsely : Prop := stagedOrderRow.holds Try.pinned (OpenSpec.ofChange stagedOrderWrong)

/-- 'aditlaw22.StagedLast': WHATEVER THE INPUT: true; the input reads as it did. -/
def stagedLastSpec : ChangeSpec := { name := "stagedLast", fn := fun _ => fun
  | [d1, d2] => { results := [.lit (.bool true)], args := [d1, d2] }
  | _ => none }
def stagedLastRow : OpenClaim := { program := "ytbmabfnjjflbnaa", sum := "ac208e6551d0c71a78d8c86a96bfb8d7570d9d3edfec788e17ddeecf637c1cbf", func := "adit/aditlaw22.StagedLast", spec := "stagedLast", apart := false }
def StagedLastSaid : Prop := stagedLastRow.holds Try.pinned (OpenSpec.ofChange stagedLastSpec)

/-- ITS FALSE NEIGHBOUR: 'it returns false'. Refute it at one input. -/
def stagedLastWrong : ChangeSpec := { name := "stagedLast", fn := fun _ => fun
  | [d1, d2] => { results := [.lit (.bool false)], args := [d1, d2] }
  | _ => none }
def StagedLastWrongFalsely : Prop := stagedLastRow.holds Try.pinned (OpenSpec.ofChange stagedLastWrong)

/-- 'aditlaw22.StagedCounts': WHATEVER THE INPUT: true; the input reads as it did. -/
def stagedCountsSpec : ChangeSpec := { name := "stagedCounts", fn := fun _ => fun
  | [d] => { results := [.lit (.bool true)], args := [d] }
  | _ => none }
def stagedCountsRow : OpenClaim := { program := "ytbmabfnjjflbnaa", sum := "ac208e6551d0c71a78d8c86a96bfb8d7570d9d3edfec788e17ddeecf637c1cbf", func := "adit/aditlaw22.StagedCounts", spec := "stagedCounts", apart := false }
def StagedCountsSaid : Prop := stagedCountsRow.holds Try.pinned (OpenSpec.ofChange stagedCountsSpec)

/-- ITS FALSE NEIGHBOUR: 'it returns false'. Refute it at one input. -/
def stagedCountsWrong : ChangeSpec := { name := "stagedCounts", fn := fun _ => fun
  | [d] => { results := [.lit (.bool false)], args := [d] }
  | _ => none }
def StagedCountsWrongFalsely : Prop := stagedCountsRow.holds Try.pinned (OpenSpec.ofChange stagedCountsWrong)

/- THE SECOND FORM. 'bulk': how many values and letters a reading holds, each counted each time it is reached (what is shared counts as often as it is met; a slice's spare places count too). A statement '..UptoSaid' is the law's where the arguments, and the package variables that the reading takes, are together of bulk at most 1048576: NARROWER than '..Said'. Prove '..Said' where nothing that the law and all that it calls make is longer than what came in: it says more and counts as full. Else prove '..UptoSaid'. A law counts once. -/
mutual
def uptoBulk {H : Type} : DataW H → Nat
  | .lit (.string bytes) => bytes.length + 1
  | .lit _ => 1
  | .nil => 1
  | .ptr d => uptoBulk d + 1
  | .slice elems spare => uptoBulkAll elems + uptoBulkAll spare + 1
  | .agg parts => uptoBulkAll parts + 1
  | .iface _ d => uptoBulk d + 1
  | .map entries => uptoBulkEntries entries + 1
  | .held _ => 1
def uptoBulkAll {H : Type} : List (DataW H) → Nat
  | [] => 0
  | d :: r => uptoBulk d + uptoBulkAll r
def uptoBulkEntries {H : Type} : List (Lit × DataW H) → Nat
  | [] => 0
  | x :: r => uptoBulkEntry x + uptoBulkEntries r
def uptoBulkEntry {H : Type} : Lit × DataW H → Nat
  | (.string bytes, d) => bytes.length + uptoBulk d + 1
  | (_, d) => uptoBulk d + 1
 end
def uptoSmall : (H : Type) → List (DataW H) → Bool := fun _ ds => decide (uptoBulkAll ds ≤ 1048576)
def OpenSpec.upto (s : _root_.Go.ChangeSpec) : _root_.Go.OpenSpec := { _root_.Go.OpenSpec.ofChange s with cond := some uptoSmall }

/-- 'aditlaw22.StagedLives', WHERE WHAT IT READS IS OF BULK AT MOST 1048576: true; the input reads as it did. -/
def stagedLivesUptoRow : OpenClaim := { program := "ytbmabfnjjflbnaa", sum := "ac208e6551d0c71a78d8c86a96bfb8d7570d9d3edfec788e17ddeecf637c1cbf", func := "adit/aditlaw22.StagedLives", spec := "stagedLives", apart := false, narrowed := true }
def StagedLivesUptoSaid : Prop := stagedLivesUptoRow.holds Try.pinned (OpenSpec.upto stagedLivesSpec)

/-- 'aditlaw22.StagedNobody', WHERE WHAT IT READS IS OF BULK AT MOST 1048576: true; the input reads as it did. -/
def stagedNobodyUptoRow : OpenClaim := { program := "ytbmabfnjjflbnaa", sum := "ac208e6551d0c71a78d8c86a96bfb8d7570d9d3edfec788e17ddeecf637c1cbf", func := "adit/aditlaw22.StagedNobody", spec := "stagedNobody", apart := false, narrowed := true }
def StagedNobodyUptoSaid : Prop := stagedNobodyUptoRow.holds Try.pinned (OpenSpec.upto stagedNobodySpec)

/-- 'aditlaw22.StagedOrder', WHERE WHAT IT READS IS OF BULK AT MOST 1048576: true; the input reads as it did. -/
def stagedOrderUptoRow : OpenClaim := { program := "ytbmabfnjjflbnaa", sum := "ac208e6551d0c71a78d8c86a96bfb8d7570d9d3edfec788e17ddeecf637c1cbf", func := "adit/aditlaw22.StagedOrder", spec := "stagedOrder", apart := false, narrowed := true }
def StagedOrderUptoSaid : Prop := stagedOrderUptoRow.holds Try.pinned (OpenSpec.upto stagedOrderSpec)

/-- 'aditlaw22.StagedLast', WHERE WHAT IT READS IS OF BULK AT MOST 1048576: true; the input reads as it did. -/
def stagedLastUptoRow : OpenClaim := { program := "ytbmabfnjjflbnaa", sum := "ac208e6551d0c71a78d8c86a96bfb8d7570d9d3edfec788e17ddeecf637c1cbf", func := "adit/aditlaw22.StagedLast", spec := "stagedLast", apart := false, narrowed := true }
def StagedLastUptoSaid : Prop := stagedLastUptoRow.holds Try.pinned (OpenSpec.upto stagedLastSpec)

/-- 'aditlaw22.StagedCounts', WHERE WHAT IT READS IS OF BULK AT MOST 1048576: true; the input reads as it did. -/
def stagedCountsUptoRow : OpenClaim := { program := "ytbmabfnjjflbnaa", sum := "ac208e6551d0c71a78d8c86a96bfb8d7570d9d3edfec788e17ddeecf637c1cbf", func := "adit/aditlaw22.StagedCounts", spec := "stagedCounts", apart := false, narrowed := true }
def StagedCountsUptoSaid : Prop := stagedCountsUptoRow.holds Try.pinned (OpenSpec.upto stagedCountsSpec)

end Rows
end Go.Proofs.Ytbmabfnjjflbnaa
