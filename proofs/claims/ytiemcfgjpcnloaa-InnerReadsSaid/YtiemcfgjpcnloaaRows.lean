/-
  No cell of these rows narrows 'for every input' (looked for: loops, veiled, ifaces, maps, wideKeys, modest, calm, conditions, laid).
  DERIVED. THE GIVEN ROWS OF THIS SEAT. 5 by the template 'for every input the law returns true; each argument reads behind the call as it read before'; 0 by the template 'total and deterministic' (their statements: YtiemcfgjpcnloaaTotals.lean).
  GIVEN WITH THE SEED: the statements are not yours to turn. If you find one false, say at which input.
  Laid BY PROGRAM, IN A SANDBOX (cutbox-rows.mjs): the forced cells as the released guide's own fill.sh prints them over the translation 36229215be5b317d… (all of the seat's roots in one cut). By AI agents, Wed Nov 11 2026. No macro, syntax, notation, axiom, sorry.
-/
import Derived.Test.YtiemcfgjpcnloaaChecked
import GoSem.Claim
import GoSem.ClaimJoined
import GoSem.ClaimMapViews
import Derived.JoinedTies
import Derived.KernelRfl
namespace Go.Proofs.Ytiemcfgjpcnloaa
/- THE CELL 'sum', in the pinned program and in every row, IS THE sha256 OF THE DUMP (.gsa) THAT YtiemcfgjpcnloaaProg.lean LOADS. Nothing in Lean hashes anything: it is a label: what it is worth is what the hold of that sum in a sandbox is worth. -/
noncomputable def Try.pinned : Pinned := { name := "ytiemcfgjpcnloaa", sum := "36229215be5b317d9e0402a66754562d33bb103318a626eaf3ad3473899a7fa7", checked := Try.checked }
namespace Rows
def none {H : Type} : Left H := { results := [], args := [] }

/-- 'aditlaw12.InnerReads': WHATEVER THE INPUT: true; the input reads as it did. -/
def innerReadsSpec : ChangeSpec := { name := "innerReads", fn := fun _ => fun
  | [d] => { results := [.lit (.bool true)], args := [d] }
  | _ => none }
def innerReadsRow : OpenClaim := { program := "ytiemcfgjpcnloaa", sum := "36229215be5b317d9e0402a66754562d33bb103318a626eaf3ad3473899a7fa7", func := "adit/aditlaw12.InnerReads", spec := "innerReads", apart := false }
def InnerReadsSaid : Prop := innerReadsRow.holds Try.pinned (OpenSpec.ofChange innerReadsSpec)

/-- ITS FALSE NEIGHBOUR: 'it returns false'. Refute it at one input. -/
def innerReadsWrong : ChangeSpec := { name := "innerReads", fn := fun _ => fun
  | [d] => { results := [.lit (.bool false)], args := [d] }
  | _ => none }
def InnerReadsWrongFalsely : Prop := innerReadsRow.holds Try.pinned (OpenSpec.ofChange innerReadsWrong)

/-- 'aditlaw12.InnerBack': WHATEVER THE INPUT: true; the input reads as it did. -/
def innerBackSpec : ChangeSpec := { name := "innerBack", fn := fun _ => fun
  | [d1, d2, d3] => { results := [.lit (.bool true)], args := [d1, d2, d3] }
  | _ => none }
def innerBackRow : OpenClaim := { program := "ytiemcfgjpcnloaa", sum := "36229215be5b317d9e0402a66754562d33bb103318a626eaf3ad3473899a7fa7", func := "adit/aditlaw12.InnerBack", spec := "innerBack", apart := false }
def InnerBackSaid : Prop := innerBackRow.holds Try.pinned (OpenSpec.ofChange innerBackSpec)

/-- ITS FALSE NEIGHBOUR: 'it returns false'. Refute it at one input. -/
def innerBackWrong : ChangeSpec := { name := "innerBack", fn := fun _ => fun
  | [d1, d2, d3] => { results := [.lit (.bool false)], args := [d1, d2, d3] }
  | _ => none }
def InnerBackWrongFalsely : Prop := innerBackRow.holds Try.pinned (OpenSpec.ofChange innerBackWrong)

/-- 'aditlaw12.InnerSize': WHATEVER THE INPUT: true; the input reads as it did. -/
def innerSizeSpec : ChangeSpec := { name := "innerSize", fn := fun _ => fun
  | [d1, d2] => { results := [.lit (.bool true)], args := [d1, d2] }
  | _ => none }
def innerSizeRow : OpenClaim := { program := "ytiemcfgjpcnloaa", sum := "36229215be5b317d9e0402a66754562d33bb103318a626eaf3ad3473899a7fa7", func := "adit/aditlaw12.InnerSize", spec := "innerSize", apart := false }
def InnerSizeSaid : Prop := innerSizeRow.holds Try.pinned (OpenSpec.ofChange innerSizeSpec)

/-- ITS FALSE NEIGHBOUR: 'it returns false'. Refute it at one input. -/
def innerSizeWrong : ChangeSpec := { name := "innerSize", fn := fun _ => fun
  | [d1, d2] => { results := [.lit (.bool false)], args := [d1, d2] }
  | _ => none }
def InnerSizeWrongFalsely : Prop := innerSizeRow.holds Try.pinned (OpenSpec.ofChange innerSizeWrong)

/-- 'aditlaw12.InnerTurned': WHATEVER THE INPUT: true; the input reads as it did. -/
def innerTurnedSpec : ChangeSpec := { name := "innerTurned", fn := fun _ => fun
  | [d1, d2, d3, d4, d5] => { results := [.lit (.bool true)], args := [d1, d2, d3, d4, d5] }
  | _ => none }
def innerTurnedRow : OpenClaim := { program := "ytiemcfgjpcnloaa", sum := "36229215be5b317d9e0402a66754562d33bb103318a626eaf3ad3473899a7fa7", func := "adit/aditlaw12.InnerTurned", spec := "innerTurned", apart := false }
def InnerTurnedSaid : Prop := innerTurnedRow.holds Try.pinned (OpenSpec.ofChange innerTurnedSpec)

/-- ITS FALSE NEIGHBOUR: 'it returns false'. Refute it at one input. -/
def innerTurnedWrong : ChangeSpec := { name := "innerTurned", fn := fun _ => fun
  | [d1, d2, d3, d4, d5] => { results := [.lit (.bool false)], args := [d1, d2, d3, d4, d5] }
  | _ => none }
def InnerTurnedWrongFalsely : Prop := innerTurnedRow.holds Try.pinned (OpenSpec.ofChange innerTurnedWrong)

/-- 'aditlaw12.InnerSums': WHATEVER THE INPUT: true; the input reads as it did. -/
def innerSumsSpec : ChangeSpec := { name := "innerSums", fn := fun _ => fun
  | [d1, d2] => { results := [.lit (.bool true)], args := [d1, d2] }
  | _ => none }
def innerSumsRow : OpenClaim := { program := "ytiemcfgjpcnloaa", sum := "36229215be5b317d9e0402a66754562d33bb103318a626eaf3ad3473899a7fa7", func := "adit/aditlaw12.InnerSums", spec := "innerSums", apart := false }
def InnerSumsSaid : Prop := innerSumsRow.holds Try.pinned (OpenSpec.ofChange innerSumsSpec)

/-- ITS FALSE NEIGHBOUR: 'it returns false'. Refute it at one input. -/
def innerSumsWrong : ChangeSpec := { name := "innerSums", fn := fun _ => fun
  | [d1, d2] => { results := [.lit (.bool false)], args := [d1, d2] }
  | _ => none }
def InnerSumsWrongFalsely : Prop := innerSumsRow.holds Try.pinned (OpenSpec.ofChange innerSumsWrong)

/- THE SECOND FORM. 'bulk': how many values and letters a reading holds, each counted each time it is reached (what is shared counts as often as it is met; a slice's spare places count too). A statement '..UptoSaid' is the law's where the arguments, and the package variables that the reading takes, are together of bulk at most 1048576: NARROWER than '..Said'. Prove '..Said' where nothing that the law and all that it calls make is longer than what came in: it says more and counts as full. Else prove '..UptoSaid'. A law counts once. -/
mutual
def uptoBulk {H : Type} : DataW H → Nat
  | .lit (.string bytes) => bytes.length + 1
  | .lit _ => 1
  | .nil => 1
  | .ptr d => uptoBulk d + 1
  | .slice elems spare => uptoBulkAll elems + uptoBulkAll spare + 1
  | .agg parts => uptoBulkAll parts + 1
  | .iface _ d => uptoBulk d + 1
  | .map entries => uptoBulkEntries entries + 1
  | .held _ => 1
def uptoBulkAll {H : Type} : List (DataW H) → Nat
  | [] => 0
  | d :: r => uptoBulk d + uptoBulkAll r
def uptoBulkEntries {H : Type} : List (Lit × DataW H) → Nat
  | [] => 0
  | x :: r => uptoBulkEntry x + uptoBulkEntries r
def uptoBulkEntry {H : Type} : Lit × DataW H → Nat
  | (.string bytes, d) => bytes.length + uptoBulk d + 1
  | (_, d) => uptoBulk d + 1
 end
def uptoSmall : (H : Type) → List (DataW H) → Bool := fun _ ds => decide (uptoBulkAll ds ≤ 1048576)
def OpenSpec.upto (s : _root_.Go.ChangeSpec) : _root_.Go.OpenSpec := { _root_.Go.OpenSpec.ofChange s with cond := some uptoSmall }

/-- 'aditlaw12.InnerReads', WHERE WHAT IT READS IS OF BULK AT MOST 1048576: true; the input reads as it did. -/
def innerReadsUptoRow : OpenClaim := { program := "ytiemcfgjpcnloaa", sum := "36229215be5b317d9e0402a66754562d33bb103318a626eaf3ad3473899a7fa7", func := "adit/aditlaw12.InnerReads", spec := "innerReads", apart := false, narrowed := true }
def InnerReadsUptoSaid : Prop := innerReadsUptoRow.holds Try.pinned (OpenSpec.upto innerReadsSpec)

/-- 'aditlaw12.InnerBack', WHERE WHAT IT READS IS OF BULK AT MOST 1048576: true; the input reads as it did. -/
def innerBackUptoRow : OpenClaim := { program := "ytiemcfgjpcnloaa", sum := "36229215be5b317d9e0402a66754562d33bb103318a626eaf3ad3473899a7fa7", func := "adit/aditlaw12.InnerBack", spec := "innerBack", apart := false, narrowed := true }
def InnerBackUptoSaid : Prop := innerBackUptoRow.holds Try.pinned (OpenSpec.upto innerBackSpec)

/-- 'aditlaw12.InnerSize', WHERE WHAT IT READS IS OF BULK AT MOST 1048576: true; the input reads as it did. -/
def innerSizeUptoRow : OpenClaim := { program := "ytiemcfgjpcnloaa", sum := "36229215be5b317d9e0402a66754562d33bb103318a626eaf3ad3473899a7fa7", func := "adit/aditlaw12.InnerSize", spec := "innerSize", apart := false, narrowed := true }
def InnerSizeUptoSaid : Prop := innerSizeUptoRow.holds Try.pinned (OpenSpec.upto innerSizeSpec)

/-- 'aditlaw12.InnerTurned', WHERE WHAT IT READS IS OF BULK AT MOST 1048576: true; the input reads as it did. -/
def innerTurnedUptoRow : OpenClaim := { program := "ytiemcfgjpcnloaa", sum := "36229215be5b317d9e0402a66754562d33bb103318a626eaf3ad3473899a7fa7", func := "adit/aditlaw12.InnerTurned", spec := "innerTurned", apart := false, narrowed := true }
def InnerTurnedUptoSaid : Prop := innerTurnedUptoRow.holds Try.pinned (OpenSpec.upto innerTurnedSpec)

/-- 'aditlaw12.InnerSums', WHERE WHAT IT READS IS OF BULK AT MOST 1048576: true; the input reads as it did. -/
def innerSumsUptoRow : OpenClaim := { program := "ytiemcfgjpcnloaa", sum := "36229215be5b317d9e0402a66754562d33bb103318a626eaf3ad3473899a7fa7", func := "adit/aditlaw12.InnerSums", spec := "innerSums", apart := false, narrowed := true }
def InnerSumsUptoSaid : Prop := innerSumsUptoRow.holds Try.pinned (OpenSpec.upto innerSumsSpec)

end Rows
end Go.Proofs.Ytiemcfgjpcnloaa
