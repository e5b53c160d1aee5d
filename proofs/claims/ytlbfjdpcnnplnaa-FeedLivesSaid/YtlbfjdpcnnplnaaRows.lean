/-
  No cell of these rows narrows 'for every input' (looked for: loops, veiled, ifaces, maps, wideKeys, modest, calm, conditions, laid).
  DERIVED. THE GIVEN ROWS OF THIS SEAT. 5 by the template 'for every input the law returns true; each argument reads behind the call as it read before'; 0 by the template 'total and deterministic' (their statements: YtlbfjdpcnnplnaaTotals.lean).
  GIVEN WITH THE SEED: the statements are not yours to turn. If you find one false, say at which input.
  Laid BY PROGRAM, IN A SANDBOX (cutbox-rows.mjs): the forced cells as the released guide's own fill.sh prints them over the translation 5cc26c65ae25d4ac… (all of the seat's roots in one cut). By AI agents, Wed Nov 11 2026. No macro, syntax, notation, axiom, sorry.
-/
import Derived.Test.YtlbfjdpcnnplnaaChecked
import GoSem.Claim
import GoSem.ClaimJoined
import GoSem.ClaimMapViews
import Derived.JoinedTies
import Derived.KernelRfl
namespace Go.Proofs.Ytlbfjdpcnnplnaa
/- THE CELL 'sum', in the pinned program and in every row, IS THE sha256 OF THE DUMP (.gsa) THAT YtlbfjdpcnnplnaaProg.lean LOADS. Nothing in Lean hashes anything: it is a label: what it is worth is what the hold of that sum in a sandbox is worth. -/
noncomputable def Try.pinned : Pinned := { name := "ytlbfjdpcnnplnaa", sum := "5cc26c65ae25d4acbc54e0fd3ee0466808c69669dfd8bd5928803b81f3136ae3", checked := Try.checked }
namespace Rows
def none {H : Type} : Left H := { results := [], args := [] }

/-- 'aditlaw25.FeedLives': WHATEVER THE INPUT: true; the input reads as it did. -/
def feedLivesSpec : ChangeSpec := { name := "feedLives", fn := fun _ => fun
  | [d1, d2] => { results := [.lit (.bool true)], args := [d1, d2] }
  | _ => none }
def feedLivesRow : OpenClaim := { program := "ytlbfjdpcnnplnaa", sum := "5cc26c65ae25d4acbc54e0fd3ee0466808c69669dfd8bd5928803b81f3136ae3", func := "adit/aditlaw25.FeedLives", spec := "feedLives", recurses := true, apart := false }
def FeedLivesSaid : Prop := feedLivesRow.holds Try.pinned (OpenSpec.ofChange feedLivesSpec)

/-- ITS FALSE NEIGHBOUR: 'it returns false'. Refute it at one input. -/
def feedLivesWrong : ChangeSpec := { name := "feedLives", fn := fun _ => fun
  | [d1, d2] => { results := [.lit (.bool false)], args := [d1, d2] }
  | _ => none }
def FeedLivesWrongFalsely : Prop := feedLivesRow.holds Try.pinned (OpenSpec.ofChange feedLivesWrong)

/-- 'aditlaw25.FeedNobody': WHATEVER THE INPUT: true; the input reads as it did. -/
def feedNobodySpec : ChangeSpec := { name := "feedNobody", fn := fun _ => fun
  | [d] => { results := [.lit (.bool true)], args := [d] }
  | _ => none }
def feedNobodyRow : OpenClaim := { program := "ytlbfjdpcnnplnaa", sum := "5cc26c65ae25d4acbc54e0fd3ee0466808c69669dfd8bd5928803b81f3136ae3", func := "adit/aditlaw25.FeedNobody", spec := "feedNobody", recurses := true, apart := false }
def FeedNobodySaid : Prop := feedNobodyRow.holds Try.pinned (OpenSpec.ofChange feedNobodySpec)

/-- ITS FALSE NEIGHBOUR: 'it returns false'. Refute it at one input. -/
def feedNobodyWrong : ChangeSpec := { name := "feedNobody", fn := fun _ => fun
  | [d] => { results := [.lit (.bool false)], args := [d] }
  | _ => none }
def FeedNobodyWrongFalsely : Prop := feedNobodyRow.holds Try.pinned (OpenSpec.ofChange feedNobodyWrong)

/-- 'aditlaw25.FeedGaps': WHATEVER THE INPUT: true; the input reads as it did. -/
def feedGapsSpec : ChangeSpec := { name := "feedGaps", fn := fun _ => fun
  | [d1, d2] => { results := [.lit (.bool true)], args := [d1, d2] }
  | _ => none }
def feedGapsRow : OpenClaim := { program := "ytlbfjdpcnnplnaa", sum := "5cc26c65ae25d4acbc54e0fd3ee0466808c69669dfd8bd5928803b81f3136ae3", func := "adit/aditlaw25.FeedGaps", spec := "feedGaps", apart := false }
def FeedGapsSaid : Prop := feedGapsRow.holds Try.pinned (OpenSpec.ofChange feedGapsSpec)

/-- ITS FALSE NEIGHBOUR: 'it returns false'. Refute it at one input. -/
def feedGapsWrong : ChangeSpec := { name := "feedGaps", fn := fun _ => fun
  | [d1, d2] => { results := [.lit (.bool false)], args := [d1, d2] }
  | _ => none }
def FeedGapsWrongFalsely : Prop := feedGapsRow.holds Try.pinned (OpenSpec.ofChange feedGapsWrong)

/-- 'aditlaw25.FeedApart': WHATEVER THE INPUT: true; the input reads as it did. -/
def feedApartSpec : ChangeSpec := { name := "feedApart", fn := fun _ => fun
  | [d] => { results := [.lit (.bool true)], args := [d] }
  | _ => none }
def feedApartRow : OpenClaim := { program := "ytlbfjdpcnnplnaa", sum := "5cc26c65ae25d4acbc54e0fd3ee0466808c69669dfd8bd5928803b81f3136ae3", func := "adit/aditlaw25.FeedApart", spec := "feedApart", apart := false }
def FeedApartSaid : Prop := feedApartRow.holds Try.pinned (OpenSpec.ofChange feedApartSpec)

/-- ITS FALSE NEIGHBOUR: 'it returns false'. Refute it at one input. -/
def feedApartWrong : ChangeSpec := { name := "feedApart", fn := fun _ => fun
  | [d] => { results := [.lit (.bool false)], args := [d] }
  | _ => none }
def FeedApartWrongFalsely : Prop := feedApartRow.holds Try.pinned (OpenSpec.ofChange feedApartWrong)

/-- 'aditlaw25.FeedOften': WHATEVER THE INPUT: true; the input reads as it did. -/
def feedOftenSpec : ChangeSpec := { name := "feedOften", fn := fun _ => fun
  | [d] => { results := [.lit (.bool true)], args := [d] }
  | _ => none }
def feedOftenRow : OpenClaim := { program := "ytlbfjdpcnnplnaa", sum := "5cc26c65ae25d4acbc54e0fd3ee0466808c69669dfd8bd5928803b81f3136ae3", func := "adit/aditlaw25.FeedOften", spec := "feedOften", apart := false }
def FeedOftenSaid : Prop := feedOftenRow.holds Try.pinned (OpenSpec.ofChange feedOftenSpec)

/-- ITS FALSE NEIGHBOUR: 'it returns false'. Refute it at one input. -/
def feedOftenWrong : ChangeSpec := { name := "feedOften", fn := fun _ => fun
  | [d] => { results := [.lit (.bool false)], args := [d] }
  | _ => none }
def FeedOftenWrongFalsely : Prop := feedOftenRow.holds Try.pinned (OpenSpec.ofChange feedOftenWrong)

/- THE SECOND FORM. 'bulk': how many values and letters a reading holds, each counted each time it is reached (what is shared counts as often as it is met; a slice's spare places count too). A statement '..UptoSaid' is the law's where the arguments, and the package variables that the reading takes, are together of bulk at most 1048576: NARROWER than '..Said'. Prove '..Said' where nothing that the law and all that it calls make is longer than what came in: it says more and counts as full. Else prove '..UptoSaid'. A law counts once. -/
mutual
def uptoBulk {H : Type} : DataW H → Nat
  | .lit (.string bytes) => bytes.length + 1
  | .lit _ => 1
  | .nil => 1
  | .ptr d => uptoBulk d + 1
  | .slice elems spare => uptoBulkAll elems + uptoBulkAll spare + 1
  | .agg parts => uptoBulkAll parts + 1
  | .iface _ d => uptoBulk d + 1
  | .map entries => uptoBulkEntries entries + 1
  | .held _ => 1
def uptoBulkAll {H : Type} : List (DataW H) → Nat
  | [] => 0
  | d :: r => uptoBulk d + uptoBulkAll r
def uptoBulkEntries {H : Type} : List (Lit × DataW H) → Nat
  | [] => 0
  | x :: r => uptoBulkEntry x + uptoBulkEntries r
def uptoBulkEntry {H : Type} : Lit × DataW H → Nat
  | (.string bytes, d) => bytes.length + uptoBulk d + 1
  | (_, d) => uptoBulk d + 1
 end
def uptoSmall : (H : Type) → List (DataW H) → Bool := fun _ ds => decide (uptoBulkAll ds ≤ 1048576)
def OpenSpec.upto (s : _root_.Go.ChangeSpec) : _root_.Go.OpenSpec := { _root_.Go.OpenSpec.ofChange s with cond := some uptoSmall }

/-- 'aditlaw25.FeedLives', WHERE WHAT IT READS IS OF BULK AT MOST 1048576: true; the input reads as it did. -/
def feedLivesUptoRow : OpenClaim := { program := "ytlbfjdpcnnplnaa", sum := "5cc26c65ae25d4acbc54e0fd3ee0466808c69669dfd8bd5928803b81f3136ae3", func := "adit/aditlaw25.FeedLives", spec := "feedLives", recurses := true, apart := false, narrowed := true }
def FeedLivesUptoSaid : Prop := feedLivesUptoRow.holds Try.pinned (OpenSpec.upto feedLivesSpec)

/-- 'aditlaw25.FeedNobody', WHERE WHAT IT READS IS OF BULK AT MOST 1048576: true; the input reads as it did. -/
def feedNobodyUptoRow : OpenClaim := { program := "ytlbfjdpcnnplnaa", sum := "5cc26c65ae25d4acbc54e0fd3ee0466808c69669dfd8bd5928803b81f3136ae3", func := "adit/aditlaw25.FeedNobody", spec := "feedNobody", recurses := true, apart := false, narrowed := true }
def FeedNobodyUptoSaid : Prop := feedNobodyUptoRow.holds Try.pinned (OpenSpec.upto feedNobodySpec)

/-- 'aditlaw25.FeedGaps', WHERE WHAT IT READS IS OF BULK AT MOST 1048576: true; the input reads as it did. -/
def feedGapsUptoRow : OpenClaim := { program := "ytlbfjdpcnnplnaa", sum := "5cc26c65ae25d4acbc54e0fd3ee0466808c69669dfd8bd5928803b81f3136ae3", func := "adit/aditlaw25.FeedGaps", spec := "feedGaps", apart := false, narrowed := true }
def FeedGapsUptoSaid : Prop := feedGapsUptoRow.holds Try.pinned (OpenSpec.upto feedGapsSpec)

/-- 'aditlaw25.FeedApart', WHERE WHAT IT READS IS OF BULK AT MOST 1048576: true; the input reads as it did. -/
def feedApartUptoRow : OpenClaim := { program := "ytlbfjdpcnnplnaa", sum := "5cc26c65ae25d4acbc54e0fd3ee0466808c69669dfd8bd5928803b81f3136ae3", func := "adit/aditlaw25.FeedApart", spec := "feedApart", apart := false, narrowed := true }
def FeedApartUptoSaid : Prop := feedApartUptoRow.holds Try.pinned (OpenSpec.upto feedApartSpec)

/-- 'aditlaw25.FeedOften', WHERE WHAT IT READS IS OF BULK AT MOST 1048576: true; the input reads as it did. -/
def feedOftenUptoRow : OpenClaim := { program := "ytlbfjdpcnnplnaa", sum := "5cc26c65ae25d4acbc54e0fd3ee0466808c69669dfd8bd5928803b81f3136ae3", func := "adit/aditlaw25.FeedOften", spec := "feedOften", apart := false, narrowed := true }
def FeedOftenUptoSaid : Prop := feedOftenUptoRow.holds Try.pinned (OpenSpec.upto feedOftenSpec)

end Rows
end Go.Proofs.Ytlbfjdpcnnplnaa
