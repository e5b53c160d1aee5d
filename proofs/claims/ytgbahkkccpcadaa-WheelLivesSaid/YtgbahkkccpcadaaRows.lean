/-
  No cell of these rows narrows 'for every input' (looked for: loops, veiled, ifaces, maps, wideKeys, modest, calm, conditions, laid).
  DERIVED. THE GIVEN ROWS OF THIS SEAT. 4 by the template 'for every input the law returns true; each argument reads behind the call as it read before'; 0 by the template 'total and deterministic' (their statements: YtgbahkkccpcadaaTotals.lean).
  GIVEN WITH THE SEED: the statements are not yours to turn. If you find one false, say at which input.
  Laid BY PROGRAM, IN A SANDBOX (cutbox-rows.mjs): the forced cells as the released guide's own fill.sh prints them over the translation 80de825c379f2b4b… (all of the seat's roots in one cut). By AI agents, Wed Nov 11 2026. No macro, syntax, notation, axiom, sorry.
-/
import Derived.Test.YtgbahkkccpcadaaChecked
import GoSem.Claim
import GoSem.ClaimJoined
import GoSem.ClaimMapViews
import Derived.JoinedTies
import Derived.KernelRfl
namespace Go.Proofs.Ytgbahkkccpcadaa
/- THE CELL 'sum', in the pinned program and in every row, IS THE sha256 OF THE DUMP (.gsa) THAT YtgbahkkccpcadaaProg.lean LOADS. Nothing in Lean hashes anything: it is a label: what it is worth is what the hold of that sum in a sandbox is worth. -/
noncomputable def Try.pinned : Pinned := { name := "ytgbahkkccpcadaa", sum := "80de825c379f2b4bf13e7429061c97ee00344d9cfcab0e1331d70350308cfe95", checked := Try.checked }
namespace Rows
def none {H : Type} : Left H := { results := [], args := [] }

/-- 'aditlaw21.WheelLives': WHATEVER THE INPUT: true; the input reads as it did. -/
def wheelLivesSpec : ChangeSpec := { name := "wheelLives", fn := fun _ => fun
  | [d1, d2, d3, d4] => { results := [.lit (.bool true)], args := [d1, d2, d3, d4] }
  | _ => none }
def wheelLivesRow : OpenClaim := { program := "ytgbahkkccpcadaa", sum := "80de825c379f2b4bf13e7429061c97ee00344d9cfcab0e1331d70350308cfe95", func := "adit/aditlaw21.WheelLives", spec := "wheelLives", inPlace := ["slices.overlaps[adit/wheel.Timer]"], unfollowed := true, recurses := true, plainKeys := false, apart := false }
def WheelLivesSaid : Prop := wheelLivesRow.holds Try.pinned (OpenSpec.ofChange wheelLivesSpec)

/-- ITS FALSE NEIGHBOUR: 'it returns false'. Refute it at one input. -/
def wheelLivesWrong : ChangeSpec := { name := "wheelLives", fn := fun _ => fun
  | [d1, d2, d3, d4] => { results := [.lit (.bool false)], args := [d1, d2, d3, d4] }
  | _ => none }
def WheelLivesWrongFalsely : Prop := wheelLivesRow.holds Try.pinned (OpenSpec.ofChange wheelLivesWrong)

/-- 'aditlaw21.WheelNobody': WHATEVER THE INPUT: true; the input reads as it did. -/
def wheelNobodySpec : ChangeSpec := { name := "wheelNobody", fn := fun _ => fun
  | [d] => { results := [.lit (.bool true)], args := [d] }
  | _ => none }
def wheelNobodyRow : OpenClaim := { program := "ytgbahkkccpcadaa", sum := "80de825c379f2b4bf13e7429061c97ee00344d9cfcab0e1331d70350308cfe95", func := "adit/aditlaw21.WheelNobody", spec := "wheelNobody", inPlace := ["slices.overlaps[adit/wheel.Timer]"], unfollowed := true, recurses := true, plainKeys := false, apart := false }
def WheelNobodySaid : Prop := wheelNobodyRow.holds Try.pinned (OpenSpec.ofChange wheelNobodySpec)

/-- ITS FALSE NEIGHBOUR: 'it returns false'. Refute it at one input. -/
def wheelNobodyWrong : ChangeSpec := { name := "wheelNobody", fn := fun _ => fun
  | [d] => { results := [.lit (.bool false)], args := [d] }
  | _ => none }
def WheelNobodyWrongFalsely : Prop := wheelNobodyRow.holds Try.pinned (OpenSpec.ofChange wheelNobodyWrong)

/-- 'aditlaw21.WheelOnce': WHATEVER THE INPUT: true; the input reads as it did. -/
def wheelOnceSpec : ChangeSpec := { name := "wheelOnce", fn := fun _ => fun
  | [d1, d2] => { results := [.lit (.bool true)], args := [d1, d2] }
  | _ => none }
def wheelOnceRow : OpenClaim := { program := "ytgbahkkccpcadaa", sum := "80de825c379f2b4bf13e7429061c97ee00344d9cfcab0e1331d70350308cfe95", func := "adit/aditlaw21.WheelOnce", spec := "wheelOnce", inPlace := ["slices.overlaps[adit/wheel.Timer]"], unfollowed := true, recurses := true, plainKeys := false, apart := false }
def WheelOnceSaid : Prop := wheelOnceRow.holds Try.pinned (OpenSpec.ofChange wheelOnceSpec)

/-- ITS FALSE NEIGHBOUR: 'it returns false'. Refute it at one input. -/
def wheelOnceWrong : ChangeSpec := { name := "wheelOnce", fn := fun _ => fun
  | [d1, d2] => { results := [.lit (.bool false)], args := [d1, d2] }
  | _ => none }
def WheelOnceWrongFalsely : Prop := wheelOnceRow.holds Try.pinned (OpenSpec.ofChange wheelOnceWrong)

/-- 'aditlaw21.WheelSteps': WHATEVER THE INPUT: true; the input reads as it did. -/
def wheelStepsSpec : ChangeSpec := { name := "wheelSteps", fn := fun _ => fun
  | [d1, d2, d3] => { results := [.lit (.bool true)], args := [d1, d2, d3] }
  | _ => none }
def wheelStepsRow : OpenClaim := { program := "ytgbahkkccpcadaa", sum := "80de825c379f2b4bf13e7429061c97ee00344d9cfcab0e1331d70350308cfe95", func := "adit/aditlaw21.WheelSteps", spec := "wheelSteps", inPlace := ["slices.overlaps[adit/wheel.Timer]"], unfollowed := true, recurses := true, plainKeys := false, apart := false }
def WheelStepsSaid : Prop := wheelStepsRow.holds Try.pinned (OpenSpec.ofChange wheelStepsSpec)

/-- ITS FALSE NEIGHBOUR: 'it returns false'. Refute it at one input. -/
def wheelStepsWrong : ChangeSpec := { name := "wheelSteps", fn := fun _ => fun
  | [d1, d2, d3] => { results := [.lit (.bool false)], args := [d1, d2, d3] }
  | _ => none }
def WheelStepsWrongFalsely : Prop := wheelStepsRow.holds Try.pinned (OpenSpec.ofChange wheelStepsWrong)

/- THE SECOND FORM. 'bulk': how many values and letters a reading holds, each counted each time it is reached (what is shared counts as often as it is met; a slice's spare places count too). A statement '..UptoSaid' is the law's where the arguments, and the package variables that the reading takes, are together of bulk at most 1048576: NARROWER than '..Said'. Prove '..Said' where nothing that the law and all that it calls make is longer than what came in: it says more and counts as full. Else prove '..UptoSaid'. A law counts once. -/
mutual
def uptoBulk {H : Type} : DataW H → Nat
  | .lit (.string bytes) => bytes.length + 1
  | .lit _ => 1
  | .nil => 1
  | .ptr d => uptoBulk d + 1
  | .slice elems spare => uptoBulkAll elems + uptoBulkAll spare + 1
  | .agg parts => uptoBulkAll parts + 1
  | .iface _ d => uptoBulk d + 1
  | .map entries => uptoBulkEntries entries + 1
  | .held _ => 1
def uptoBulkAll {H : Type} : List (DataW H) → Nat
  | [] => 0
  | d :: r => uptoBulk d + uptoBulkAll r
def uptoBulkEntries {H : Type} : List (Lit × DataW H) → Nat
  | [] => 0
  | x :: r => uptoBulkEntry x + uptoBulkEntries r
def uptoBulkEntry {H : Type} : Lit × DataW H → Nat
  | (.string bytes, d) => bytes.length + uptoBulk d + 1
  | (_, d) => uptoBulk d + 1
 end
def uptoSmall : (H : Type) → List (DataW H) → Bool := fun _ ds => decide (uptoBulkAll ds ≤ 1048576)
def OpenSpec.upto (s : _root_.Go.ChangeSpec) : _root_.Go.OpenSpec := { _root_.Go.OpenSpec.ofChange s with cond := some uptoSmall }

/-- 'aditlaw21.WheelLives', WHERE WHAT IT READS IS OF BULK AT MOST 1048576: true; the input reads as it did. -/
def wheelLivesUptoRow : OpenClaim := { program := "ytgbahkkccpcadaa", sum := "80de825c379f2b4bf13e7429061c97ee00344d9cfcab0e1331d70350308cfe95", func := "adit/aditlaw21.WheelLives", spec := "wheelLives", inPlace := ["slices.overlaps[adit/wheel.Timer]"], unfollowed := true, recurses := true, plainKeys := false, apart := false, narrowed := true }
def WheelLivesUptoSaid : Prop := wheelLivesUptoRow.holds Try.pinned (OpenSpec.upto wheelLivesSpec)

/-- 'aditlaw21.WheelNobody', WHERE WHAT IT READS IS OF BULK AT MOST 1048576: true; the input reads as it did. -/
def wheelNobodyUptoRow : OpenClaim := { program := "ytgbahkkccpcadaa", sum := "80de825c379f2b4bf13e7429061c97ee00344d9cfcab0e1331d70350308cfe95", func := "adit/aditlaw21.WheelNobody", spec := "wheelNobody", inPlace := ["slices.overlaps[adit/wheel.Timer]"], unfollowed := true, recurses := true, plainKeys := false, apart := false, narrowed := true }
def WheelNobodyUptoSaid : Prop := wheelNobodyUptoRow.holds Try.pinned (OpenSpec.upto wheelNobodySpec)

/-- 'aditlaw21.WheelOnce', WHERE WHAT IT READS IS OF BULK AT MOST 1048576: true; the input reads as it did. -/
def wheelOnceUptoRow : OpenClaim := { program := "ytgbahkkccpcadaa", sum := "80de825c379f2b4bf13e7429061c97ee00344d9cfcab0e1331d70350308cfe95", func := "adit/aditlaw21.WheelOnce", spec := "wheelOnce", inPlace := ["slices.overlaps[adit/wheel.Timer]"], unfollowed := true, recurses := true, plainKeys := false, apart := false, narrowed := true }
def WheelOnceUptoSaid : Prop := wheelOnceUptoRow.holds Try.pinned (OpenSpec.upto wheelOnceSpec)

/-- 'aditlaw21.WheelSteps', WHERE WHAT IT READS IS OF BULK AT MOST 1048576: true; the input reads as it did. -/
def wheelStepsUptoRow : OpenClaim := { program := "ytgbahkkccpcadaa", sum := "80de825c379f2b4bf13e7429061c97ee00344d9cfcab0e1331d70350308cfe95", func := "adit/aditlaw21.WheelSteps", spec := "wheelSteps", inPlace := ["slices.overlaps[adit/wheel.Timer]"], unfollowed := true, recurses := true, plainKeys := false, apart := false, narrowed := true }
def WheelStepsUptoSaid : Prop := wheelStepsUptoRow.holds Try.pinned (OpenSpec.upto wheelStepsSpec)

end Rows
end Go.Proofs.Ytgbahkkccpcadaa
