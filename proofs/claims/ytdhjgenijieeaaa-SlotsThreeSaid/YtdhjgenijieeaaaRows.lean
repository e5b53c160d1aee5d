/-
  No cell of these rows narrows 'for every input' (looked for: loops, veiled, ifaces, maps, wideKeys, modest, calm, conditions, laid).
  DERIVED. THE GIVEN ROWS OF THIS SEAT. 3 by the template 'for every input the law returns true; each argument reads behind the call as it read before'; 0 by the template 'total and deterministic' (their statements: YtdhjgenijieeaaaTotals.lean).
  GIVEN WITH THE SEED: the statements are not yours to turn. If you find one false, say at which input.
  Laid BY PROGRAM, IN A SANDBOX (cutbox-rows.mjs): the forced cells as the released guide's own fill.sh prints them over the translation 272c7846ef7cfa07… (all of the seat's roots in one cut). By AI agents, Wed Nov 11 2026. No macro, syntax, notation, axiom, sorry.
-/
import Derived.Test.YtdhjgenijieeaaaChecked
import GoSem.Claim
import GoSem.ClaimJoined
import GoSem.ClaimMapViews
import Derived.JoinedTies
import Derived.KernelRfl
namespace Go.Proofs.Ytdhjgenijieeaaa
/- THE CELL 'sum', in the pinned program and in every row, IS THE sha256 OF THE DUMP (.gsa) THAT YtdhjgenijieeaaaProg.lean LOADS. Nothing in Lean hashes anything: it is a label: what it is worth is what the hold of that sum in a sandbox is worth. -/
noncomputable def Try.pinned : Pinned := { name := "ytdhjgenijieeaaa", sum := "272c7846ef7cfa070d428b120d369c7cd194030ecfd24703b23d28f136500e30", checked := Try.checked }
namespace Rows
def none {H : Type} : Left H := { results := [], args := [] }

/-- 'aditlaw28.SlotsThree': WHATEVER THE INPUT: true; the input reads as it did. -/
def slotsThreeSpec : ChangeSpec := { name := "slotsThree", fn := fun _ => fun
  | [d] => { results := [.lit (.bool true)], args := [d] }
  | _ => none }
def slotsThreeRow : OpenClaim := { program := "ytdhjgenijieeaaa", sum := "272c7846ef7cfa070d428b120d369c7cd194030ecfd24703b23d28f136500e30", func := "adit/aditlaw28.SlotsThree", spec := "slotsThree", inPlace := ["math/bits.Add64"], apart := false }
def SlotsThreeSaid : Prop := slotsThreeRow.holds Try.pinned (OpenSpec.ofChange slotsThreeSpec)

/-- ITS FALSE NEIGHBOUR: 'it returns false'. Refute it at one input. -/
def slotsThreeWrong : ChangeSpec := { name := "slotsThree", fn := fun _ => fun
  | [d] => { results := [.lit (.bool false)], args := [d] }
  | _ => none }
def SlotsThreeWrongFalsely : Prop := slotsThreeRow.holds Try.pinned (OpenSpec.ofChange slotsThreeWrong)

/-- 'aditlaw28.SlotsBoth': WHATEVER THE INPUT: true; the input reads as it did. -/
def slotsBothSpec : ChangeSpec := { name := "slotsBoth", fn := fun _ => fun
  | [d1, d2, d3, d4] => { results := [.lit (.bool true)], args := [d1, d2, d3, d4] }
  | _ => none }
def slotsBothRow : OpenClaim := { program := "ytdhjgenijieeaaa", sum := "272c7846ef7cfa070d428b120d369c7cd194030ecfd24703b23d28f136500e30", func := "adit/aditlaw28.SlotsBoth", spec := "slotsBoth", inPlace := ["math/bits.Add64"], apart := false }
def SlotsBothSaid : Prop := slotsBothRow.holds Try.pinned (OpenSpec.ofChange slotsBothSpec)

/-- ITS FALSE NEIGHBOUR: 'it returns false'. Refute it at one input. -/
def slotsBothWrong : ChangeSpec := { name := "slotsBoth", fn := fun _ => fun
  | [d1, d2, d3, d4] => { results := [.lit (.bool false)], args := [d1, d2, d3, d4] }
  | _ => none }
def SlotsBothWrongFalsely : Prop := slotsBothRow.holds Try.pinned (OpenSpec.ofChange slotsBothWrong)

/-- 'aditlaw28.SlotsOld': WHATEVER THE INPUT: true; the input reads as it did. -/
def slotsOldSpec : ChangeSpec := { name := "slotsOld", fn := fun _ => fun
  | [d1, d2] => { results := [.lit (.bool true)], args := [d1, d2] }
  | _ => none }
def slotsOldRow : OpenClaim := { program := "ytdhjgenijieeaaa", sum := "272c7846ef7cfa070d428b120d369c7cd194030ecfd24703b23d28f136500e30", func := "adit/aditlaw28.SlotsOld", spec := "slotsOld", inPlace := ["math/bits.Add64"], apart := false }
def SlotsOldSaid : Prop := slotsOldRow.holds Try.pinned (OpenSpec.ofChange slotsOldSpec)

/-- ITS FALSE NEIGHBOUR: 'it returns false'. Refute it at one input. -/
def slotsOldWrong : ChangeSpec := { name := "slotsOld", fn := fun _ => fun
  | [d1, d2] => { results := [.lit (.bool false)], args := [d1, d2] }
  | _ => none }
def SlotsOldWrongFalsely : Prop := slotsOldRow.holds Try.pinned (OpenSpec.ofChange slotsOldWrong)

/- THE SECOND FORM. 'bulk': how many values and letters a reading holds, each counted each time it is reached (what is shared counts as often as it is met; a slice's spare places count too). A statement '..UptoSaid' is the law's where the arguments, and the package variables that the reading takes, are together of bulk at most 1048576: NARROWER than '..Said'. Prove '..Said' where nothing that the law and all that it calls make is longer than what came in: it says more and counts as full. Else prove '..UptoSaid'. A law counts once. -/
mutual
def uptoBulk {H : Type} : DataW H → Nat
  | .lit (.string bytes) => bytes.length + 1
  | .lit _ => 1
  | .nil => 1
  | .ptr d => uptoBulk d + 1
  | .slice elems spare => uptoBulkAll elems + uptoBulkAll spare + 1
  | .agg parts => uptoBulkAll parts + 1
  | .iface _ d => uptoBulk d + 1
  | .map entries => uptoBulkEntries entries + 1
  | .held _ => 1
def uptoBulkAll {H : Type} : List (DataW H) → Nat
  | [] => 0
  | d :: r => uptoBulk d + uptoBulkAll r
def uptoBulkEntries {H : Type} : List (Lit × DataW H) → Nat
  | [] => 0
  | x :: r => uptoBulkEntry x + uptoBulkEntries r
def uptoBulkEntry {H : Type} : Lit × DataW H → Nat
  | (.string bytes, d) => bytes.length + uptoBulk d + 1
  | (_, d) => uptoBulk d + 1
 end
def uptoSmall : (H : Type) → List (DataW H) → Bool := fun _ ds => decide (uptoBulkAll ds ≤ 1048576)
def OpenSpec.upto (s : _root_.Go.ChangeSpec) : _root_.Go.OpenSpec := { _root_.Go.OpenSpec.ofChange s with cond := some uptoSmall }

/-- 'aditlaw28.SlotsThree', WHERE WHAT IT READS IS OF BULK AT MOST 1048576: true; the input reads as it did. -/
def slotsThreeUptoRow : OpenClaim := { program := "ytdhjgenijieeaaa", sum := "272c7846ef7cfa070d428b120d369c7cd194030ecfd24703b23d28f136500e30", func := "adit/aditlaw28.SlotsThree", spec := "slotsThree", inPlace := ["math/bits.Add64"], apart := false, narrowed := true }
def SlotsThreeUptoSaid : Prop := slotsThreeUptoRow.holds Try.pinned (OpenSpec.upto slotsThreeSpec)

/-- 'aditlaw28.SlotsBoth', WHERE WHAT IT READS IS OF BULK AT MOST 1048576: true; the input reads as it did. -/
def slotsBothUptoRow : OpenClaim := { program := "ytdhjgenijieeaaa", sum := "272c7846ef7cfa070d428b120d369c7cd194030ecfd24703b23d28f136500e30", func := "adit/aditlaw28.SlotsBoth", spec := "slotsBoth", inPlace := ["math/bits.Add64"], apart := false, narrowed := true }
def SlotsBothUptoSaid : Prop := slotsBothUptoRow.holds Try.pinned (OpenSpec.upto slotsBothSpec)

/-- 'aditlaw28.SlotsOld', WHERE WHAT IT READS IS OF BULK AT MOST 1048576: true; the input reads as it did. -/
def slotsOldUptoRow : OpenClaim := { program := "ytdhjgenijieeaaa", sum := "272c7846ef7cfa070d428b120d369c7cd194030ecfd24703b23d28f136500e30", func := "adit/aditlaw28.SlotsOld", spec := "slotsOld", inPlace := ["math/bits.Add64"], apart := false, narrowed := true }
def SlotsOldUptoSaid : Prop := slotsOldUptoRow.holds Try.pinned (OpenSpec.upto slotsOldSpec)

end Rows
end Go.Proofs.Ytdhjgenijieeaaa
