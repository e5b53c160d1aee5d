/-
  No cell of these rows narrows 'for every input' (looked for: loops, veiled, ifaces, maps, wideKeys, modest, calm, conditions, laid).
  DERIVED. THE GIVEN ROWS OF THIS SEAT. 7 by the template 'for every input the law returns true; each argument reads behind the call as it read before'; 0 by the template 'total and deterministic' (their statements: YtnopjjkijedpeaaTotals.lean).
  GIVEN WITH THE SEED: the statements are not yours to turn. If you find one false, say at which input.
  Laid BY PROGRAM, IN A SANDBOX (cutbox-rows.mjs): the forced cells as the released guide's own fill.sh prints them over the translation d32fbe63094ec81d… (all of the seat's roots in one cut). By AI agents, Wed Nov 11 2026. No macro, syntax, notation, axiom, sorry.
-/
import Derived.Test.YtnopjjkijedpeaaChecked
import GoSem.Claim
import GoSem.ClaimJoined
import GoSem.ClaimMapViews
import Derived.JoinedTies
import Derived.KernelRfl
namespace Go.Proofs.Ytnopjjkijedpeaa
/- THE CELL 'sum', in the pinned program and in every row, IS THE sha256 OF THE DUMP (.gsa) THAT YtnopjjkijedpeaaProg.lean LOADS. Nothing in Lean hashes anything: it is a label: what it is worth is what the hold of that sum in a sandbox is worth. -/
noncomputable def Try.pinned : Pinned := { name := "ytnopjjkijedpeaa", sum := "d32fbe63094ec81db9ecdcd61c8d982dd8150b6cd9405faaad80cefbe152377b", checked := Try.checked }
namespace Rows
def none {H : Type} : Left H := { results := [], args := [] }

/-- 'aditlaw05.FieldSums': WHATEVER THE INPUT: true; the input reads as it did. -/
def fieldSumsSpec : ChangeSpec := { name := "fieldSums", fn := fun _ => fun
  | [d1, d2] => { results := [.lit (.bool true)], args := [d1, d2] }
  | _ => none }
def fieldSumsRow : OpenClaim := { program := "ytnopjjkijedpeaa", sum := "d32fbe63094ec81db9ecdcd61c8d982dd8150b6cd9405faaad80cefbe152377b", func := "adit/aditlaw05.FieldSums", spec := "fieldSums", inPlace := ["math/bits.Add64"], apart := false }
def FieldSumsSaid : Prop := fieldSumsRow.holds Try.pinned (OpenSpec.ofChange fieldSumsSpec)

/-- ITS FALSE NEIGHBOUR: 'it returns false'. Refute it at one input. -/
def fieldSumsWrong : ChangeSpec := { name := "fieldSums", fn := fun _ => fun
  | [d1, d2] => { results := [.lit (.bool false)], args := [d1, d2] }
  | _ => none }
def FieldSumsWrongFalsely : Prop := fieldSumsRow.holds Try.pinned (OpenSpec.ofChange fieldSumsWrong)

/-- 'aditlaw05.FieldElements': WHATEVER THE INPUT: true; the input reads as it did. -/
def fieldElementsSpec : ChangeSpec := { name := "fieldElements", fn := fun _ => fun
  | [d1, d2, d3, d4] => { results := [.lit (.bool true)], args := [d1, d2, d3, d4] }
  | _ => none }
def fieldElementsRow : OpenClaim := { program := "ytnopjjkijedpeaa", sum := "d32fbe63094ec81db9ecdcd61c8d982dd8150b6cd9405faaad80cefbe152377b", func := "adit/aditlaw05.FieldElements", spec := "fieldElements", inPlace := ["math/bits.Add64"], apart := false }
def FieldElementsSaid : Prop := fieldElementsRow.holds Try.pinned (OpenSpec.ofChange fieldElementsSpec)

/-- ITS FALSE NEIGHBOUR: 'it returns false'. Refute it at one input. -/
def fieldElementsWrong : ChangeSpec := { name := "fieldElements", fn := fun _ => fun
  | [d1, d2, d3, d4] => { results := [.lit (.bool false)], args := [d1, d2, d3, d4] }
  | _ => none }
def FieldElementsWrongFalsely : Prop := fieldElementsRow.holds Try.pinned (OpenSpec.ofChange fieldElementsWrong)

/-- 'aditlaw06.CurveMuls': WHATEVER THE INPUT: true; the input reads as it did. -/
def curveMulsSpec : ChangeSpec := { name := "curveMuls", fn := fun _ => fun
  | [d1, d2] => { results := [.lit (.bool true)], args := [d1, d2] }
  | _ => none }
def curveMulsRow : OpenClaim := { program := "ytnopjjkijedpeaa", sum := "d32fbe63094ec81db9ecdcd61c8d982dd8150b6cd9405faaad80cefbe152377b", func := "adit/aditlaw06.CurveMuls", spec := "curveMuls", inPlace := ["math/bits.Add64"], apart := false }
def CurveMulsSaid : Prop := curveMulsRow.holds Try.pinned (OpenSpec.ofChange curveMulsSpec)

/-- ITS FALSE NEIGHBOUR: 'it returns false'. Refute it at one input. -/
def curveMulsWrong : ChangeSpec := { name := "curveMuls", fn := fun _ => fun
  | [d1, d2] => { results := [.lit (.bool false)], args := [d1, d2] }
  | _ => none }
def CurveMulsWrongFalsely : Prop := curveMulsRow.holds Try.pinned (OpenSpec.ofChange curveMulsWrong)

/-- 'aditlaw06.CurveShares': WHATEVER THE INPUT: true; the input reads as it did. -/
def curveSharesSpec : ChangeSpec := { name := "curveShares", fn := fun _ => fun
  | [d1, d2] => { results := [.lit (.bool true)], args := [d1, d2] }
  | _ => none }
def curveSharesRow : OpenClaim := { program := "ytnopjjkijedpeaa", sum := "d32fbe63094ec81db9ecdcd61c8d982dd8150b6cd9405faaad80cefbe152377b", func := "adit/aditlaw06.CurveShares", spec := "curveShares", inPlace := ["math/bits.Add64"], apart := false }
def CurveSharesSaid : Prop := curveSharesRow.holds Try.pinned (OpenSpec.ofChange curveSharesSpec)

/-- ITS FALSE NEIGHBOUR: 'it returns false'. Refute it at one input. -/
def curveSharesWrong : ChangeSpec := { name := "curveShares", fn := fun _ => fun
  | [d1, d2] => { results := [.lit (.bool false)], args := [d1, d2] }
  | _ => none }
def CurveSharesWrongFalsely : Prop := curveSharesRow.holds Try.pinned (OpenSpec.ofChange curveSharesWrong)

/-- 'aditlaw06.CurveAgree': WHATEVER THE INPUT: true; the input reads as it did. -/
def curveAgreeSpec : ChangeSpec := { name := "curveAgree", fn := fun _ => fun
  | [d1, d2] => { results := [.lit (.bool true)], args := [d1, d2] }
  | _ => none }
def curveAgreeRow : OpenClaim := { program := "ytnopjjkijedpeaa", sum := "d32fbe63094ec81db9ecdcd61c8d982dd8150b6cd9405faaad80cefbe152377b", func := "adit/aditlaw06.CurveAgree", spec := "curveAgree", inPlace := ["math/bits.Add64"], apart := false }
def CurveAgreeSaid : Prop := curveAgreeRow.holds Try.pinned (OpenSpec.ofChange curveAgreeSpec)

/-- ITS FALSE NEIGHBOUR: 'it returns false'. Refute it at one input. -/
def curveAgreeWrong : ChangeSpec := { name := "curveAgree", fn := fun _ => fun
  | [d1, d2] => { results := [.lit (.bool false)], args := [d1, d2] }
  | _ => none }
def CurveAgreeWrongFalsely : Prop := curveAgreeRow.holds Try.pinned (OpenSpec.ofChange curveAgreeWrong)

/-- 'aditlaw06.CurveThree': WHATEVER THE INPUT: true; the input reads as it did. -/
def curveThreeSpec : ChangeSpec := { name := "curveThree", fn := fun _ => fun
  | [d1, d2, d3, d4] => { results := [.lit (.bool true)], args := [d1, d2, d3, d4] }
  | _ => none }
def curveThreeRow : OpenClaim := { program := "ytnopjjkijedpeaa", sum := "d32fbe63094ec81db9ecdcd61c8d982dd8150b6cd9405faaad80cefbe152377b", func := "adit/aditlaw06.CurveThree", spec := "curveThree", inPlace := ["math/bits.Add64"], apart := false }
def CurveThreeSaid : Prop := curveThreeRow.holds Try.pinned (OpenSpec.ofChange curveThreeSpec)

/-- ITS FALSE NEIGHBOUR: 'it returns false'. Refute it at one input. -/
def curveThreeWrong : ChangeSpec := { name := "curveThree", fn := fun _ => fun
  | [d1, d2, d3, d4] => { results := [.lit (.bool false)], args := [d1, d2, d3, d4] }
  | _ => none }
def CurveThreeWrongFalsely : Prop := curveThreeRow.holds Try.pinned (OpenSpec.ofChange curveThreeWrong)

/-- 'aditlaw06.CurvePlaces': WHATEVER THE INPUT: true; the input reads as it did. -/
def curvePlacesSpec : ChangeSpec := { name := "curvePlaces", fn := fun _ => fun
  | [d1, d2] => { results := [.lit (.bool true)], args := [d1, d2] }
  | _ => none }
def curvePlacesRow : OpenClaim := { program := "ytnopjjkijedpeaa", sum := "d32fbe63094ec81db9ecdcd61c8d982dd8150b6cd9405faaad80cefbe152377b", func := "adit/aditlaw06.CurvePlaces", spec := "curvePlaces", inPlace := ["math/bits.Add64"], apart := false }
def CurvePlacesSaid : Prop := curvePlacesRow.holds Try.pinned (OpenSpec.ofChange curvePlacesSpec)

/-- ITS FALSE NEIGHBOUR: 'it returns false'. Refute it at one input. -/
def curvePlacesWrong : ChangeSpec := { name := "curvePlaces", fn := fun _ => fun
  | [d1, d2] => { results := [.lit (.bool false)], args := [d1, d2] }
  | _ => none }
def CurvePlacesWrongFalsely : Prop := curvePlacesRow.holds Try.pinned (OpenSpec.ofChange curvePlacesWrong)

/- THE SECOND FORM. 'bulk': how many values and letters a reading holds, each counted each time it is reached (what is shared counts as often as it is met; a slice's spare places count too). A statement '..UptoSaid' is the law's where the arguments, and the package variables that the reading takes, are together of bulk at most 1048576: NARROWER than '..Said'. Prove '..Said' where nothing that the law and all that it calls make is longer than what came in: it says more and counts as full. Else prove '..UptoSaid'. A law counts once. -/
mutual
def uptoBulk {H : Type} : DataW H → Nat
  | .lit (.string bytes) => bytes.length + 1
  | .lit _ => 1
  | .nil => 1
  | .ptr d => uptoBulk d + 1
  | .slice elems spare => uptoBulkAll elems + uptoBulkAll spare + 1
  | .agg parts => uptoBulkAll parts + 1
  | .iface _ d => uptoBulk d + 1
  | .map entries => uptoBulkEntries entries + 1
  | .held _ => 1
def uptoBulkAll {H : Type} : List (DataW H) → Nat
  | [] => 0
  | d :: r => uptoBulk d + uptoBulkAll r
def uptoBulkEntries {H : Type} : List (Lit × DataW H) → Nat
  | [] => 0
  | x :: r => uptoBulkEntry x + uptoBulkEntries r
def uptoBulkEntry {H : Type} : Lit × DataW H → Nat
  | (.string bytes, d) => bytes.length + uptoBulk d + 1
  | (_, d) => uptoBulk d + 1
 end
def uptoSmall : (H : Type) → List (DataW H) → Bool := fun _ ds => decide (uptoBulkAll ds ≤ 1048576)
def OpenSpec.upto (s : _root_.Go.ChangeSpec) : _root_.Go.OpenSpec := { _root_.Go.OpenSpec.ofChange s with cond := some uptoSmall }

/-- 'aditlaw05.FieldSums', WHERE WHAT IT READS IS OF BULK AT MOST 1048576: true; the input reads as it did. -/
def fieldSumsUptoRow : OpenClaim := { program := "ytnopjjkijedpeaa", sum := "d32fbe63094ec81db9ecdcd61c8d982dd8150b6cd9405faaad80cefbe152377b", func := "adit/aditlaw05.FieldSums", spec := "fieldSums", inPlace := ["math/bits.Add64"], apart := false, narrowed := true }
def FieldSumsUptoSaid : Prop := fieldSumsUptoRow.holds Try.pinned (OpenSpec.upto fieldSumsSpec)

/-- 'aditlaw05.FieldElements', WHERE WHAT IT READS IS OF BULK AT MOST 1048576: true; the input reads as it did. -/
def fieldElementsUptoRow : OpenClaim := { program := "ytnopjjkijedpeaa", sum := "d32fbe63094ec81db9ecdcd61c8d982dd8150b6cd9405faaad80cefbe152377b", func := "adit/aditlaw05.FieldElements", spec := "fieldElements", inPlace := ["math/bits.Add64"], apart := false, narrowed := true }
def FieldElementsUptoSaid : Prop := fieldElementsUptoRow.holds Try.pinned (OpenSpec.upto fieldElementsSpec)

/-- 'aditlaw06.CurveMuls', WHERE WHAT IT READS IS OF BULK AT MOST 1048576: true; the input reads as it did. -/
def curveMulsUptoRow : OpenClaim := { program := "ytnopjjkijedpeaa", sum := "d32fbe63094ec81db9ecdcd61c8d982dd8150b6cd9405faaad80cefbe152377b", func := "adit/aditlaw06.CurveMuls", spec := "curveMuls", inPlace := ["math/bits.Add64"], apart := false, narrowed := true }
def CurveMulsUptoSaid : Prop := curveMulsUptoRow.holds Try.pinned (OpenSpec.upto curveMulsSpec)

/-- 'aditlaw06.CurveShares', WHERE WHAT IT READS IS OF BULK AT MOST 1048576: true; the input reads as it did. -/
def curveSharesUptoRow : OpenClaim := { program := "ytnopjjkijedpeaa", sum := "d32fbe63094ec81db9ecdcd61c8d982dd8150b6cd9405faaad80cefbe152377b", func := "adit/aditlaw06.CurveShares", spec := "curveShares", inPlace := ["math/bits.Add64"], apart := false, narrowed := true }
def CurveSharesUptoSaid : Prop := curveSharesUptoRow.holds Try.pinned (OpenSpec.upto curveSharesSpec)

/-- 'aditlaw06.CurveAgree', WHERE WHAT IT READS IS OF BULK AT MOST 1048576: true; the input reads as it did. -/
def curveAgreeUptoRow : OpenClaim := { program := "ytnopjjkijedpeaa", sum := "d32fbe63094ec81db9ecdcd61c8d982dd8150b6cd9405faaad80cefbe152377b", func := "adit/aditlaw06.CurveAgree", spec := "curveAgree", inPlace := ["math/bits.Add64"], apart := false, narrowed := true }
def CurveAgreeUptoSaid : Prop := curveAgreeUptoRow.holds Try.pinned (OpenSpec.upto curveAgreeSpec)

/-- 'aditlaw06.CurveThree', WHERE WHAT IT READS IS OF BULK AT MOST 1048576: true; the input reads as it did. -/
def curveThreeUptoRow : OpenClaim := { program := "ytnopjjkijedpeaa", sum := "d32fbe63094ec81db9ecdcd61c8d982dd8150b6cd9405faaad80cefbe152377b", func := "adit/aditlaw06.CurveThree", spec := "curveThree", inPlace := ["math/bits.Add64"], apart := false, narrowed := true }
def CurveThreeUptoSaid : Prop := curveThreeUptoRow.holds Try.pinned (OpenSpec.upto curveThreeSpec)

/-- 'aditlaw06.CurvePlaces', WHERE WHAT IT READS IS OF BULK AT MOST 1048576: true; the input reads as it did. -/
def curvePlacesUptoRow : OpenClaim := { program := "ytnopjjkijedpeaa", sum := "d32fbe63094ec81db9ecdcd61c8d982dd8150b6cd9405faaad80cefbe152377b", func := "adit/aditlaw06.CurvePlaces", spec := "curvePlaces", inPlace := ["math/bits.Add64"], apart := false, narrowed := true }
def CurvePlacesUptoSaid : Prop := curvePlacesUptoRow.holds Try.pinned (OpenSpec.upto curvePlacesSpec)

end Rows
end Go.Proofs.Ytnopjjkijedpeaa
