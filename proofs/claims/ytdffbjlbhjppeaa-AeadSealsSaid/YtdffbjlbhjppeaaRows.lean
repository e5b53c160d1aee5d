/-
  No cell of these rows narrows 'for every input' (looked for: loops, veiled, ifaces, maps, wideKeys, modest, calm, conditions, laid).
  DERIVED. THE GIVEN ROWS OF THIS SEAT. 11 by the template 'for every input the law returns true; each argument reads behind the call as it read before'; 0 by the template 'total and deterministic' (their statements: YtdffbjlbhjppeaaTotals.lean).
  GIVEN WITH THE SEED: the statements are not yours to turn. If you find one false, say at which input.
  Laid BY PROGRAM, IN A SANDBOX (cutbox-rows.mjs): the forced cells as the released guide's own fill.sh prints them over the translation 3112989087325467… (all of the seat's roots in one cut). By AI agents, Wed Nov 11 2026. No macro, syntax, notation, axiom, sorry.
-/
import Derived.Test.YtdffbjlbhjppeaaChecked
import GoSem.Claim
import GoSem.ClaimJoined
import GoSem.ClaimMapViews
import Derived.JoinedTies
import Derived.KernelRfl
namespace Go.Proofs.Ytdffbjlbhjppeaa
/- THE CELL 'sum', in the pinned program and in every row, IS THE sha256 OF THE DUMP (.gsa) THAT YtdffbjlbhjppeaaProg.lean LOADS. Nothing in Lean hashes anything: it is a label: what it is worth is what the hold of that sum in a sandbox is worth. -/
noncomputable def Try.pinned : Pinned := { name := "ytdffbjlbhjppeaa", sum := "31129890873254677daa642ebba73a8fca938dc08e88a98a356f29a7d90e55fa", checked := Try.checked }
namespace Rows
def none {H : Type} : Left H := { results := [], args := [] }

/-- 'aditlaw03.PolySums': WHATEVER THE INPUT: true; the input reads as it did. -/
def polySumsSpec : ChangeSpec := { name := "polySums", fn := fun _ => fun
  | [d1, d2] => { results := [.lit (.bool true)], args := [d1, d2] }
  | _ => none }
def polySumsRow : OpenClaim := { program := "ytdffbjlbhjppeaa", sum := "31129890873254677daa642ebba73a8fca938dc08e88a98a356f29a7d90e55fa", func := "adit/aditlaw03.PolySums", spec := "polySums", inPlace := ["math/bits.Add64"], apart := false }
def PolySumsSaid : Prop := polySumsRow.holds Try.pinned (OpenSpec.ofChange polySumsSpec)

/-- ITS FALSE NEIGHBOUR: 'it returns false'. Refute it at one input. -/
def polySumsWrong : ChangeSpec := { name := "polySums", fn := fun _ => fun
  | [d1, d2] => { results := [.lit (.bool false)], args := [d1, d2] }
  | _ => none }
def PolySumsWrongFalsely : Prop := polySumsRow.holds Try.pinned (OpenSpec.ofChange polySumsWrong)

/-- 'aditlaw03.PolyParts': WHATEVER THE INPUT: true; the input reads as it did. -/
def polyPartsSpec : ChangeSpec := { name := "polyParts", fn := fun _ => fun
  | [d1, d2] => { results := [.lit (.bool true)], args := [d1, d2] }
  | _ => none }
def polyPartsRow : OpenClaim := { program := "ytdffbjlbhjppeaa", sum := "31129890873254677daa642ebba73a8fca938dc08e88a98a356f29a7d90e55fa", func := "adit/aditlaw03.PolyParts", spec := "polyParts", inPlace := ["math/bits.Add64"], apart := false }
def PolyPartsSaid : Prop := polyPartsRow.holds Try.pinned (OpenSpec.ofChange polyPartsSpec)

/-- ITS FALSE NEIGHBOUR: 'it returns false'. Refute it at one input. -/
def polyPartsWrong : ChangeSpec := { name := "polyParts", fn := fun _ => fun
  | [d1, d2] => { results := [.lit (.bool false)], args := [d1, d2] }
  | _ => none }
def PolyPartsWrongFalsely : Prop := polyPartsRow.holds Try.pinned (OpenSpec.ofChange polyPartsWrong)

/-- 'aditlaw03.PolyNought': WHATEVER THE INPUT: true; the input reads as it did. -/
def polyNoughtSpec : ChangeSpec := { name := "polyNought", fn := fun _ => fun
  | [d1, d2] => { results := [.lit (.bool true)], args := [d1, d2] }
  | _ => none }
def polyNoughtRow : OpenClaim := { program := "ytdffbjlbhjppeaa", sum := "31129890873254677daa642ebba73a8fca938dc08e88a98a356f29a7d90e55fa", func := "adit/aditlaw03.PolyNought", spec := "polyNought", inPlace := ["math/bits.Add64"], apart := false }
def PolyNoughtSaid : Prop := polyNoughtRow.holds Try.pinned (OpenSpec.ofChange polyNoughtSpec)

/-- ITS FALSE NEIGHBOUR: 'it returns false'. Refute it at one input. -/
def polyNoughtWrong : ChangeSpec := { name := "polyNought", fn := fun _ => fun
  | [d1, d2] => { results := [.lit (.bool false)], args := [d1, d2] }
  | _ => none }
def PolyNoughtWrongFalsely : Prop := polyNoughtRow.holds Try.pinned (OpenSpec.ofChange polyNoughtWrong)

/-- 'aditlaw03.PolyMore': WHATEVER THE INPUT: true; the input reads as it did. -/
def polyMoreSpec : ChangeSpec := { name := "polyMore", fn := fun _ => fun
  | [d1, d2, d3] => { results := [.lit (.bool true)], args := [d1, d2, d3] }
  | _ => none }
def polyMoreRow : OpenClaim := { program := "ytdffbjlbhjppeaa", sum := "31129890873254677daa642ebba73a8fca938dc08e88a98a356f29a7d90e55fa", func := "adit/aditlaw03.PolyMore", spec := "polyMore", inPlace := ["math/bits.Add64"], apart := false }
def PolyMoreSaid : Prop := polyMoreRow.holds Try.pinned (OpenSpec.ofChange polyMoreSpec)

/-- ITS FALSE NEIGHBOUR: 'it returns false'. Refute it at one input. -/
def polyMoreWrong : ChangeSpec := { name := "polyMore", fn := fun _ => fun
  | [d1, d2, d3] => { results := [.lit (.bool false)], args := [d1, d2, d3] }
  | _ => none }
def PolyMoreWrongFalsely : Prop := polyMoreRow.holds Try.pinned (OpenSpec.ofChange polyMoreWrong)

/-- 'aditlaw03.PolyOne': WHATEVER THE INPUT: true; the input reads as it did. -/
def polyOneSpec : ChangeSpec := { name := "polyOne", fn := fun _ => fun
  | [d1, d2] => { results := [.lit (.bool true)], args := [d1, d2] }
  | _ => none }
def polyOneRow : OpenClaim := { program := "ytdffbjlbhjppeaa", sum := "31129890873254677daa642ebba73a8fca938dc08e88a98a356f29a7d90e55fa", func := "adit/aditlaw03.PolyOne", spec := "polyOne", inPlace := ["math/bits.Add64"], apart := false }
def PolyOneSaid : Prop := polyOneRow.holds Try.pinned (OpenSpec.ofChange polyOneSpec)

/-- ITS FALSE NEIGHBOUR: 'it returns false'. Refute it at one input. -/
def polyOneWrong : ChangeSpec := { name := "polyOne", fn := fun _ => fun
  | [d1, d2] => { results := [.lit (.bool false)], args := [d1, d2] }
  | _ => none }
def PolyOneWrongFalsely : Prop := polyOneRow.holds Try.pinned (OpenSpec.ofChange polyOneWrong)

/-- 'aditlaw04.AeadSeals': WHATEVER THE INPUT: true; the input reads as it did. -/
def aeadSealsSpec : ChangeSpec := { name := "aeadSeals", fn := fun _ => fun
  | [d1, d2, d3, d4, d5, d6] => { results := [.lit (.bool true)], args := [d1, d2, d3, d4, d5, d6] }
  | _ => none }
def aeadSealsRow : OpenClaim := { program := "ytdffbjlbhjppeaa", sum := "31129890873254677daa642ebba73a8fca938dc08e88a98a356f29a7d90e55fa", func := "adit/aditlaw04.AeadSeals", spec := "aeadSeals", inPlace := ["math/bits.Add64"], apart := false }
def AeadSealsSaid : Prop := aeadSealsRow.holds Try.pinned (OpenSpec.ofChange aeadSealsSpec)

/-- ITS FALSE NEIGHBOUR: 'it returns false'. Refute it at one input. -/
def aeadSealsWrong : ChangeSpec := { name := "aeadSeals", fn := fun _ => fun
  | [d1, d2, d3, d4, d5, d6] => { results := [.lit (.bool false)], args := [d1, d2, d3, d4, d5, d6] }
  | _ => none }
def AeadSealsWrongFalsely : Prop := aeadSealsRow.holds Try.pinned (OpenSpec.ofChange aeadSealsWrong)

/-- 'aditlaw04.AeadOpens': WHATEVER THE INPUT: true; the input reads as it did. -/
def aeadOpensSpec : ChangeSpec := { name := "aeadOpens", fn := fun _ => fun
  | [d1, d2, d3, d4, d5] => { results := [.lit (.bool true)], args := [d1, d2, d3, d4, d5] }
  | _ => none }
def aeadOpensRow : OpenClaim := { program := "ytdffbjlbhjppeaa", sum := "31129890873254677daa642ebba73a8fca938dc08e88a98a356f29a7d90e55fa", func := "adit/aditlaw04.AeadOpens", spec := "aeadOpens", inPlace := ["math/bits.Add64"], apart := false }
def AeadOpensSaid : Prop := aeadOpensRow.holds Try.pinned (OpenSpec.ofChange aeadOpensSpec)

/-- ITS FALSE NEIGHBOUR: 'it returns false'. Refute it at one input. -/
def aeadOpensWrong : ChangeSpec := { name := "aeadOpens", fn := fun _ => fun
  | [d1, d2, d3, d4, d5] => { results := [.lit (.bool false)], args := [d1, d2, d3, d4, d5] }
  | _ => none }
def AeadOpensWrongFalsely : Prop := aeadOpensRow.holds Try.pinned (OpenSpec.ofChange aeadOpensWrong)

/-- 'aditlaw04.AeadBack': WHATEVER THE INPUT: true; the input reads as it did. -/
def aeadBackSpec : ChangeSpec := { name := "aeadBack", fn := fun _ => fun
  | [d1, d2, d3, d4, d5, d6] => { results := [.lit (.bool true)], args := [d1, d2, d3, d4, d5, d6] }
  | _ => none }
def aeadBackRow : OpenClaim := { program := "ytdffbjlbhjppeaa", sum := "31129890873254677daa642ebba73a8fca938dc08e88a98a356f29a7d90e55fa", func := "adit/aditlaw04.AeadBack", spec := "aeadBack", inPlace := ["math/bits.Add64"], apart := false }
def AeadBackSaid : Prop := aeadBackRow.holds Try.pinned (OpenSpec.ofChange aeadBackSpec)

/-- ITS FALSE NEIGHBOUR: 'it returns false'. Refute it at one input. -/
def aeadBackWrong : ChangeSpec := { name := "aeadBack", fn := fun _ => fun
  | [d1, d2, d3, d4, d5, d6] => { results := [.lit (.bool false)], args := [d1, d2, d3, d4, d5, d6] }
  | _ => none }
def AeadBackWrongFalsely : Prop := aeadBackRow.holds Try.pinned (OpenSpec.ofChange aeadBackWrong)

/-- 'aditlaw04.AeadTurned': WHATEVER THE INPUT: true; the input reads as it did. -/
def aeadTurnedSpec : ChangeSpec := { name := "aeadTurned", fn := fun _ => fun
  | [d1, d2, d3, d4, d5, d6] => { results := [.lit (.bool true)], args := [d1, d2, d3, d4, d5, d6] }
  | _ => none }
def aeadTurnedRow : OpenClaim := { program := "ytdffbjlbhjppeaa", sum := "31129890873254677daa642ebba73a8fca938dc08e88a98a356f29a7d90e55fa", func := "adit/aditlaw04.AeadTurned", spec := "aeadTurned", inPlace := ["math/bits.Add64"], apart := false }
def AeadTurnedSaid : Prop := aeadTurnedRow.holds Try.pinned (OpenSpec.ofChange aeadTurnedSpec)

/-- ITS FALSE NEIGHBOUR: 'it returns false'. Refute it at one input. -/
def aeadTurnedWrong : ChangeSpec := { name := "aeadTurned", fn := fun _ => fun
  | [d1, d2, d3, d4, d5, d6] => { results := [.lit (.bool false)], args := [d1, d2, d3, d4, d5, d6] }
  | _ => none }
def AeadTurnedWrongFalsely : Prop := aeadTurnedRow.holds Try.pinned (OpenSpec.ofChange aeadTurnedWrong)

/-- 'aditlaw04.AeadNonces': WHATEVER THE INPUT: true; the input reads as it did. -/
def aeadNoncesSpec : ChangeSpec := { name := "aeadNonces", fn := fun _ => fun
  | [d1, d2] => { results := [.lit (.bool true)], args := [d1, d2] }
  | _ => none }
def aeadNoncesRow : OpenClaim := { program := "ytdffbjlbhjppeaa", sum := "31129890873254677daa642ebba73a8fca938dc08e88a98a356f29a7d90e55fa", func := "adit/aditlaw04.AeadNonces", spec := "aeadNonces", inPlace := ["math/bits.Add64"], apart := false }
def AeadNoncesSaid : Prop := aeadNoncesRow.holds Try.pinned (OpenSpec.ofChange aeadNoncesSpec)

/-- ITS FALSE NEIGHBOUR: 'it returns false'. Refute it at one input. -/
def aeadNoncesWrong : ChangeSpec := { name := "aeadNonces", fn := fun _ => fun
  | [d1, d2] => { results := [.lit (.bool false)], args := [d1, d2] }
  | _ => none }
def AeadNoncesWrongFalsely : Prop := aeadNoncesRow.holds Try.pinned (OpenSpec.ofChange aeadNoncesWrong)

/-- 'aditlaw04.AeadLength': WHATEVER THE INPUT: true; the input reads as it did. -/
def aeadLengthSpec : ChangeSpec := { name := "aeadLength", fn := fun _ => fun
  | [d1, d2, d3, d4, d5] => { results := [.lit (.bool true)], args := [d1, d2, d3, d4, d5] }
  | _ => none }
def aeadLengthRow : OpenClaim := { program := "ytdffbjlbhjppeaa", sum := "31129890873254677daa642ebba73a8fca938dc08e88a98a356f29a7d90e55fa", func := "adit/aditlaw04.AeadLength", spec := "aeadLength", inPlace := ["math/bits.Add64"], apart := false }
def AeadLengthSaid : Prop := aeadLengthRow.holds Try.pinned (OpenSpec.ofChange aeadLengthSpec)

/-- ITS FALSE NEIGHBOUR: 'it returns false'. Refute it at one input. -/
def aeadLengthWrong : ChangeSpec := { name := "aeadLength", fn := fun _ => fun
  | [d1, d2, d3, d4, d5] => { results := [.lit (.bool false)], args := [d1, d2, d3, d4, d5] }
  | _ => none }
def AeadLengthWrongFalsely : Prop := aeadLengthRow.holds Try.pinned (OpenSpec.ofChange aeadLengthWrong)

/- THE SECOND FORM. 'bulk': how many values and letters a reading holds, each counted each time it is reached (what is shared counts as often as it is met; a slice's spare places count too). A statement '..UptoSaid' is the law's where the arguments, and the package variables that the reading takes, are together of bulk at most 1048576: NARROWER than '..Said'. Prove '..Said' where nothing that the law and all that it calls make is longer than what came in: it says more and counts as full. Else prove '..UptoSaid'. A law counts once. -/
mutual
def uptoBulk {H : Type} : DataW H → Nat
  | .lit (.string bytes) => bytes.length + 1
  | .lit _ => 1
  | .nil => 1
  | .ptr d => uptoBulk d + 1
  | .slice elems spare => uptoBulkAll elems + uptoBulkAll spare + 1
  | .agg parts => uptoBulkAll parts + 1
  | .iface _ d => uptoBulk d + 1
  | .map entries => uptoBulkEntries entries + 1
  | .held _ => 1
def uptoBulkAll {H : Type} : List (DataW H) → Nat
  | [] => 0
  | d :: r => uptoBulk d + uptoBulkAll r
def uptoBulkEntries {H : Type} : List (Lit × DataW H) → Nat
  | [] => 0
  | x :: r => uptoBulkEntry x + uptoBulkEntries r
def uptoBulkEntry {H : Type} : Lit × DataW H → Nat
  | (.string bytes, d) => bytes.length + uptoBulk d + 1
  | (_, d) => uptoBulk d + 1
 end
def uptoSmall : (H : Type) → List (DataW H) → Bool := fun _ ds => decide (uptoBulkAll ds ≤ 1048576)
def OpenSpec.upto (s : _root_.Go.ChangeSpec) : _root_.Go.OpenSpec := { _root_.Go.OpenSpec.ofChange s with cond := some uptoSmall }

/-- 'aditlaw03.PolySums', WHERE WHAT IT READS IS OF BULK AT MOST 1048576: true; the input reads as it did. -/
def polySumsUptoRow : OpenClaim := { program := "ytdffbjlbhjppeaa", sum := "31129890873254677daa642ebba73a8fca938dc08e88a98a356f29a7d90e55fa", func := "adit/aditlaw03.PolySums", spec := "polySums", inPlace := ["math/bits.Add64"], apart := false, narrowed := true }
def PolySumsUptoSaid : Prop := polySumsUptoRow.holds Try.pinned (OpenSpec.upto polySumsSpec)

/-- 'aditlaw03.PolyParts', WHERE WHAT IT READS IS OF BULK AT MOST 1048576: true; the input reads as it did. -/
def polyPartsUptoRow : OpenClaim := { program := "ytdffbjlbhjppeaa", sum := "31129890873254677daa642ebba73a8fca938dc08e88a98a356f29a7d90e55fa", func := "adit/aditlaw03.PolyParts", spec := "polyParts", inPlace := ["math/bits.Add64"], apart := false, narrowed := true }
def PolyPartsUptoSaid : Prop := polyPartsUptoRow.holds Try.pinned (OpenSpec.upto polyPartsSpec)

/-- 'aditlaw03.PolyNought', WHERE WHAT IT READS IS OF BULK AT MOST 1048576: true; the input reads as it did. -/
def polyNoughtUptoRow : OpenClaim := { program := "ytdffbjlbhjppeaa", sum := "31129890873254677daa642ebba73a8fca938dc08e88a98a356f29a7d90e55fa", func := "adit/aditlaw03.PolyNought", spec := "polyNought", inPlace := ["math/bits.Add64"], apart := false, narrowed := true }
def PolyNoughtUptoSaid : Prop := polyNoughtUptoRow.holds Try.pinned (OpenSpec.upto polyNoughtSpec)

/-- 'aditlaw03.PolyMore', WHERE WHAT IT READS IS OF BULK AT MOST 1048576: true; the input reads as it did. -/
def polyMoreUptoRow : OpenClaim := { program := "ytdffbjlbhjppeaa", sum := "31129890873254677daa642ebba73a8fca938dc08e88a98a356f29a7d90e55fa", func := "adit/aditlaw03.PolyMore", spec := "polyMore", inPlace := ["math/bits.Add64"], apart := false, narrowed := true }
def PolyMoreUptoSaid : Prop := polyMoreUptoRow.holds Try.pinned (OpenSpec.upto polyMoreSpec)

/-- 'aditlaw03.PolyOne', WHERE WHAT IT READS IS OF BULK AT MOST 1048576: true; the input reads as it did. -/
def polyOneUptoRow : OpenClaim := { program := "ytdffbjlbhjppeaa", sum := "31129890873254677daa642ebba73a8fca938dc08e88a98a356f29a7d90e55fa", func := "adit/aditlaw03.PolyOne", spec := "polyOne", inPlace := ["math/bits.Add64"], apart := false, narrowed := true }
def PolyOneUptoSaid : Prop := polyOneUptoRow.holds Try.pinned (OpenSpec.upto polyOneSpec)

/-- 'aditlaw04.AeadSeals', WHERE WHAT IT READS IS OF BULK AT MOST 1048576: true; the input reads as it did. -/
def aeadSealsUptoRow : OpenClaim := { program := "ytdffbjlbhjppeaa", sum := "31129890873254677daa642ebba73a8fca938dc08e88a98a356f29a7d90e55fa", func := "adit/aditlaw04.AeadSeals", spec := "aeadSeals", inPlace := ["math/bits.Add64"], apart := false, narrowed := true }
def AeadSealsUptoSaid : Prop := aeadSealsUptoRow.holds Try.pinned (OpenSpec.upto aeadSealsSpec)

/-- 'aditlaw04.AeadOpens', WHERE WHAT IT READS IS OF BULK AT MOST 1048576: true; the input reads as it did. -/
def aeadOpensUptoRow : OpenClaim := { program := "ytdffbjlbhjppeaa", sum := "31129890873254677daa642ebba73a8fca938dc08e88a98a356f29a7d90e55fa", func := "adit/aditlaw04.AeadOpens", spec := "aeadOpens", inPlace := ["math/bits.Add64"], apart := false, narrowed := true }
def AeadOpensUptoSaid : Prop := aeadOpensUptoRow.holds Try.pinned (OpenSpec.upto aeadOpensSpec)

/-- 'aditlaw04.AeadBack', WHERE WHAT IT READS IS OF BULK AT MOST 1048576: true; the input reads as it did. -/
def aeadBackUptoRow : OpenClaim := { program := "ytdffbjlbhjppeaa", sum := "31129890873254677daa642ebba73a8fca938dc08e88a98a356f29a7d90e55fa", func := "adit/aditlaw04.AeadBack", spec := "aeadBack", inPlace := ["math/bits.Add64"], apart := false, narrowed := true }
def AeadBackUptoSaid : Prop := aeadBackUptoRow.holds Try.pinned (OpenSpec.upto aeadBackSpec)

/-- 'aditlaw04.AeadTurned', WHERE WHAT IT READS IS OF BULK AT MOST 1048576: true; the input reads as it did. -/
def aeadTurnedUptoRow : OpenClaim := { program := "ytdffbjlbhjppeaa", sum := "31129890873254677daa642ebba73a8fca938dc08e88a98a356f29a7d90e55fa", func := "adit/aditlaw04.AeadTurned", spec := "aeadTurned", inPlace := ["math/bits.Add64"], apart := false, narrowed := true }
def AeadTurnedUptoSaid : Prop := aeadTurnedUptoRow.holds Try.pinned (OpenSpec.upto aeadTurnedSpec)

/-- 'aditlaw04.AeadNonces', WHERE WHAT IT READS IS OF BULK AT MOST 1048576: true; the input reads as it did. -/
def aeadNoncesUptoRow : OpenClaim := { program := "ytdffbjlbhjppeaa", sum := "31129890873254677daa642ebba73a8fca938dc08e88a98a356f29a7d90e55fa", func := "adit/aditlaw04.AeadNonces", spec := "aeadNonces", inPlace := ["math/bits.Add64"], apart := false, narrowed := true }
def AeadNoncesUptoSaid : Prop := aeadNoncesUptoRow.holds Try.pinned (OpenSpec.upto aeadNoncesSpec)

/-- 'aditlaw04.AeadLength', WHERE WHAT IT READS IS OF BULK AT MOST 1048576: true; the input reads as it did. -/
def aeadLengthUptoRow : OpenClaim := { program := "ytdffbjlbhjppeaa", sum := "31129890873254677daa642ebba73a8fca938dc08e88a98a356f29a7d90e55fa", func := "adit/aditlaw04.AeadLength", spec := "aeadLength", inPlace := ["math/bits.Add64"], apart := false, narrowed := true }
def AeadLengthUptoSaid : Prop := aeadLengthUptoRow.holds Try.pinned (OpenSpec.upto aeadLengthSpec)

end Rows
end Go.Proofs.Ytdffbjlbhjppeaa
