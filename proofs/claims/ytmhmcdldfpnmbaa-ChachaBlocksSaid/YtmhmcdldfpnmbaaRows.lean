/-
  No cell of these rows narrows 'for every input' (looked for: loops, veiled, ifaces, maps, wideKeys, modest, calm, conditions, laid).
  DERIVED. THE GIVEN ROWS OF THIS SEAT. 11 by the template 'for every input the law returns true; each argument reads behind the call as it read before'; 0 by the template 'total and deterministic' (their statements: YtmhmcdldfpnmbaaTotals.lean).
  GIVEN WITH THE SEED: the statements are not yours to turn. If you find one false, say at which input.
  Laid BY PROGRAM, IN A SANDBOX (cutbox-rows.mjs): the forced cells as the released guide's own fill.sh prints them over the translation 6a69b0dbbe1e0c23… (all of the seat's roots in one cut). By AI agents, Wed Nov 11 2026. No macro, syntax, notation, axiom, sorry.
-/
import Derived.Test.YtmhmcdldfpnmbaaChecked
import GoSem.Claim
import GoSem.ClaimJoined
import GoSem.ClaimMapViews
import Derived.JoinedTies
import Derived.KernelRfl
namespace Go.Proofs.Ytmhmcdldfpnmbaa
/- THE CELL 'sum', in the pinned program and in every row, IS THE sha256 OF THE DUMP (.gsa) THAT YtmhmcdldfpnmbaaProg.lean LOADS. Nothing in Lean hashes anything: it is a label: what it is worth is what the hold of that sum in a sandbox is worth. -/
noncomputable def Try.pinned : Pinned := { name := "ytmhmcdldfpnmbaa", sum := "6a69b0dbbe1e0c23aca84c4bc95c3faf3b9659201fde6c1b33aba6d0470b8c3c", checked := Try.checked }
namespace Rows
def none {H : Type} : Left H := { results := [], args := [] }

/-- 'aditlaw01.WordsLoads': WHATEVER THE INPUT: true; the input reads as it did. -/
def wordsLoadsSpec : ChangeSpec := { name := "wordsLoads", fn := fun _ => fun
  | [d1, d2, d3] => { results := [.lit (.bool true)], args := [d1, d2, d3] }
  | _ => none }
def wordsLoadsRow : OpenClaim := { program := "ytmhmcdldfpnmbaa", sum := "6a69b0dbbe1e0c23aca84c4bc95c3faf3b9659201fde6c1b33aba6d0470b8c3c", func := "adit/aditlaw01.WordsLoads", spec := "wordsLoads", apart := false }
def WordsLoadsSaid : Prop := wordsLoadsRow.holds Try.pinned (OpenSpec.ofChange wordsLoadsSpec)

/-- ITS FALSE NEIGHBOUR: 'it returns false'. Refute it at one input. -/
def wordsLoadsWrong : ChangeSpec := { name := "wordsLoads", fn := fun _ => fun
  | [d1, d2, d3] => { results := [.lit (.bool false)], args := [d1, d2, d3] }
  | _ => none }
def WordsLoadsWrongFalsely : Prop := wordsLoadsRow.holds Try.pinned (OpenSpec.ofChange wordsLoadsWrong)

/-- 'aditlaw01.WordsPuts': WHATEVER THE INPUT: true; the input reads as it did. -/
def wordsPutsSpec : ChangeSpec := { name := "wordsPuts", fn := fun _ => fun
  | [d1, d2, d3, d4] => { results := [.lit (.bool true)], args := [d1, d2, d3, d4] }
  | _ => none }
def wordsPutsRow : OpenClaim := { program := "ytmhmcdldfpnmbaa", sum := "6a69b0dbbe1e0c23aca84c4bc95c3faf3b9659201fde6c1b33aba6d0470b8c3c", func := "adit/aditlaw01.WordsPuts", spec := "wordsPuts", apart := false }
def WordsPutsSaid : Prop := wordsPutsRow.holds Try.pinned (OpenSpec.ofChange wordsPutsSpec)

/-- ITS FALSE NEIGHBOUR: 'it returns false'. Refute it at one input. -/
def wordsPutsWrong : ChangeSpec := { name := "wordsPuts", fn := fun _ => fun
  | [d1, d2, d3, d4] => { results := [.lit (.bool false)], args := [d1, d2, d3, d4] }
  | _ => none }
def WordsPutsWrongFalsely : Prop := wordsPutsRow.holds Try.pinned (OpenSpec.ofChange wordsPutsWrong)

/-- 'aditlaw01.WordsDigits': WHATEVER THE INPUT: true; the input reads as it did. -/
def wordsDigitsSpec : ChangeSpec := { name := "wordsDigits", fn := fun _ => fun
  | [d1, d2, d3] => { results := [.lit (.bool true)], args := [d1, d2, d3] }
  | _ => none }
def wordsDigitsRow : OpenClaim := { program := "ytmhmcdldfpnmbaa", sum := "6a69b0dbbe1e0c23aca84c4bc95c3faf3b9659201fde6c1b33aba6d0470b8c3c", func := "adit/aditlaw01.WordsDigits", spec := "wordsDigits", apart := false }
def WordsDigitsSaid : Prop := wordsDigitsRow.holds Try.pinned (OpenSpec.ofChange wordsDigitsSpec)

/-- ITS FALSE NEIGHBOUR: 'it returns false'. Refute it at one input. -/
def wordsDigitsWrong : ChangeSpec := { name := "wordsDigits", fn := fun _ => fun
  | [d1, d2, d3] => { results := [.lit (.bool false)], args := [d1, d2, d3] }
  | _ => none }
def WordsDigitsWrongFalsely : Prop := wordsDigitsRow.holds Try.pinned (OpenSpec.ofChange wordsDigitsWrong)

/-- 'aditlaw01.WordsBack': WHATEVER THE INPUT: true; the input reads as it did. -/
def wordsBackSpec : ChangeSpec := { name := "wordsBack", fn := fun _ => fun
  | [d1, d2, d3] => { results := [.lit (.bool true)], args := [d1, d2, d3] }
  | _ => none }
def wordsBackRow : OpenClaim := { program := "ytmhmcdldfpnmbaa", sum := "6a69b0dbbe1e0c23aca84c4bc95c3faf3b9659201fde6c1b33aba6d0470b8c3c", func := "adit/aditlaw01.WordsBack", spec := "wordsBack", apart := false }
def WordsBackSaid : Prop := wordsBackRow.holds Try.pinned (OpenSpec.ofChange wordsBackSpec)

/-- ITS FALSE NEIGHBOUR: 'it returns false'. Refute it at one input. -/
def wordsBackWrong : ChangeSpec := { name := "wordsBack", fn := fun _ => fun
  | [d1, d2, d3] => { results := [.lit (.bool false)], args := [d1, d2, d3] }
  | _ => none }
def WordsBackWrongFalsely : Prop := wordsBackRow.holds Try.pinned (OpenSpec.ofChange wordsBackWrong)

/-- 'aditlaw01.WordsTurns': WHATEVER THE INPUT: true; the input reads as it did. -/
def wordsTurnsSpec : ChangeSpec := { name := "wordsTurns", fn := fun _ => fun
  | [d1, d2, d3] => { results := [.lit (.bool true)], args := [d1, d2, d3] }
  | _ => none }
def wordsTurnsRow : OpenClaim := { program := "ytmhmcdldfpnmbaa", sum := "6a69b0dbbe1e0c23aca84c4bc95c3faf3b9659201fde6c1b33aba6d0470b8c3c", func := "adit/aditlaw01.WordsTurns", spec := "wordsTurns", apart := false }
def WordsTurnsSaid : Prop := wordsTurnsRow.holds Try.pinned (OpenSpec.ofChange wordsTurnsSpec)

/-- ITS FALSE NEIGHBOUR: 'it returns false'. Refute it at one input. -/
def wordsTurnsWrong : ChangeSpec := { name := "wordsTurns", fn := fun _ => fun
  | [d1, d2, d3] => { results := [.lit (.bool false)], args := [d1, d2, d3] }
  | _ => none }
def WordsTurnsWrongFalsely : Prop := wordsTurnsRow.holds Try.pinned (OpenSpec.ofChange wordsTurnsWrong)

/-- 'aditlaw01.WordsHex': WHATEVER THE INPUT: true; the input reads as it did. -/
def wordsHexSpec : ChangeSpec := { name := "wordsHex", fn := fun _ => fun
  | [d1, d2] => { results := [.lit (.bool true)], args := [d1, d2] }
  | _ => none }
def wordsHexRow : OpenClaim := { program := "ytmhmcdldfpnmbaa", sum := "6a69b0dbbe1e0c23aca84c4bc95c3faf3b9659201fde6c1b33aba6d0470b8c3c", func := "adit/aditlaw01.WordsHex", spec := "wordsHex", apart := false }
def WordsHexSaid : Prop := wordsHexRow.holds Try.pinned (OpenSpec.ofChange wordsHexSpec)

/-- ITS FALSE NEIGHBOUR: 'it returns false'. Refute it at one input. -/
def wordsHexWrong : ChangeSpec := { name := "wordsHex", fn := fun _ => fun
  | [d1, d2] => { results := [.lit (.bool false)], args := [d1, d2] }
  | _ => none }
def WordsHexWrongFalsely : Prop := wordsHexRow.holds Try.pinned (OpenSpec.ofChange wordsHexWrong)

/-- 'aditlaw02.ChachaBlocks': WHATEVER THE INPUT: true; the input reads as it did. -/
def chachaBlocksSpec : ChangeSpec := { name := "chachaBlocks", fn := fun _ => fun
  | [d1, d2, d3, d4] => { results := [.lit (.bool true)], args := [d1, d2, d3, d4] }
  | _ => none }
def chachaBlocksRow : OpenClaim := { program := "ytmhmcdldfpnmbaa", sum := "6a69b0dbbe1e0c23aca84c4bc95c3faf3b9659201fde6c1b33aba6d0470b8c3c", func := "adit/aditlaw02.ChachaBlocks", spec := "chachaBlocks", apart := false }
def ChachaBlocksSaid : Prop := chachaBlocksRow.holds Try.pinned (OpenSpec.ofChange chachaBlocksSpec)

/-- ITS FALSE NEIGHBOUR: 'it returns false'. Refute it at one input. -/
def chachaBlocksWrong : ChangeSpec := { name := "chachaBlocks", fn := fun _ => fun
  | [d1, d2, d3, d4] => { results := [.lit (.bool false)], args := [d1, d2, d3, d4] }
  | _ => none }
def ChachaBlocksWrongFalsely : Prop := chachaBlocksRow.holds Try.pinned (OpenSpec.ofChange chachaBlocksWrong)

/-- 'aditlaw02.ChachaXors': WHATEVER THE INPUT: true; the input reads as it did. -/
def chachaXorsSpec : ChangeSpec := { name := "chachaXors", fn := fun _ => fun
  | [d1, d2, d3, d4] => { results := [.lit (.bool true)], args := [d1, d2, d3, d4] }
  | _ => none }
def chachaXorsRow : OpenClaim := { program := "ytmhmcdldfpnmbaa", sum := "6a69b0dbbe1e0c23aca84c4bc95c3faf3b9659201fde6c1b33aba6d0470b8c3c", func := "adit/aditlaw02.ChachaXors", spec := "chachaXors", apart := false }
def ChachaXorsSaid : Prop := chachaXorsRow.holds Try.pinned (OpenSpec.ofChange chachaXorsSpec)

/-- ITS FALSE NEIGHBOUR: 'it returns false'. Refute it at one input. -/
def chachaXorsWrong : ChangeSpec := { name := "chachaXors", fn := fun _ => fun
  | [d1, d2, d3, d4] => { results := [.lit (.bool false)], args := [d1, d2, d3, d4] }
  | _ => none }
def ChachaXorsWrongFalsely : Prop := chachaXorsRow.holds Try.pinned (OpenSpec.ofChange chachaXorsWrong)

/-- 'aditlaw02.ChachaTwice': WHATEVER THE INPUT: true; the input reads as it did. -/
def chachaTwiceSpec : ChangeSpec := { name := "chachaTwice", fn := fun _ => fun
  | [d1, d2, d3, d4] => { results := [.lit (.bool true)], args := [d1, d2, d3, d4] }
  | _ => none }
def chachaTwiceRow : OpenClaim := { program := "ytmhmcdldfpnmbaa", sum := "6a69b0dbbe1e0c23aca84c4bc95c3faf3b9659201fde6c1b33aba6d0470b8c3c", func := "adit/aditlaw02.ChachaTwice", spec := "chachaTwice", apart := false }
def ChachaTwiceSaid : Prop := chachaTwiceRow.holds Try.pinned (OpenSpec.ofChange chachaTwiceSpec)

/-- ITS FALSE NEIGHBOUR: 'it returns false'. Refute it at one input. -/
def chachaTwiceWrong : ChangeSpec := { name := "chachaTwice", fn := fun _ => fun
  | [d1, d2, d3, d4] => { results := [.lit (.bool false)], args := [d1, d2, d3, d4] }
  | _ => none }
def ChachaTwiceWrongFalsely : Prop := chachaTwiceRow.holds Try.pinned (OpenSpec.ofChange chachaTwiceWrong)

/-- 'aditlaw02.ChachaPieces': WHATEVER THE INPUT: true; the input reads as it did. -/
def chachaPiecesSpec : ChangeSpec := { name := "chachaPieces", fn := fun _ => fun
  | [d1, d2, d3, d4, d5] => { results := [.lit (.bool true)], args := [d1, d2, d3, d4, d5] }
  | _ => none }
def chachaPiecesRow : OpenClaim := { program := "ytmhmcdldfpnmbaa", sum := "6a69b0dbbe1e0c23aca84c4bc95c3faf3b9659201fde6c1b33aba6d0470b8c3c", func := "adit/aditlaw02.ChachaPieces", spec := "chachaPieces", apart := false }
def ChachaPiecesSaid : Prop := chachaPiecesRow.holds Try.pinned (OpenSpec.ofChange chachaPiecesSpec)

/-- ITS FALSE NEIGHBOUR: 'it returns false'. Refute it at one input. -/
def chachaPiecesWrong : ChangeSpec := { name := "chachaPieces", fn := fun _ => fun
  | [d1, d2, d3, d4, d5] => { results := [.lit (.bool false)], args := [d1, d2, d3, d4, d5] }
  | _ => none }
def ChachaPiecesWrongFalsely : Prop := chachaPiecesRow.holds Try.pinned (OpenSpec.ofChange chachaPiecesWrong)

/-- 'aditlaw02.ChachaPlaces': WHATEVER THE INPUT: true; the input reads as it did. -/
def chachaPlacesSpec : ChangeSpec := { name := "chachaPlaces", fn := fun _ => fun
  | [d1, d2, d3, d4, d5] => { results := [.lit (.bool true)], args := [d1, d2, d3, d4, d5] }
  | _ => none }
def chachaPlacesRow : OpenClaim := { program := "ytmhmcdldfpnmbaa", sum := "6a69b0dbbe1e0c23aca84c4bc95c3faf3b9659201fde6c1b33aba6d0470b8c3c", func := "adit/aditlaw02.ChachaPlaces", spec := "chachaPlaces", apart := false }
def ChachaPlacesSaid : Prop := chachaPlacesRow.holds Try.pinned (OpenSpec.ofChange chachaPlacesSpec)

/-- ITS FALSE NEIGHBOUR: 'it returns false'. Refute it at one input. -/
def chachaPlacesWrong : ChangeSpec := { name := "chachaPlaces", fn := fun _ => fun
  | [d1, d2, d3, d4, d5] => { results := [.lit (.bool false)], args := [d1, d2, d3, d4, d5] }
  | _ => none }
def ChachaPlacesWrongFalsely : Prop := chachaPlacesRow.holds Try.pinned (OpenSpec.ofChange chachaPlacesWrong)

/- THE SECOND FORM. 'bulk': how many values and letters a reading holds, each counted each time it is reached (what is shared counts as often as it is met; a slice's spare places count too). A statement '..UptoSaid' is the law's where the arguments, and the package variables that the reading takes, are together of bulk at most 1048576: NARROWER than '..Said'. Prove '..Said' where nothing that the law and all that it calls make is longer than what came in: it says more and counts as full. Else prove '..UptoSaid'. A law counts once. -/
mutual
def uptoBulk {H : Type} : DataW H → Nat
  | .lit (.string bytes) => bytes.length + 1
  | .lit _ => 1
  | .nil => 1
  | .ptr d => uptoBulk d + 1
  | .slice elems spare => uptoBulkAll elems + uptoBulkAll spare + 1
  | .agg parts => uptoBulkAll parts + 1
  | .iface _ d => uptoBulk d + 1
  | .map entries => uptoBulkEntries entries + 1
  | .held _ => 1
def uptoBulkAll {H : Type} : List (DataW H) → Nat
  | [] => 0
  | d :: r => uptoBulk d + uptoBulkAll r
def uptoBulkEntries {H : Type} : List (Lit × DataW H) → Nat
  | [] => 0
  | x :: r => uptoBulkEntry x + uptoBulkEntries r
def uptoBulkEntry {H : Type} : Lit × DataW H → Nat
  | (.string bytes, d) => bytes.length + uptoBulk d + 1
  | (_, d) => uptoBulk d + 1
 end
def uptoSmall : (H : Type) → List (DataW H) → Bool := fun _ ds => decide (uptoBulkAll ds ≤ 1048576)
def OpenSpec.upto (s : _root_.Go.ChangeSpec) : _root_.Go.OpenSpec := { _root_.Go.OpenSpec.ofChange s with cond := some uptoSmall }

/-- 'aditlaw01.WordsLoads', WHERE WHAT IT READS IS OF BULK AT MOST 1048576: true; the input reads as it did. -/
def wordsLoadsUptoRow : OpenClaim := { program := "ytmhmcdldfpnmbaa", sum := "6a69b0dbbe1e0c23aca84c4bc95c3faf3b9659201fde6c1b33aba6d0470b8c3c", func := "adit/aditlaw01.WordsLoads", spec := "wordsLoads", apart := false, narrowed := true }
def WordsLoadsUptoSaid : Prop := wordsLoadsUptoRow.holds Try.pinned (OpenSpec.upto wordsLoadsSpec)

/-- 'aditlaw01.WordsPuts', WHERE WHAT IT READS IS OF BULK AT MOST 1048576: true; the input reads as it did. -/
def wordsPutsUptoRow : OpenClaim := { program := "ytmhmcdldfpnmbaa", sum := "6a69b0dbbe1e0c23aca84c4bc95c3faf3b9659201fde6c1b33aba6d0470b8c3c", func := "adit/aditlaw01.WordsPuts", spec := "wordsPuts", apart := false, narrowed := true }
def WordsPutsUptoSaid : Prop := wordsPutsUptoRow.holds Try.pinned (OpenSpec.upto wordsPutsSpec)

/-- 'aditlaw01.WordsDigits', WHERE WHAT IT READS IS OF BULK AT MOST 1048576: true; the input reads as it did. -/
def wordsDigitsUptoRow : OpenClaim := { program := "ytmhmcdldfpnmbaa", sum := "6a69b0dbbe1e0c23aca84c4bc95c3faf3b9659201fde6c1b33aba6d0470b8c3c", func := "adit/aditlaw01.WordsDigits", spec := "wordsDigits", apart := false, narrowed := true }
def WordsDigitsUptoSaid : Prop := wordsDigitsUptoRow.holds Try.pinned (OpenSpec.upto wordsDigitsSpec)

/-- 'aditlaw01.WordsBack', WHERE WHAT IT READS IS OF BULK AT MOST 1048576: true; the input reads as it did. -/
def wordsBackUptoRow : OpenClaim := { program := "ytmhmcdldfpnmbaa", sum := "6a69b0dbbe1e0c23aca84c4bc95c3faf3b9659201fde6c1b33aba6d0470b8c3c", func := "adit/aditlaw01.WordsBack", spec := "wordsBack", apart := false, narrowed := true }
def WordsBackUptoSaid : Prop := wordsBackUptoRow.holds Try.pinned (OpenSpec.upto wordsBackSpec)

/-- 'aditlaw01.WordsTurns', WHERE WHAT IT READS IS OF BULK AT MOST 1048576: true; the input reads as it did. -/
def wordsTurnsUptoRow : OpenClaim := { program := "ytmhmcdldfpnmbaa", sum := "6a69b0dbbe1e0c23aca84c4bc95c3faf3b9659201fde6c1b33aba6d0470b8c3c", func := "adit/aditlaw01.WordsTurns", spec := "wordsTurns", apart := false, narrowed := true }
def WordsTurnsUptoSaid : Prop := wordsTurnsUptoRow.holds Try.pinned (OpenSpec.upto wordsTurnsSpec)

/-- 'aditlaw01.WordsHex', WHERE WHAT IT READS IS OF BULK AT MOST 1048576: true; the input reads as it did. -/
def wordsHexUptoRow : OpenClaim := { program := "ytmhmcdldfpnmbaa", sum := "6a69b0dbbe1e0c23aca84c4bc95c3faf3b9659201fde6c1b33aba6d0470b8c3c", func := "adit/aditlaw01.WordsHex", spec := "wordsHex", apart := false, narrowed := true }
def WordsHexUptoSaid : Prop := wordsHexUptoRow.holds Try.pinned (OpenSpec.upto wordsHexSpec)

/-- 'aditlaw02.ChachaBlocks', WHERE WHAT IT READS IS OF BULK AT MOST 1048576: true; the input reads as it did. -/
def chachaBlocksUptoRow : OpenClaim := { program := "ytmhmcdldfpnmbaa", sum := "6a69b0dbbe1e0c23aca84c4bc95c3faf3b9659201fde6c1b33aba6d0470b8c3c", func := "adit/aditlaw02.ChachaBlocks", spec := "chachaBlocks", apart := false, narrowed := true }
def ChachaBlocksUptoSaid : Prop := chachaBlocksUptoRow.holds Try.pinned (OpenSpec.upto chachaBlocksSpec)

/-- 'aditlaw02.ChachaXors', WHERE WHAT IT READS IS OF BULK AT MOST 1048576: true; the input reads as it did. -/
def chachaXorsUptoRow : OpenClaim := { program := "ytmhmcdldfpnmbaa", sum := "6a69b0dbbe1e0c23aca84c4bc95c3faf3b9659201fde6c1b33aba6d0470b8c3c", func := "adit/aditlaw02.ChachaXors", spec := "chachaXors", apart := false, narrowed := true }
def ChachaXorsUptoSaid : Prop := chachaXorsUptoRow.holds Try.pinned (OpenSpec.upto chachaXorsSpec)

/-- 'aditlaw02.ChachaTwice', WHERE WHAT IT READS IS OF BULK AT MOST 1048576: true; the input reads as it did. -/
def chachaTwiceUptoRow : OpenClaim := { program := "ytmhmcdldfpnmbaa", sum := "6a69b0dbbe1e0c23aca84c4bc95c3faf3b9659201fde6c1b33aba6d0470b8c3c", func := "adit/aditlaw02.ChachaTwice", spec := "chachaTwice", apart := false, narrowed := true }
def ChachaTwiceUptoSaid : Prop := chachaTwiceUptoRow.holds Try.pinned (OpenSpec.upto chachaTwiceSpec)

/-- 'aditlaw02.ChachaPieces', WHERE WHAT IT READS IS OF BULK AT MOST 1048576: true; the input reads as it did. -/
def chachaPiecesUptoRow : OpenClaim := { program := "ytmhmcdldfpnmbaa", sum := "6a69b0dbbe1e0c23aca84c4bc95c3faf3b9659201fde6c1b33aba6d0470b8c3c", func := "adit/aditlaw02.ChachaPieces", spec := "chachaPieces", apart := false, narrowed := true }
def ChachaPiecesUptoSaid : Prop := chachaPiecesUptoRow.holds Try.pinned (OpenSpec.upto chachaPiecesSpec)

/-- 'aditlaw02.ChachaPlaces', WHERE WHAT IT READS IS OF BULK AT MOST 1048576: true; the input reads as it did. -/
def chachaPlacesUptoRow : OpenClaim := { program := "ytmhmcdldfpnmbaa", sum := "6a69b0dbbe1e0c23aca84c4bc95c3faf3b9659201fde6c1b33aba6d0470b8c3c", func := "adit/aditlaw02.ChachaPlaces", spec := "chachaPlaces", apart := false, narrowed := true }
def ChachaPlacesUptoSaid : Prop := chachaPlacesUptoRow.holds Try.pinned (OpenSpec.upto chachaPlacesSpec)

end Rows
end Go.Proofs.Ytmhmcdldfpnmbaa
