/-
  NARROWER THAN 'FOR EVERY INPUT', by the rows' own cells (each row's printed sentence says how): BlakeSums: laid · BlakeWrites: laid · BlakeNobody: laid · BlakePieces: laid · BlakeSizes: laid · KdfMarks: laid · KdfChains: laid · KdfKeys: laid · KdfBegins: laid · KdfJoins: laid.
  DERIVED. THE GIVEN ROWS OF THIS SEAT. 10 by the template 'for every input the law returns true; each argument reads behind the call as it read before'; 0 by the template 'total and deterministic' (their statements: YtljepgddmfelpaaDoorTotals.lean).
  GIVEN WITH THE SEED: the statements are not yours to turn. If you find one false, say at which input.
  Laid BY PROGRAM, IN A SANDBOX (cutbox-rows.mjs): the forced cells as the released guide's own fill.sh prints them over the translation 42a565cfa6f6e01a… (all of the seat's roots in one cut). By AI agents, Wed Nov 11 2026. No macro, syntax, notation, axiom, sorry.
-/
import Derived.Test.YtljepgddmfelpaaDoorChecked
import GoSem.Claim
import GoSem.ClaimJoined
import GoSem.ClaimMapViews
import Derived.JoinedTies
import Derived.KernelRfl
namespace Go.Proofs.YtljepgddmfelpaaDoor
/- THE CELL 'sum', in the pinned program and in every row, IS THE sha256 OF THE DUMP (.gsa) THAT YtljepgddmfelpaaDoorProg.lean LOADS. Nothing in Lean hashes anything: it is a label: what it is worth is what the hold of that sum in a sandbox is worth. -/
noncomputable def Tryd.pinned : Pinned := { name := "ytljepgddmfelpaadoor", sum := "42a565cfa6f6e01a1cfc3ccbfbe909f3bcb2a75e955217dcdc04a392858b1268", checked := Tryd.checked }
namespace Rows
def none {H : Type} : Left H := { results := [], args := [] }

/- WHAT THE LISTED PACKAGE-LEVEL VARIABLES READ AS WHEN THE CALL BEGINS. Each datum BY PROGRAM (the guide's laid-datum.mjs) off the statement by which the dump's own 'gosem.cut.vars' lays the variable. In a bare row this is a premise. The card (YtljepgddmfelpaaDoorCards.lean) ties it to the program's text. -/
def laid_adit_blake_eight {H : Type} : DataW H := .agg [.lit (.int .u32 1779033703), .lit (.int .u32 3144134277), .lit (.int .u32 1013904242), .lit (.int .u32 2773480762), .lit (.int .u32 1359893119), .lit (.int .u32 2600822924), .lit (.int .u32 528734635), .lit (.int .u32 1541459225)]
def laid_adit_blake_orders {H : Type} : DataW H := .agg [.agg [.lit (.int .u8 0), .lit (.int .u8 1), .lit (.int .u8 2), .lit (.int .u8 3), .lit (.int .u8 4), .lit (.int .u8 5), .lit (.int .u8 6), .lit (.int .u8 7), .lit (.int .u8 8), .lit (.int .u8 9), .lit (.int .u8 10), .lit (.int .u8 11), .lit (.int .u8 12), .lit (.int .u8 13), .lit (.int .u8 14), .lit (.int .u8 15)], .agg [.lit (.int .u8 14), .lit (.int .u8 10), .lit (.int .u8 4), .lit (.int .u8 8), .lit (.int .u8 9), .lit (.int .u8 15), .lit (.int .u8 13), .lit (.int .u8 6), .lit (.int .u8 1), .lit (.int .u8 12), .lit (.int .u8 0), .lit (.int .u8 2), .lit (.int .u8 11), .lit (.int .u8 7), .lit (.int .u8 5), .lit (.int .u8 3)], .agg [.lit (.int .u8 11), .lit (.int .u8 8), .lit (.int .u8 12), .lit (.int .u8 0), .lit (.int .u8 5), .lit (.int .u8 2), .lit (.int .u8 15), .lit (.int .u8 13), .lit (.int .u8 10), .lit (.int .u8 14), .lit (.int .u8 3), .lit (.int .u8 6), .lit (.int .u8 7), .lit (.int .u8 1), .lit (.int .u8 9), .lit (.int .u8 4)], .agg [.lit (.int .u8 7), .lit (.int .u8 9), .lit (.int .u8 3), .lit (.int .u8 1), .lit (.int .u8 13), .lit (.int .u8 12), .lit (.int .u8 11), .lit (.int .u8 14), .lit (.int .u8 2), .lit (.int .u8 6), .lit (.int .u8 5), .lit (.int .u8 10), .lit (.int .u8 4), .lit (.int .u8 0), .lit (.int .u8 15), .lit (.int .u8 8)], .agg [.lit (.int .u8 9), .lit (.int .u8 0), .lit (.int .u8 5), .lit (.int .u8 7), .lit (.int .u8 2), .lit (.int .u8 4), .lit (.int .u8 10), .lit (.int .u8 15), .lit (.int .u8 14), .lit (.int .u8 1), .lit (.int .u8 11), .lit (.int .u8 12), .lit (.int .u8 6), .lit (.int .u8 8), .lit (.int .u8 3), .lit (.int .u8 13)], .agg [.lit (.int .u8 2), .lit (.int .u8 12), .lit (.int .u8 6), .lit (.int .u8 10), .lit (.int .u8 0), .lit (.int .u8 11), .lit (.int .u8 8), .lit (.int .u8 3), .lit (.int .u8 4), .lit (.int .u8 13), .lit (.int .u8 7), .lit (.int .u8 5), .lit (.int .u8 15), .lit (.int .u8 14), .lit (.int .u8 1), .lit (.int .u8 9)], .agg [.lit (.int .u8 12), .lit (.int .u8 5), .lit (.int .u8 1), .lit (.int .u8 15), .lit (.int .u8 14), .lit (.int .u8 13), .lit (.int .u8 4), .lit (.int .u8 10), .lit (.int .u8 0), .lit (.int .u8 7), .lit (.int .u8 6), .lit (.int .u8 3), .lit (.int .u8 9), .lit (.int .u8 2), .lit (.int .u8 8), .lit (.int .u8 11)], .agg [.lit (.int .u8 13), .lit (.int .u8 11), .lit (.int .u8 7), .lit (.int .u8 14), .lit (.int .u8 12), .lit (.int .u8 1), .lit (.int .u8 3), .lit (.int .u8 9), .lit (.int .u8 5), .lit (.int .u8 0), .lit (.int .u8 15), .lit (.int .u8 4), .lit (.int .u8 8), .lit (.int .u8 6), .lit (.int .u8 2), .lit (.int .u8 10)], .agg [.lit (.int .u8 6), .lit (.int .u8 15), .lit (.int .u8 14), .lit (.int .u8 9), .lit (.int .u8 11), .lit (.int .u8 3), .lit (.int .u8 0), .lit (.int .u8 8), .lit (.int .u8 12), .lit (.int .u8 2), .lit (.int .u8 13), .lit (.int .u8 7), .lit (.int .u8 1), .lit (.int .u8 4), .lit (.int .u8 10), .lit (.int .u8 5)], .agg [.lit (.int .u8 10), .lit (.int .u8 2), .lit (.int .u8 8), .lit (.int .u8 4), .lit (.int .u8 7), .lit (.int .u8 6), .lit (.int .u8 1), .lit (.int .u8 5), .lit (.int .u8 15), .lit (.int .u8 11), .lit (.int .u8 9), .lit (.int .u8 14), .lit (.int .u8 3), .lit (.int .u8 12), .lit (.int .u8 13), .lit (.int .u8 0)]]

/-- 'aditlaw07.BlakeSums': WHATEVER THE INPUT: true; the input reads as it did. -/
def blakeSumsSpec : ChangeSpec := { name := "blakeSums", fn := fun _ => fun
  | [d1, d2, d3] => { results := [.lit (.bool true)], args := [d1, d2, d3] }
  | _ => none }
def blakeSumsRow : OpenClaim := { program := "ytljepgddmfelpaadoor", sum := "42a565cfa6f6e01a1cfc3ccbfbe909f3bcb2a75e955217dcdc04a392858b1268", func := "adit/aditlaw07.BlakeSums", spec := "blakeSums", named := ["adit/blake.eight", "adit/blake.orders"], apart := false, laid := [("adit/blake.eight", laid_adit_blake_eight), ("adit/blake.orders", laid_adit_blake_orders)] }
def BlakeSumsSaid : Prop := blakeSumsRow.holds Tryd.pinned (OpenSpec.ofChange blakeSumsSpec)

/-- ITS FALSE NEIGHBOUR: 'it returns false'. Refute it at one input. -/
def blakeSumsWrong : ChangeSpec := { name := "blakeSums", fn := fun _ => fun
  | [d1, d2, d3] => { results := [.lit (.bool false)], args := [d1, d2, d3] }
  | _ => none }
def BlakeSumsWrongFalsely : Prop := blakeSumsRow.holds Tryd.pinned (OpenSpec.ofChange blakeSumsWrong)

/-- 'aditlaw07.BlakeWrites': WHATEVER THE INPUT: true; the input reads as it did. -/
def blakeWritesSpec : ChangeSpec := { name := "blakeWrites", fn := fun _ => fun
  | [d1, d2, d3] => { results := [.lit (.bool true)], args := [d1, d2, d3] }
  | _ => none }
def blakeWritesRow : OpenClaim := { program := "ytljepgddmfelpaadoor", sum := "42a565cfa6f6e01a1cfc3ccbfbe909f3bcb2a75e955217dcdc04a392858b1268", func := "adit/aditlaw07.BlakeWrites", spec := "blakeWrites", named := ["adit/blake.eight", "adit/blake.orders"], apart := false, laid := [("adit/blake.eight", laid_adit_blake_eight), ("adit/blake.orders", laid_adit_blake_orders)] }
def BlakeWritesSaid : Prop := blakeWritesRow.holds Tryd.pinned (OpenSpec.ofChange blakeWritesSpec)

/-- ITS FALSE NEIGHBOUR: 'it returns false'. Refute it at one input. -/
def blakeWritesWrong : ChangeSpec := { name := "blakeWrites", fn := fun _ => fun
  | [d1, d2, d3] => { results := [.lit (.bool false)], args := [d1, d2, d3] }
  | _ => none }
def BlakeWritesWrongFalsely : Prop := blakeWritesRow.holds Tryd.pinned (OpenSpec.ofChange blakeWritesWrong)

/-- 'aditlaw07.BlakeNobody': WHATEVER THE INPUT: true; the input reads as it did. -/
def blakeNobodySpec : ChangeSpec := { name := "blakeNobody", fn := fun _ => fun
  | [d] => { results := [.lit (.bool true)], args := [d] }
  | _ => none }
def blakeNobodyRow : OpenClaim := { program := "ytljepgddmfelpaadoor", sum := "42a565cfa6f6e01a1cfc3ccbfbe909f3bcb2a75e955217dcdc04a392858b1268", func := "adit/aditlaw07.BlakeNobody", spec := "blakeNobody", named := ["adit/blake.eight", "adit/blake.orders"], apart := false, laid := [("adit/blake.eight", laid_adit_blake_eight), ("adit/blake.orders", laid_adit_blake_orders)] }
def BlakeNobodySaid : Prop := blakeNobodyRow.holds Tryd.pinned (OpenSpec.ofChange blakeNobodySpec)

/-- ITS FALSE NEIGHBOUR: 'it returns false'. Refute it at one input. -/
def blakeNobodyWrong : ChangeSpec := { name := "blakeNobody", fn := fun _ => fun
  | [d] => { results := [.lit (.bool false)], args := [d] }
  | _ => none }
def BlakeNobodyWrongFalsely : Prop := blakeNobodyRow.holds Tryd.pinned (OpenSpec.ofChange blakeNobodyWrong)

/-- 'aditlaw07.BlakePieces': WHATEVER THE INPUT: true; the input reads as it did. -/
def blakePiecesSpec : ChangeSpec := { name := "blakePieces", fn := fun _ => fun
  | [d1, d2, d3, d4] => { results := [.lit (.bool true)], args := [d1, d2, d3, d4] }
  | _ => none }
def blakePiecesRow : OpenClaim := { program := "ytljepgddmfelpaadoor", sum := "42a565cfa6f6e01a1cfc3ccbfbe909f3bcb2a75e955217dcdc04a392858b1268", func := "adit/aditlaw07.BlakePieces", spec := "blakePieces", named := ["adit/blake.eight", "adit/blake.orders"], apart := false, laid := [("adit/blake.eight", laid_adit_blake_eight), ("adit/blake.orders", laid_adit_blake_orders)] }
def BlakePiecesSaid : Prop := blakePiecesRow.holds Tryd.pinned (OpenSpec.ofChange blakePiecesSpec)

/-- ITS FALSE NEIGHBOUR: 'it returns false'. Refute it at one input. -/
def blakePiecesWrong : ChangeSpec := { name := "blakePieces", fn := fun _ => fun
  | [d1, d2, d3, d4] => { results := [.lit (.bool false)], args := [d1, d2, d3, d4] }
  | _ => none }
def BlakePiecesWrongFalsely : Prop := blakePiecesRow.holds Tryd.pinned (OpenSpec.ofChange blakePiecesWrong)

/-- 'aditlaw07.BlakeSizes': WHATEVER THE INPUT: true; the input reads as it did. -/
def blakeSizesSpec : ChangeSpec := { name := "blakeSizes", fn := fun _ => fun
  | [d1, d2, d3] => { results := [.lit (.bool true)], args := [d1, d2, d3] }
  | _ => none }
def blakeSizesRow : OpenClaim := { program := "ytljepgddmfelpaadoor", sum := "42a565cfa6f6e01a1cfc3ccbfbe909f3bcb2a75e955217dcdc04a392858b1268", func := "adit/aditlaw07.BlakeSizes", spec := "blakeSizes", named := ["adit/blake.eight", "adit/blake.orders"], apart := false, laid := [("adit/blake.eight", laid_adit_blake_eight), ("adit/blake.orders", laid_adit_blake_orders)] }
def BlakeSizesSaid : Prop := blakeSizesRow.holds Tryd.pinned (OpenSpec.ofChange blakeSizesSpec)

/-- ITS FALSE NEIGHBOUR: 'it returns false'. Refute it at one input. -/
def blakeSizesWrong : ChangeSpec := { name := "blakeSizes", fn := fun _ => fun
  | [d1, d2, d3] => { results := [.lit (.bool false)], args := [d1, d2, d3] }
  | _ => none }
def BlakeSizesWrongFalsely : Prop := blakeSizesRow.holds Tryd.pinned (OpenSpec.ofChange blakeSizesWrong)

/-- 'aditlaw08.KdfMarks': WHATEVER THE INPUT: true; the input reads as it did. -/
def kdfMarksSpec : ChangeSpec := { name := "kdfMarks", fn := fun _ => fun
  | [d1, d2, d3] => { results := [.lit (.bool true)], args := [d1, d2, d3] }
  | _ => none }
def kdfMarksRow : OpenClaim := { program := "ytljepgddmfelpaadoor", sum := "42a565cfa6f6e01a1cfc3ccbfbe909f3bcb2a75e955217dcdc04a392858b1268", func := "adit/aditlaw08.KdfMarks", spec := "kdfMarks", unfollowed := true, recurses := true, named := ["adit/blake.eight", "adit/blake.orders"], apart := false, laid := [("adit/blake.eight", laid_adit_blake_eight), ("adit/blake.orders", laid_adit_blake_orders)] }
def KdfMarksSaid : Prop := kdfMarksRow.holds Tryd.pinned (OpenSpec.ofChange kdfMarksSpec)

/-- ITS FALSE NEIGHBOUR: 'it returns false'. Refute it at one input. -/
def kdfMarksWrong : ChangeSpec := { name := "kdfMarks", fn := fun _ => fun
  | [d1, d2, d3] => { results := [.lit (.bool false)], args := [d1, d2, d3] }
  | _ => none }
def KdfMarksWrongFalsely : Prop := kdfMarksRow.holds Tryd.pinned (OpenSpec.ofChange kdfMarksWrong)

/-- 'aditlaw08.KdfChains': WHATEVER THE INPUT: true; the input reads as it did. -/
def kdfChainsSpec : ChangeSpec := { name := "kdfChains", fn := fun _ => fun
  | [d1, d2] => { results := [.lit (.bool true)], args := [d1, d2] }
  | _ => none }
def kdfChainsRow : OpenClaim := { program := "ytljepgddmfelpaadoor", sum := "42a565cfa6f6e01a1cfc3ccbfbe909f3bcb2a75e955217dcdc04a392858b1268", func := "adit/aditlaw08.KdfChains", spec := "kdfChains", unfollowed := true, recurses := true, named := ["adit/blake.eight", "adit/blake.orders"], apart := false, laid := [("adit/blake.eight", laid_adit_blake_eight), ("adit/blake.orders", laid_adit_blake_orders)] }
def KdfChainsSaid : Prop := kdfChainsRow.holds Tryd.pinned (OpenSpec.ofChange kdfChainsSpec)

/-- ITS FALSE NEIGHBOUR: 'it returns false'. Refute it at one input. -/
def kdfChainsWrong : ChangeSpec := { name := "kdfChains", fn := fun _ => fun
  | [d1, d2] => { results := [.lit (.bool false)], args := [d1, d2] }
  | _ => none }
def KdfChainsWrongFalsely : Prop := kdfChainsRow.holds Tryd.pinned (OpenSpec.ofChange kdfChainsWrong)

/-- 'aditlaw08.KdfKeys': WHATEVER THE INPUT: true; the input reads as it did. -/
def kdfKeysSpec : ChangeSpec := { name := "kdfKeys", fn := fun _ => fun
  | [d1, d2, d3] => { results := [.lit (.bool true)], args := [d1, d2, d3] }
  | _ => none }
def kdfKeysRow : OpenClaim := { program := "ytljepgddmfelpaadoor", sum := "42a565cfa6f6e01a1cfc3ccbfbe909f3bcb2a75e955217dcdc04a392858b1268", func := "adit/aditlaw08.KdfKeys", spec := "kdfKeys", unfollowed := true, recurses := true, named := ["adit/blake.eight", "adit/blake.orders"], apart := false, laid := [("adit/blake.eight", laid_adit_blake_eight), ("adit/blake.orders", laid_adit_blake_orders)] }
def KdfKeysSaid : Prop := kdfKeysRow.holds Tryd.pinned (OpenSpec.ofChange kdfKeysSpec)

/-- ITS FALSE NEIGHBOUR: 'it returns false'. Refute it at one input. -/
def kdfKeysWrong : ChangeSpec := { name := "kdfKeys", fn := fun _ => fun
  | [d1, d2, d3] => { results := [.lit (.bool false)], args := [d1, d2, d3] }
  | _ => none }
def KdfKeysWrongFalsely : Prop := kdfKeysRow.holds Tryd.pinned (OpenSpec.ofChange kdfKeysWrong)

/-- 'aditlaw08.KdfBegins': WHATEVER THE INPUT: true; the input reads as it did. -/
def kdfBeginsSpec : ChangeSpec := { name := "kdfBegins", fn := fun _ => fun
  | [d1, d2] => { results := [.lit (.bool true)], args := [d1, d2] }
  | _ => none }
def kdfBeginsRow : OpenClaim := { program := "ytljepgddmfelpaadoor", sum := "42a565cfa6f6e01a1cfc3ccbfbe909f3bcb2a75e955217dcdc04a392858b1268", func := "adit/aditlaw08.KdfBegins", spec := "kdfBegins", unfollowed := true, recurses := true, named := ["adit/blake.eight", "adit/blake.orders"], apart := false, laid := [("adit/blake.eight", laid_adit_blake_eight), ("adit/blake.orders", laid_adit_blake_orders)] }
def KdfBeginsSaid : Prop := kdfBeginsRow.holds Tryd.pinned (OpenSpec.ofChange kdfBeginsSpec)

/-- ITS FALSE NEIGHBOUR: 'it returns false'. Refute it at one input. -/
def kdfBeginsWrong : ChangeSpec := { name := "kdfBegins", fn := fun _ => fun
  | [d1, d2] => { results := [.lit (.bool false)], args := [d1, d2] }
  | _ => none }
def KdfBeginsWrongFalsely : Prop := kdfBeginsRow.holds Tryd.pinned (OpenSpec.ofChange kdfBeginsWrong)

/-- 'aditlaw08.KdfJoins': WHATEVER THE INPUT: true; the input reads as it did. -/
def kdfJoinsSpec : ChangeSpec := { name := "kdfJoins", fn := fun _ => fun
  | [d1, d2] => { results := [.lit (.bool true)], args := [d1, d2] }
  | _ => none }
def kdfJoinsRow : OpenClaim := { program := "ytljepgddmfelpaadoor", sum := "42a565cfa6f6e01a1cfc3ccbfbe909f3bcb2a75e955217dcdc04a392858b1268", func := "adit/aditlaw08.KdfJoins", spec := "kdfJoins", unfollowed := true, recurses := true, named := ["adit/blake.eight", "adit/blake.orders"], apart := false, laid := [("adit/blake.eight", laid_adit_blake_eight), ("adit/blake.orders", laid_adit_blake_orders)] }
def KdfJoinsSaid : Prop := kdfJoinsRow.holds Tryd.pinned (OpenSpec.ofChange kdfJoinsSpec)

/-- ITS FALSE NEIGHBOUR: 'it returns false'. Refute it at one input. -/
def kdfJoinsWrong : ChangeSpec := { name := "kdfJoins", fn := fun _ => fun
  | [d1, d2] => { results := [.lit (.bool false)], args := [d1, d2] }
  | _ => none }
def KdfJoinsWrongFalsely : Prop := kdfJoinsRow.holds Tryd.pinned (OpenSpec.ofChange kdfJoinsWrong)

/- THE SECOND FORM. 'bulk': how many values and letters a reading holds, each counted each time it is reached (what is shared counts as often as it is met; a slice's spare places count too). A statement '..UptoSaid' is the law's where the arguments, and the package variables that the reading takes, are together of bulk at most 1048576: NARROWER than '..Said'. Prove '..Said' where nothing that the law and all that it calls make is longer than what came in: it says more and counts as full. Else prove '..UptoSaid'. A law counts once. -/
mutual
def uptoBulk {H : Type} : DataW H → Nat
  | .lit (.string bytes) => bytes.length + 1
  | .lit _ => 1
  | .nil => 1
  | .ptr d => uptoBulk d + 1
  | .slice elems spare => uptoBulkAll elems + uptoBulkAll spare + 1
  | .agg parts => uptoBulkAll parts + 1
  | .iface _ d => uptoBulk d + 1
  | .map entries => uptoBulkEntries entries + 1
  | .held _ => 1
def uptoBulkAll {H : Type} : List (DataW H) → Nat
  | [] => 0
  | d :: r => uptoBulk d + uptoBulkAll r
def uptoBulkEntries {H : Type} : List (Lit × DataW H) → Nat
  | [] => 0
  | x :: r => uptoBulkEntry x + uptoBulkEntries r
def uptoBulkEntry {H : Type} : Lit × DataW H → Nat
  | (.string bytes, d) => bytes.length + uptoBulk d + 1
  | (_, d) => uptoBulk d + 1
 end
def uptoSmall : (H : Type) → List (DataW H) → Bool := fun _ ds => decide (uptoBulkAll ds ≤ 1048576)
def OpenSpec.upto (s : _root_.Go.ChangeSpec) : _root_.Go.OpenSpec := { _root_.Go.OpenSpec.ofChange s with cond := some uptoSmall }

/-- 'aditlaw07.BlakeSums', WHERE WHAT IT READS IS OF BULK AT MOST 1048576: true; the input reads as it did. -/
def blakeSumsUptoRow : OpenClaim := { program := "ytljepgddmfelpaadoor", sum := "42a565cfa6f6e01a1cfc3ccbfbe909f3bcb2a75e955217dcdc04a392858b1268", func := "adit/aditlaw07.BlakeSums", spec := "blakeSums", named := ["adit/blake.eight", "adit/blake.orders"], apart := false, laid := [("adit/blake.eight", laid_adit_blake_eight), ("adit/blake.orders", laid_adit_blake_orders)], narrowed := true }
def BlakeSumsUptoSaid : Prop := blakeSumsUptoRow.holds Tryd.pinned (OpenSpec.upto blakeSumsSpec)

/-- 'aditlaw07.BlakeWrites', WHERE WHAT IT READS IS OF BULK AT MOST 1048576: true; the input reads as it did. -/
def blakeWritesUptoRow : OpenClaim := { program := "ytljepgddmfelpaadoor", sum := "42a565cfa6f6e01a1cfc3ccbfbe909f3bcb2a75e955217dcdc04a392858b1268", func := "adit/aditlaw07.BlakeWrites", spec := "blakeWrites", named := ["adit/blake.eight", "adit/blake.orders"], apart := false, laid := [("adit/blake.eight", laid_adit_blake_eight), ("adit/blake.orders", laid_adit_blake_orders)], narrowed := true }
def BlakeWritesUptoSaid : Prop := blakeWritesUptoRow.holds Tryd.pinned (OpenSpec.upto blakeWritesSpec)

/-- 'aditlaw07.BlakeNobody', WHERE WHAT IT READS IS OF BULK AT MOST 1048576: true; the input reads as it did. -/
def blakeNobodyUptoRow : OpenClaim := { program := "ytljepgddmfelpaadoor", sum := "42a565cfa6f6e01a1cfc3ccbfbe909f3bcb2a75e955217dcdc04a392858b1268", func := "adit/aditlaw07.BlakeNobody", spec := "blakeNobody", named := ["adit/blake.eight", "adit/blake.orders"], apart := false, laid := [("adit/blake.eight", laid_adit_blake_eight), ("adit/blake.orders", laid_adit_blake_orders)], narrowed := true }
def BlakeNobodyUptoSaid : Prop := blakeNobodyUptoRow.holds Tryd.pinned (OpenSpec.upto blakeNobodySpec)

/-- 'aditlaw07.BlakePieces', WHERE WHAT IT READS IS OF BULK AT MOST 1048576: true; the input reads as it did. -/
def blakePiecesUptoRow : OpenClaim := { program := "ytljepgddmfelpaadoor", sum := "42a565cfa6f6e01a1cfc3ccbfbe909f3bcb2a75e955217dcdc04a392858b1268", func := "adit/aditlaw07.BlakePieces", spec := "blakePieces", named := ["adit/blake.eight", "adit/blake.orders"], apart := false, laid := [("adit/blake.eight", laid_adit_blake_eight), ("adit/blake.orders", laid_adit_blake_orders)], narrowed := true }
def BlakePiecesUptoSaid : Prop := blakePiecesUptoRow.holds Tryd.pinned (OpenSpec.upto blakePiecesSpec)

/-- 'aditlaw07.BlakeSizes', WHERE WHAT IT READS IS OF BULK AT MOST 1048576: true; the input reads as it did. -/
def blakeSizesUptoRow : OpenClaim := { program := "ytljepgddmfelpaadoor", sum := "42a565cfa6f6e01a1cfc3ccbfbe909f3bcb2a75e955217dcdc04a392858b1268", func := "adit/aditlaw07.BlakeSizes", spec := "blakeSizes", named := ["adit/blake.eight", "adit/blake.orders"], apart := false, laid := [("adit/blake.eight", laid_adit_blake_eight), ("adit/blake.orders", laid_adit_blake_orders)], narrowed := true }
def BlakeSizesUptoSaid : Prop := blakeSizesUptoRow.holds Tryd.pinned (OpenSpec.upto blakeSizesSpec)

/-- 'aditlaw08.KdfMarks', WHERE WHAT IT READS IS OF BULK AT MOST 1048576: true; the input reads as it did. -/
def kdfMarksUptoRow : OpenClaim := { program := "ytljepgddmfelpaadoor", sum := "42a565cfa6f6e01a1cfc3ccbfbe909f3bcb2a75e955217dcdc04a392858b1268", func := "adit/aditlaw08.KdfMarks", spec := "kdfMarks", unfollowed := true, recurses := true, named := ["adit/blake.eight", "adit/blake.orders"], apart := false, laid := [("adit/blake.eight", laid_adit_blake_eight), ("adit/blake.orders", laid_adit_blake_orders)], narrowed := true }
def KdfMarksUptoSaid : Prop := kdfMarksUptoRow.holds Tryd.pinned (OpenSpec.upto kdfMarksSpec)

/-- 'aditlaw08.KdfChains', WHERE WHAT IT READS IS OF BULK AT MOST 1048576: true; the input reads as it did. -/
def kdfChainsUptoRow : OpenClaim := { program := "ytljepgddmfelpaadoor", sum := "42a565cfa6f6e01a1cfc3ccbfbe909f3bcb2a75e955217dcdc04a392858b1268", func := "adit/aditlaw08.KdfChains", spec := "kdfChains", unfollowed := true, recurses := true, named := ["adit/blake.eight", "adit/blake.orders"], apart := false, laid := [("adit/blake.eight", laid_adit_blake_eight), ("adit/blake.orders", laid_adit_blake_orders)], narrowed := true }
def KdfChainsUptoSaid : Prop := kdfChainsUptoRow.holds Tryd.pinned (OpenSpec.upto kdfChainsSpec)

/-- 'aditlaw08.KdfKeys', WHERE WHAT IT READS IS OF BULK AT MOST 1048576: true; the input reads as it did. -/
def kdfKeysUptoRow : OpenClaim := { program := "ytljepgddmfelpaadoor", sum := "42a565cfa6f6e01a1cfc3ccbfbe909f3bcb2a75e955217dcdc04a392858b1268", func := "adit/aditlaw08.KdfKeys", spec := "kdfKeys", unfollowed := true, recurses := true, named := ["adit/blake.eight", "adit/blake.orders"], apart := false, laid := [("adit/blake.eight", laid_adit_blake_eight), ("adit/blake.orders", laid_adit_blake_orders)], narrowed := true }
def KdfKeysUptoSaid : Prop := kdfKeysUptoRow.holds Tryd.pinned (OpenSpec.upto kdfKeysSpec)

/-- 'aditlaw08.KdfBegins', WHERE WHAT IT READS IS OF BULK AT MOST 1048576: true; the input reads as it did. -/
def kdfBeginsUptoRow : OpenClaim := { program := "ytljepgddmfelpaadoor", sum := "42a565cfa6f6e01a1cfc3ccbfbe909f3bcb2a75e955217dcdc04a392858b1268", func := "adit/aditlaw08.KdfBegins", spec := "kdfBegins", unfollowed := true, recurses := true, named := ["adit/blake.eight", "adit/blake.orders"], apart := false, laid := [("adit/blake.eight", laid_adit_blake_eight), ("adit/blake.orders", laid_adit_blake_orders)], narrowed := true }
def KdfBeginsUptoSaid : Prop := kdfBeginsUptoRow.holds Tryd.pinned (OpenSpec.upto kdfBeginsSpec)

/-- 'aditlaw08.KdfJoins', WHERE WHAT IT READS IS OF BULK AT MOST 1048576: true; the input reads as it did. -/
def kdfJoinsUptoRow : OpenClaim := { program := "ytljepgddmfelpaadoor", sum := "42a565cfa6f6e01a1cfc3ccbfbe909f3bcb2a75e955217dcdc04a392858b1268", func := "adit/aditlaw08.KdfJoins", spec := "kdfJoins", unfollowed := true, recurses := true, named := ["adit/blake.eight", "adit/blake.orders"], apart := false, laid := [("adit/blake.eight", laid_adit_blake_eight), ("adit/blake.orders", laid_adit_blake_orders)], narrowed := true }
def KdfJoinsUptoSaid : Prop := kdfJoinsUptoRow.holds Tryd.pinned (OpenSpec.upto kdfJoinsSpec)

end Rows
end Go.Proofs.YtljepgddmfelpaaDoor
