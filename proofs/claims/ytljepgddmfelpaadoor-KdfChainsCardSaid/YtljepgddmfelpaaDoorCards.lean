/-
  DERIVED. GIVEN WITH THE SEED: THE CARDS: each row of YtljepgddmfelpaaDoorRows.lean that lists a variable, with what it lists TIED to the program's text (the seventh form; the later family's looks); each row that meets fmt, with fmt's text TOLD by the authors' own Lean function (tested against real Go, not proved from fmt's source: count such statements apart). THE CARD IS WHAT COUNTS. Prove the row's statement (the work); the ties are given (YtljepgddmfelpaaDoorTie.lean); close each card by the builder's one call (the guide's Derived/Test/ToyasCard.lean, 'card_holds'). Laid BY PROGRAM, IN A SANDBOX (cutbox-door.mjs). By AI agents, Wed Nov 11 2026. No macro, syntax, notation, axiom, sorry.
-/
import Derived.Test.YtljepgddmfelpaaDoorRows
import GoSem.ClaimSeven
namespace Go.Proofs.YtljepgddmfelpaaDoor
namespace Rows

/-- THE TIED CARD OF 'aditlaw07.BlakeSums'. -/
def blakeSumsCard : Claim7 := { stood := { row := blakeSumsRow, standIns := [], harness := (true, "bee5254ad30620f99f2f979363f74e4a983809c1decce5f944a9e1ec79f8f9ab"), looks := false }, kinds := [], alts := [], laidByText := true, laidKinds := [.data, .data], laidTests := true, laidLooks := .later }
def BlakeSumsCardSaid : Prop := Claim7.holds Tryd.pinned (.plain (OpenSpec.ofChange blakeSumsSpec)) blakeSumsCard

/-- THE TIED CARD OF 'aditlaw07.BlakeWrites'. -/
def blakeWritesCard : Claim7 := { stood := { row := blakeWritesRow, standIns := [], harness := (true, "bee5254ad30620f99f2f979363f74e4a983809c1decce5f944a9e1ec79f8f9ab"), looks := false }, kinds := [], alts := [], laidByText := true, laidKinds := [.data, .data], laidTests := true, laidLooks := .later }
def BlakeWritesCardSaid : Prop := Claim7.holds Tryd.pinned (.plain (OpenSpec.ofChange blakeWritesSpec)) blakeWritesCard

/-- THE TIED CARD OF 'aditlaw07.BlakeNobody'. -/
def blakeNobodyCard : Claim7 := { stood := { row := blakeNobodyRow, standIns := [], harness := (true, "bee5254ad30620f99f2f979363f74e4a983809c1decce5f944a9e1ec79f8f9ab"), looks := false }, kinds := [], alts := [], laidByText := true, laidKinds := [.data, .data], laidTests := true, laidLooks := .later }
def BlakeNobodyCardSaid : Prop := Claim7.holds Tryd.pinned (.plain (OpenSpec.ofChange blakeNobodySpec)) blakeNobodyCard

/-- THE TIED CARD OF 'aditlaw07.BlakePieces'. -/
def blakePiecesCard : Claim7 := { stood := { row := blakePiecesRow, standIns := [], harness := (true, "bee5254ad30620f99f2f979363f74e4a983809c1decce5f944a9e1ec79f8f9ab"), looks := false }, kinds := [], alts := [], laidByText := true, laidKinds := [.data, .data], laidTests := true, laidLooks := .later }
def BlakePiecesCardSaid : Prop := Claim7.holds Tryd.pinned (.plain (OpenSpec.ofChange blakePiecesSpec)) blakePiecesCard

/-- THE TIED CARD OF 'aditlaw07.BlakeSizes'. -/
def blakeSizesCard : Claim7 := { stood := { row := blakeSizesRow, standIns := [], harness := (true, "bee5254ad30620f99f2f979363f74e4a983809c1decce5f944a9e1ec79f8f9ab"), looks := false }, kinds := [], alts := [], laidByText := true, laidKinds := [.data, .data], laidTests := true, laidLooks := .later }
def BlakeSizesCardSaid : Prop := Claim7.holds Tryd.pinned (.plain (OpenSpec.ofChange blakeSizesSpec)) blakeSizesCard

/-- THE TIED CARD OF 'aditlaw08.KdfMarks'. -/
def kdfMarksCard : Claim7 := { stood := { row := kdfMarksRow, standIns := [], harness := (true, "bee5254ad30620f99f2f979363f74e4a983809c1decce5f944a9e1ec79f8f9ab"), looks := false }, kinds := [], alts := [], laidByText := true, laidKinds := [.data, .data], laidTests := true, laidLooks := .later }
def KdfMarksCardSaid : Prop := Claim7.holds Tryd.pinned (.plain (OpenSpec.ofChange kdfMarksSpec)) kdfMarksCard

/-- THE TIED CARD OF 'aditlaw08.KdfChains'. -/
def kdfChainsCard : Claim7 := { stood := { row := kdfChainsRow, standIns := [], harness := (true, "bee5254ad30620f99f2f979363f74e4a983809c1decce5f944a9e1ec79f8f9ab"), looks := false }, kinds := [], alts := [], laidByText := true, laidKinds := [.data, .data], laidTests := true, laidLooks := .later }
def KdfChainsCardSaid : Prop := Claim7.holds Tryd.pinned (.plain (OpenSpec.ofChange kdfChainsSpec)) kdfChainsCard

/-- THE TIED CARD OF 'aditlaw08.KdfKeys'. -/
def kdfKeysCard : Claim7 := { stood := { row := kdfKeysRow, standIns := [], harness := (true, "bee5254ad30620f99f2f979363f74e4a983809c1decce5f944a9e1ec79f8f9ab"), looks := false }, kinds := [], alts := [], laidByText := true, laidKinds := [.data, .data], laidTests := true, laidLooks := .later }
def KdfKeysCardSaid : Prop := Claim7.holds Tryd.pinned (.plain (OpenSpec.ofChange kdfKeysSpec)) kdfKeysCard

/-- THE TIED CARD OF 'aditlaw08.KdfBegins'. -/
def kdfBeginsCard : Claim7 := { stood := { row := kdfBeginsRow, standIns := [], harness := (true, "bee5254ad30620f99f2f979363f74e4a983809c1decce5f944a9e1ec79f8f9ab"), looks := false }, kinds := [], alts := [], laidByText := true, laidKinds := [.data, .data], laidTests := true, laidLooks := .later }
def KdfBeginsCardSaid : Prop := Claim7.holds Tryd.pinned (.plain (OpenSpec.ofChange kdfBeginsSpec)) kdfBeginsCard

/-- THE TIED CARD OF 'aditlaw08.KdfJoins'. -/
def kdfJoinsCard : Claim7 := { stood := { row := kdfJoinsRow, standIns := [], harness := (true, "bee5254ad30620f99f2f979363f74e4a983809c1decce5f944a9e1ec79f8f9ab"), looks := false }, kinds := [], alts := [], laidByText := true, laidKinds := [.data, .data], laidTests := true, laidLooks := .later }
def KdfJoinsCardSaid : Prop := Claim7.holds Tryd.pinned (.plain (OpenSpec.ofChange kdfJoinsSpec)) kdfJoinsCard

/-- THE SECOND FORM's CARD OF 'aditlaw07.BlakeSums'. -/
def blakeSumsUptoCard : Claim7 := { stood := { row := blakeSumsUptoRow, standIns := [], harness := (true, "bee5254ad30620f99f2f979363f74e4a983809c1decce5f944a9e1ec79f8f9ab"), looks := false }, kinds := [], alts := [], laidByText := true, laidKinds := [.data, .data], laidTests := true, laidLooks := .later }
def BlakeSumsUptoCardSaid : Prop := Claim7.holds Tryd.pinned (.plain (OpenSpec.upto blakeSumsSpec)) blakeSumsUptoCard

/-- THE SECOND FORM's CARD OF 'aditlaw07.BlakeWrites'. -/
def blakeWritesUptoCard : Claim7 := { stood := { row := blakeWritesUptoRow, standIns := [], harness := (true, "bee5254ad30620f99f2f979363f74e4a983809c1decce5f944a9e1ec79f8f9ab"), looks := false }, kinds := [], alts := [], laidByText := true, laidKinds := [.data, .data], laidTests := true, laidLooks := .later }
def BlakeWritesUptoCardSaid : Prop := Claim7.holds Tryd.pinned (.plain (OpenSpec.upto blakeWritesSpec)) blakeWritesUptoCard

/-- THE SECOND FORM's CARD OF 'aditlaw07.BlakeNobody'. -/
def blakeNobodyUptoCard : Claim7 := { stood := { row := blakeNobodyUptoRow, standIns := [], harness := (true, "bee5254ad30620f99f2f979363f74e4a983809c1decce5f944a9e1ec79f8f9ab"), looks := false }, kinds := [], alts := [], laidByText := true, laidKinds := [.data, .data], laidTests := true, laidLooks := .later }
def BlakeNobodyUptoCardSaid : Prop := Claim7.holds Tryd.pinned (.plain (OpenSpec.upto blakeNobodySpec)) blakeNobodyUptoCard

/-- THE SECOND FORM's CARD OF 'aditlaw07.BlakePieces'. -/
def blakePiecesUptoCard : Claim7 := { stood := { row := blakePiecesUptoRow, standIns := [], harness := (true, "bee5254ad30620f99f2f979363f74e4a983809c1decce5f944a9e1ec79f8f9ab"), looks := false }, kinds := [], alts := [], laidByText := true, laidKinds := [.data, .data], laidTests := true, laidLooks := .later }
def BlakePiecesUptoCardSaid : Prop := Claim7.holds Tryd.pinned (.plain (OpenSpec.upto blakePiecesSpec)) blakePiecesUptoCard

/-- THE SECOND FORM's CARD OF 'aditlaw07.BlakeSizes'. -/
def blakeSizesUptoCard : Claim7 := { stood := { row := blakeSizesUptoRow, standIns := [], harness := (true, "bee5254ad30620f99f2f979363f74e4a983809c1decce5f944a9e1ec79f8f9ab"), looks := false }, kinds := [], alts := [], laidByText := true, laidKinds := [.data, .data], laidTests := true, laidLooks := .later }
def BlakeSizesUptoCardSaid : Prop := Claim7.holds Tryd.pinned (.plain (OpenSpec.upto blakeSizesSpec)) blakeSizesUptoCard

/-- THE SECOND FORM's CARD OF 'aditlaw08.KdfMarks'. -/
def kdfMarksUptoCard : Claim7 := { stood := { row := kdfMarksUptoRow, standIns := [], harness := (true, "bee5254ad30620f99f2f979363f74e4a983809c1decce5f944a9e1ec79f8f9ab"), looks := false }, kinds := [], alts := [], laidByText := true, laidKinds := [.data, .data], laidTests := true, laidLooks := .later }
def KdfMarksUptoCardSaid : Prop := Claim7.holds Tryd.pinned (.plain (OpenSpec.upto kdfMarksSpec)) kdfMarksUptoCard

/-- THE SECOND FORM's CARD OF 'aditlaw08.KdfChains'. -/
def kdfChainsUptoCard : Claim7 := { stood := { row := kdfChainsUptoRow, standIns := [], harness := (true, "bee5254ad30620f99f2f979363f74e4a983809c1decce5f944a9e1ec79f8f9ab"), looks := false }, kinds := [], alts := [], laidByText := true, laidKinds := [.data, .data], laidTests := true, laidLooks := .later }
def KdfChainsUptoCardSaid : Prop := Claim7.holds Tryd.pinned (.plain (OpenSpec.upto kdfChainsSpec)) kdfChainsUptoCard

/-- THE SECOND FORM's CARD OF 'aditlaw08.KdfKeys'. -/
def kdfKeysUptoCard : Claim7 := { stood := { row := kdfKeysUptoRow, standIns := [], harness := (true, "bee5254ad30620f99f2f979363f74e4a983809c1decce5f944a9e1ec79f8f9ab"), looks := false }, kinds := [], alts := [], laidByText := true, laidKinds := [.data, .data], laidTests := true, laidLooks := .later }
def KdfKeysUptoCardSaid : Prop := Claim7.holds Tryd.pinned (.plain (OpenSpec.upto kdfKeysSpec)) kdfKeysUptoCard

/-- THE SECOND FORM's CARD OF 'aditlaw08.KdfBegins'. -/
def kdfBeginsUptoCard : Claim7 := { stood := { row := kdfBeginsUptoRow, standIns := [], harness := (true, "bee5254ad30620f99f2f979363f74e4a983809c1decce5f944a9e1ec79f8f9ab"), looks := false }, kinds := [], alts := [], laidByText := true, laidKinds := [.data, .data], laidTests := true, laidLooks := .later }
def KdfBeginsUptoCardSaid : Prop := Claim7.holds Tryd.pinned (.plain (OpenSpec.upto kdfBeginsSpec)) kdfBeginsUptoCard

/-- THE SECOND FORM's CARD OF 'aditlaw08.KdfJoins'. -/
def kdfJoinsUptoCard : Claim7 := { stood := { row := kdfJoinsUptoRow, standIns := [], harness := (true, "bee5254ad30620f99f2f979363f74e4a983809c1decce5f944a9e1ec79f8f9ab"), looks := false }, kinds := [], alts := [], laidByText := true, laidKinds := [.data, .data], laidTests := true, laidLooks := .later }
def KdfJoinsUptoCardSaid : Prop := Claim7.holds Tryd.pinned (.plain (OpenSpec.upto kdfJoinsSpec)) kdfJoinsUptoCard
end Rows
end Go.Proofs.YtljepgddmfelpaaDoor
