/-
  No cell of these rows narrows 'for every input' (looked for: loops, veiled, ifaces, maps, wideKeys, modest, calm, conditions, laid).
  DERIVED. THE GIVEN ROWS OF THIS SEAT. 10 by the template 'for every input the law returns true; each argument reads behind the call as it read before'; 0 by the template 'total and deterministic' (their statements: YtfbkppabgogdgaaTotals.lean).
  GIVEN WITH THE SEED: the statements are not yours to turn. If you find one false, say at which input.
  Laid BY PROGRAM, IN A SANDBOX (cutbox-rows.mjs): the forced cells as the released guide's own fill.sh prints them over the translation 14d8bdc71e8aa7b8… (all of the seat's roots in one cut). By AI agents, Wed Nov 11 2026. No macro, syntax, notation, axiom, sorry.
-/
import Derived.Test.YtfbkppabgogdgaaChecked
import GoSem.Claim
import GoSem.ClaimJoined
import GoSem.ClaimMapViews
import Derived.JoinedTies
import Derived.KernelRfl
namespace Go.Proofs.Ytfbkppabgogdgaa
/- THE CELL 'sum', in the pinned program and in every row, IS THE sha256 OF THE DUMP (.gsa) THAT YtfbkppabgogdgaaProg.lean LOADS. Nothing in Lean hashes anything: it is a label: what it is worth is what the hold of that sum in a sandbox is worth. -/
noncomputable def Try.pinned : Pinned := { name := "ytfbkppabgogdgaa", sum := "14d8bdc71e8aa7b8e58687e0f6920bbb402e8c0a3c0fdd7ac784dcf716e0cc21", checked := Try.checked }
namespace Rows
def none {H : Type} : Left H := { results := [], args := [] }

/-- 'aditlaw13.WireWrites': WHATEVER THE INPUT: true; the input reads as it did. -/
def wireWritesSpec : ChangeSpec := { name := "wireWrites", fn := fun _ => fun
  | [d1, d2, d3, d4] => { results := [.lit (.bool true)], args := [d1, d2, d3, d4] }
  | _ => none }
def wireWritesRow : OpenClaim := { program := "ytfbkppabgogdgaa", sum := "14d8bdc71e8aa7b8e58687e0f6920bbb402e8c0a3c0fdd7ac784dcf716e0cc21", func := "adit/aditlaw13.WireWrites", spec := "wireWrites", apart := false }
def WireWritesSaid : Prop := wireWritesRow.holds Try.pinned (OpenSpec.ofChange wireWritesSpec)

/-- ITS FALSE NEIGHBOUR: 'it returns false'. Refute it at one input. -/
def wireWritesWrong : ChangeSpec := { name := "wireWrites", fn := fun _ => fun
  | [d1, d2, d3, d4] => { results := [.lit (.bool false)], args := [d1, d2, d3, d4] }
  | _ => none }
def WireWritesWrongFalsely : Prop := wireWritesRow.holds Try.pinned (OpenSpec.ofChange wireWritesWrong)

/-- 'aditlaw13.WireReads': WHATEVER THE INPUT: true; the input reads as it did. -/
def wireReadsSpec : ChangeSpec := { name := "wireReads", fn := fun _ => fun
  | [d] => { results := [.lit (.bool true)], args := [d] }
  | _ => none }
def wireReadsRow : OpenClaim := { program := "ytfbkppabgogdgaa", sum := "14d8bdc71e8aa7b8e58687e0f6920bbb402e8c0a3c0fdd7ac784dcf716e0cc21", func := "adit/aditlaw13.WireReads", spec := "wireReads", apart := false }
def WireReadsSaid : Prop := wireReadsRow.holds Try.pinned (OpenSpec.ofChange wireReadsSpec)

/-- ITS FALSE NEIGHBOUR: 'it returns false'. Refute it at one input. -/
def wireReadsWrong : ChangeSpec := { name := "wireReads", fn := fun _ => fun
  | [d] => { results := [.lit (.bool false)], args := [d] }
  | _ => none }
def WireReadsWrongFalsely : Prop := wireReadsRow.holds Try.pinned (OpenSpec.ofChange wireReadsWrong)

/-- 'aditlaw13.WireBack': WHATEVER THE INPUT: true; the input reads as it did. -/
def wireBackSpec : ChangeSpec := { name := "wireBack", fn := fun _ => fun
  | [d1, d2, d3, d4] => { results := [.lit (.bool true)], args := [d1, d2, d3, d4] }
  | _ => none }
def wireBackRow : OpenClaim := { program := "ytfbkppabgogdgaa", sum := "14d8bdc71e8aa7b8e58687e0f6920bbb402e8c0a3c0fdd7ac784dcf716e0cc21", func := "adit/aditlaw13.WireBack", spec := "wireBack", apart := false }
def WireBackSaid : Prop := wireBackRow.holds Try.pinned (OpenSpec.ofChange wireBackSpec)

/-- ITS FALSE NEIGHBOUR: 'it returns false'. Refute it at one input. -/
def wireBackWrong : ChangeSpec := { name := "wireBack", fn := fun _ => fun
  | [d1, d2, d3, d4] => { results := [.lit (.bool false)], args := [d1, d2, d3, d4] }
  | _ => none }
def WireBackWrongFalsely : Prop := wireBackRow.holds Try.pinned (OpenSpec.ofChange wireBackWrong)

/-- 'aditlaw13.WireOne': WHATEVER THE INPUT: true; the input reads as it did. -/
def wireOneSpec : ChangeSpec := { name := "wireOne", fn := fun _ => fun
  | [d] => { results := [.lit (.bool true)], args := [d] }
  | _ => none }
def wireOneRow : OpenClaim := { program := "ytfbkppabgogdgaa", sum := "14d8bdc71e8aa7b8e58687e0f6920bbb402e8c0a3c0fdd7ac784dcf716e0cc21", func := "adit/aditlaw13.WireOne", spec := "wireOne", apart := false }
def WireOneSaid : Prop := wireOneRow.holds Try.pinned (OpenSpec.ofChange wireOneSpec)

/-- ITS FALSE NEIGHBOUR: 'it returns false'. Refute it at one input. -/
def wireOneWrong : ChangeSpec := { name := "wireOne", fn := fun _ => fun
  | [d] => { results := [.lit (.bool false)], args := [d] }
  | _ => none }
def WireOneWrongFalsely : Prop := wireOneRow.holds Try.pinned (OpenSpec.ofChange wireOneWrong)

/-- 'aditlaw13.WireCut': WHATEVER THE INPUT: true; the input reads as it did. -/
def wireCutSpec : ChangeSpec := { name := "wireCut", fn := fun _ => fun
  | [d1, d2, d3, d4, d5, d6] => { results := [.lit (.bool true)], args := [d1, d2, d3, d4, d5, d6] }
  | _ => none }
def wireCutRow : OpenClaim := { program := "ytfbkppabgogdgaa", sum := "14d8bdc71e8aa7b8e58687e0f6920bbb402e8c0a3c0fdd7ac784dcf716e0cc21", func := "adit/aditlaw13.WireCut", spec := "wireCut", apart := false }
def WireCutSaid : Prop := wireCutRow.holds Try.pinned (OpenSpec.ofChange wireCutSpec)

/-- ITS FALSE NEIGHBOUR: 'it returns false'. Refute it at one input. -/
def wireCutWrong : ChangeSpec := { name := "wireCut", fn := fun _ => fun
  | [d1, d2, d3, d4, d5, d6] => { results := [.lit (.bool false)], args := [d1, d2, d3, d4, d5, d6] }
  | _ => none }
def WireCutWrongFalsely : Prop := wireCutRow.holds Try.pinned (OpenSpec.ofChange wireCutWrong)

/-- 'aditlaw14.TrieLives': WHATEVER THE INPUT: true; the input reads as it did. -/
def trieLivesSpec : ChangeSpec := { name := "trieLives", fn := fun _ => fun
  | [d] => { results := [.lit (.bool true)], args := [d] }
  | _ => none }
def trieLivesRow : OpenClaim := { program := "ytfbkppabgogdgaa", sum := "14d8bdc71e8aa7b8e58687e0f6920bbb402e8c0a3c0fdd7ac784dcf716e0cc21", func := "adit/aditlaw14.TrieLives", spec := "trieLives", unfollowed := true, recurses := true, apart := false }
def TrieLivesSaid : Prop := trieLivesRow.holds Try.pinned (OpenSpec.ofChange trieLivesSpec)

/-- ITS FALSE NEIGHBOUR: 'it returns false'. Refute it at one input. -/
def trieLivesWrong : ChangeSpec := { name := "trieLives", fn := fun _ => fun
  | [d] => { results := [.lit (.bool false)], args := [d] }
  | _ => none }
def TrieLivesWrongFalsely : Prop := trieLivesRow.holds Try.pinned (OpenSpec.ofChange trieLivesWrong)

/-- 'aditlaw14.TrieLongest': WHATEVER THE INPUT: true; the input reads as it did. -/
def trieLongestSpec : ChangeSpec := { name := "trieLongest", fn := fun _ => fun
  | [d1, d2] => { results := [.lit (.bool true)], args := [d1, d2] }
  | _ => none }
def trieLongestRow : OpenClaim := { program := "ytfbkppabgogdgaa", sum := "14d8bdc71e8aa7b8e58687e0f6920bbb402e8c0a3c0fdd7ac784dcf716e0cc21", func := "adit/aditlaw14.TrieLongest", spec := "trieLongest", unfollowed := true, recurses := true, apart := false }
def TrieLongestSaid : Prop := trieLongestRow.holds Try.pinned (OpenSpec.ofChange trieLongestSpec)

/-- ITS FALSE NEIGHBOUR: 'it returns false'. Refute it at one input. -/
def trieLongestWrong : ChangeSpec := { name := "trieLongest", fn := fun _ => fun
  | [d1, d2] => { results := [.lit (.bool false)], args := [d1, d2] }
  | _ => none }
def TrieLongestWrongFalsely : Prop := trieLongestRow.holds Try.pinned (OpenSpec.ofChange trieLongestWrong)

/-- 'aditlaw14.TrieStays': WHATEVER THE INPUT: true; the input reads as it did. -/
def trieStaysSpec : ChangeSpec := { name := "trieStays", fn := fun _ => fun
  | [d1, d2] => { results := [.lit (.bool true)], args := [d1, d2] }
  | _ => none }
def trieStaysRow : OpenClaim := { program := "ytfbkppabgogdgaa", sum := "14d8bdc71e8aa7b8e58687e0f6920bbb402e8c0a3c0fdd7ac784dcf716e0cc21", func := "adit/aditlaw14.TrieStays", spec := "trieStays", unfollowed := true, recurses := true, apart := false }
def TrieStaysSaid : Prop := trieStaysRow.holds Try.pinned (OpenSpec.ofChange trieStaysSpec)

/-- ITS FALSE NEIGHBOUR: 'it returns false'. Refute it at one input. -/
def trieStaysWrong : ChangeSpec := { name := "trieStays", fn := fun _ => fun
  | [d1, d2] => { results := [.lit (.bool false)], args := [d1, d2] }
  | _ => none }
def TrieStaysWrongFalsely : Prop := trieStaysRow.holds Try.pinned (OpenSpec.ofChange trieStaysWrong)

/-- 'aditlaw14.TrieOrder': WHATEVER THE INPUT: true; the input reads as it did. -/
def trieOrderSpec : ChangeSpec := { name := "trieOrder", fn := fun _ => fun
  | [d1, d2, d3] => { results := [.lit (.bool true)], args := [d1, d2, d3] }
  | _ => none }
def trieOrderRow : OpenClaim := { program := "ytfbkppabgogdgaa", sum := "14d8bdc71e8aa7b8e58687e0f6920bbb402e8c0a3c0fdd7ac784dcf716e0cc21", func := "adit/aditlaw14.TrieOrder", spec := "trieOrder", unfollowed := true, recurses := true, apart := false }
def TrieOrderSaid : Prop := trieOrderRow.holds Try.pinned (OpenSpec.ofChange trieOrderSpec)

/-- ITS FALSE NEIGHBOUR: 'it returns false'. Refute it at one input. -/
def trieOrderWrong : ChangeSpec := { name := "trieOrder", fn := fun _ => fun
  | [d1, d2, d3] => { results := [.lit (.bool false)], args := [d1, d2, d3] }
  | _ => none }
def TrieOrderWrongFalsely : Prop := trieOrderRow.holds Try.pinned (OpenSpec.ofChange trieOrderWrong)

/-- 'aditlaw14.TrieOwners': WHATEVER THE INPUT: true; the input reads as it did. -/
def trieOwnersSpec : ChangeSpec := { name := "trieOwners", fn := fun _ => fun
  | [d1, d2] => { results := [.lit (.bool true)], args := [d1, d2] }
  | _ => none }
def trieOwnersRow : OpenClaim := { program := "ytfbkppabgogdgaa", sum := "14d8bdc71e8aa7b8e58687e0f6920bbb402e8c0a3c0fdd7ac784dcf716e0cc21", func := "adit/aditlaw14.TrieOwners", spec := "trieOwners", unfollowed := true, recurses := true, apart := false }
def TrieOwnersSaid : Prop := trieOwnersRow.holds Try.pinned (OpenSpec.ofChange trieOwnersSpec)

/-- ITS FALSE NEIGHBOUR: 'it returns false'. Refute it at one input. -/
def trieOwnersWrong : ChangeSpec := { name := "trieOwners", fn := fun _ => fun
  | [d1, d2] => { results := [.lit (.bool false)], args := [d1, d2] }
  | _ => none }
def TrieOwnersWrongFalsely : Prop := trieOwnersRow.holds Try.pinned (OpenSpec.ofChange trieOwnersWrong)

/- THE SECOND FORM. 'bulk': how many values and letters a reading holds, each counted each time it is reached (what is shared counts as often as it is met; a slice's spare places count too). A statement '..UptoSaid' is the law's where the arguments, and the package variables that the reading takes, are together of bulk at most 1048576: NARROWER than '..Said'. Prove '..Said' where nothing that the law and all that it calls make is longer than what came in: it says more and counts as full. Else prove '..UptoSaid'. A law counts once. -/
mutual
def uptoBulk {H : Type} : DataW H → Nat
  | .lit (.string bytes) => bytes.length + 1
  | .lit _ => 1
  | .nil => 1
  | .ptr d => uptoBulk d + 1
  | .slice elems spare => uptoBulkAll elems + uptoBulkAll spare + 1
  | .agg parts => uptoBulkAll parts + 1
  | .iface _ d => uptoBulk d + 1
  | .map entries => uptoBulkEntries entries + 1
  | .held _ => 1
def uptoBulkAll {H : Type} : List (DataW H) → Nat
  | [] => 0
  | d :: r => uptoBulk d + uptoBulkAll r
def uptoBulkEntries {H : Type} : List (Lit × DataW H) → Nat
  | [] => 0
  | x :: r => uptoBulkEntry x + uptoBulkEntries r
def uptoBulkEntry {H : Type} : Lit × DataW H → Nat
  | (.string bytes, d) => bytes.length + uptoBulk d + 1
  | (_, d) => uptoBulk d + 1
 end
def uptoSmall : (H : Type) → List (DataW H) → Bool := fun _ ds => decide (uptoBulkAll ds ≤ 1048576)
def OpenSpec.upto (s : _root_.Go.ChangeSpec) : _root_.Go.OpenSpec := { _root_.Go.OpenSpec.ofChange s with cond := some uptoSmall }

/-- 'aditlaw13.WireWrites', WHERE WHAT IT READS IS OF BULK AT MOST 1048576: true; the input reads as it did. -/
def wireWritesUptoRow : OpenClaim := { program := "ytfbkppabgogdgaa", sum := "14d8bdc71e8aa7b8e58687e0f6920bbb402e8c0a3c0fdd7ac784dcf716e0cc21", func := "adit/aditlaw13.WireWrites", spec := "wireWrites", apart := false, narrowed := true }
def WireWritesUptoSaid : Prop := wireWritesUptoRow.holds Try.pinned (OpenSpec.upto wireWritesSpec)

/-- 'aditlaw13.WireReads', WHERE WHAT IT READS IS OF BULK AT MOST 1048576: true; the input reads as it did. -/
def wireReadsUptoRow : OpenClaim := { program := "ytfbkppabgogdgaa", sum := "14d8bdc71e8aa7b8e58687e0f6920bbb402e8c0a3c0fdd7ac784dcf716e0cc21", func := "adit/aditlaw13.WireReads", spec := "wireReads", apart := false, narrowed := true }
def WireReadsUptoSaid : Prop := wireReadsUptoRow.holds Try.pinned (OpenSpec.upto wireReadsSpec)

/-- 'aditlaw13.WireBack', WHERE WHAT IT READS IS OF BULK AT MOST 1048576: true; the input reads as it did. -/
def wireBackUptoRow : OpenClaim := { program := "ytfbkppabgogdgaa", sum := "14d8bdc71e8aa7b8e58687e0f6920bbb402e8c0a3c0fdd7ac784dcf716e0cc21", func := "adit/aditlaw13.WireBack", spec := "wireBack", apart := false, narrowed := true }
def WireBackUptoSaid : Prop := wireBackUptoRow.holds Try.pinned (OpenSpec.upto wireBackSpec)

/-- 'aditlaw13.WireOne', WHERE WHAT IT READS IS OF BULK AT MOST 1048576: true; the input reads as it did. -/
def wireOneUptoRow : OpenClaim := { program := "ytfbkppabgogdgaa", sum := "14d8bdc71e8aa7b8e58687e0f6920bbb402e8c0a3c0fdd7ac784dcf716e0cc21", func := "adit/aditlaw13.WireOne", spec := "wireOne", apart := false, narrowed := true }
def WireOneUptoSaid : Prop := wireOneUptoRow.holds Try.pinned (OpenSpec.upto wireOneSpec)

/-- 'aditlaw13.WireCut', WHERE WHAT IT READS IS OF BULK AT MOST 1048576: true; the input reads as it did. -/
def wireCutUptoRow : OpenClaim := { program := "ytfbkppabgogdgaa", sum := "14d8bdc71e8aa7b8e58687e0f6920bbb402e8c0a3c0fdd7ac784dcf716e0cc21", func := "adit/aditlaw13.WireCut", spec := "wireCut", apart := false, narrowed := true }
def WireCutUptoSaid : Prop := wireCutUptoRow.holds Try.pinned (OpenSpec.upto wireCutSpec)

/-- 'aditlaw14.TrieLives', WHERE WHAT IT READS IS OF BULK AT MOST 1048576: true; the input reads as it did. -/
def trieLivesUptoRow : OpenClaim := { program := "ytfbkppabgogdgaa", sum := "14d8bdc71e8aa7b8e58687e0f6920bbb402e8c0a3c0fdd7ac784dcf716e0cc21", func := "adit/aditlaw14.TrieLives", spec := "trieLives", unfollowed := true, recurses := true, apart := false, narrowed := true }
def TrieLivesUptoSaid : Prop := trieLivesUptoRow.holds Try.pinned (OpenSpec.upto trieLivesSpec)

/-- 'aditlaw14.TrieLongest', WHERE WHAT IT READS IS OF BULK AT MOST 1048576: true; the input reads as it did. -/
def trieLongestUptoRow : OpenClaim := { program := "ytfbkppabgogdgaa", sum := "14d8bdc71e8aa7b8e58687e0f6920bbb402e8c0a3c0fdd7ac784dcf716e0cc21", func := "adit/aditlaw14.TrieLongest", spec := "trieLongest", unfollowed := true, recurses := true, apart := false, narrowed := true }
def TrieLongestUptoSaid : Prop := trieLongestUptoRow.holds Try.pinned (OpenSpec.upto trieLongestSpec)

/-- 'aditlaw14.TrieStays', WHERE WHAT IT READS IS OF BULK AT MOST 1048576: true; the input reads as it did. -/
def trieStaysUptoRow : OpenClaim := { program := "ytfbkppabgogdgaa", sum := "14d8bdc71e8aa7b8e58687e0f6920bbb402e8c0a3c0fdd7ac784dcf716e0cc21", func := "adit/aditlaw14.TrieStays", spec := "trieStays", unfollowed := true, recurses := true, apart := false, narrowed := true }
def TrieStaysUptoSaid : Prop := trieStaysUptoRow.holds Try.pinned (OpenSpec.upto trieStaysSpec)

/-- 'aditlaw14.TrieOrder', WHERE WHAT IT READS IS OF BULK AT MOST 1048576: true; the input reads as it did. -/
def trieOrderUptoRow : OpenClaim := { program := "ytfbkppabgogdgaa", sum := "14d8bdc71e8aa7b8e58687e0f6920bbb402e8c0a3c0fdd7ac784dcf716e0cc21", func := "adit/aditlaw14.TrieOrder", spec := "trieOrder", unfollowed := true, recurses := true, apart := false, narrowed := true }
def TrieOrderUptoSaid : Prop := trieOrderUptoRow.holds Try.pinned (OpenSpec.upto trieOrderSpec)

/-- 'aditlaw14.TrieOwners', WHERE WHAT IT READS IS OF BULK AT MOST 1048576: true; the input reads as it did. -/
def trieOwnersUptoRow : OpenClaim := { program := "ytfbkppabgogdgaa", sum := "14d8bdc71e8aa7b8e58687e0f6920bbb402e8c0a3c0fdd7ac784dcf716e0cc21", func := "adit/aditlaw14.TrieOwners", spec := "trieOwners", unfollowed := true, recurses := true, apart := false, narrowed := true }
def TrieOwnersUptoSaid : Prop := trieOwnersUptoRow.holds Try.pinned (OpenSpec.upto trieOwnersSpec)

end Rows
end Go.Proofs.Ytfbkppabgogdgaa
