/-
  No cell of these rows narrows 'for every input' (looked for: loops, veiled, ifaces, maps, wideKeys, modest, calm, conditions, laid).
  DERIVED. THE GIVEN ROWS OF THIS SEAT. 13 by the template 'for every input the law returns true; each argument reads behind the call as it read before'; 0 by the template 'total and deterministic' (their statements: YtijmbjnmfkiklaaTotals.lean).
  GIVEN WITH THE SEED: the statements are not yours to turn. If you find one false, say at which input.
  Laid BY PROGRAM, IN A SANDBOX (cutbox-rows.mjs): the forced cells as the released guide's own fill.sh prints them over the translation fef07bccd2b4bbc6… (all of the seat's roots in one cut). By AI agents, Wed Nov 11 2026. No macro, syntax, notation, axiom, sorry.
-/
import Derived.Test.YtijmbjnmfkiklaaChecked
import GoSem.Claim
import GoSem.ClaimJoined
import GoSem.ClaimMapViews
import Derived.JoinedTies
import Derived.KernelRfl
namespace Go.Proofs.Ytijmbjnmfkiklaa
/- THE CELL 'sum', in the pinned program and in every row, IS THE sha256 OF THE DUMP (.gsa) THAT YtijmbjnmfkiklaaProg.lean LOADS. Nothing in Lean hashes anything: it is a label: what it is worth is what the hold of that sum in a sandbox is worth. -/
noncomputable def Try.pinned : Pinned := { name := "ytijmbjnmfkiklaa", sum := "fef07bccd2b4bbc6d0eec32c2504eea23126818a83734c171e6b442610066935", checked := Try.checked }
namespace Rows
def none {H : Type} : Left H := { results := [], args := [] }

/-- 'aditlaw15.WindowLives': WHATEVER THE INPUT: true; the input reads as it did. -/
def windowLivesSpec : ChangeSpec := { name := "windowLives", fn := fun _ => fun
  | [d1, d2] => { results := [.lit (.bool true)], args := [d1, d2] }
  | _ => none }
def windowLivesRow : OpenClaim := { program := "ytijmbjnmfkiklaa", sum := "fef07bccd2b4bbc6d0eec32c2504eea23126818a83734c171e6b442610066935", func := "adit/aditlaw15.WindowLives", spec := "windowLives", apart := false }
def WindowLivesSaid : Prop := windowLivesRow.holds Try.pinned (OpenSpec.ofChange windowLivesSpec)

/-- ITS FALSE NEIGHBOUR: 'it returns false'. Refute it at one input. -/
def windowLivesWrong : ChangeSpec := { name := "windowLives", fn := fun _ => fun
  | [d1, d2] => { results := [.lit (.bool false)], args := [d1, d2] }
  | _ => none }
def WindowLivesWrongFalsely : Prop := windowLivesRow.holds Try.pinned (OpenSpec.ofChange windowLivesWrong)

/-- 'aditlaw15.WindowOnce': WHATEVER THE INPUT: true; the input reads as it did. -/
def windowOnceSpec : ChangeSpec := { name := "windowOnce", fn := fun _ => fun
  | [d] => { results := [.lit (.bool true)], args := [d] }
  | _ => none }
def windowOnceRow : OpenClaim := { program := "ytijmbjnmfkiklaa", sum := "fef07bccd2b4bbc6d0eec32c2504eea23126818a83734c171e6b442610066935", func := "adit/aditlaw15.WindowOnce", spec := "windowOnce", apart := false }
def WindowOnceSaid : Prop := windowOnceRow.holds Try.pinned (OpenSpec.ofChange windowOnceSpec)

/-- ITS FALSE NEIGHBOUR: 'it returns false'. Refute it at one input. -/
def windowOnceWrong : ChangeSpec := { name := "windowOnce", fn := fun _ => fun
  | [d] => { results := [.lit (.bool false)], args := [d] }
  | _ => none }
def WindowOnceWrongFalsely : Prop := windowOnceRow.holds Try.pinned (OpenSpec.ofChange windowOnceWrong)

/-- 'aditlaw15.WindowTakes': WHATEVER THE INPUT: true; the input reads as it did. -/
def windowTakesSpec : ChangeSpec := { name := "windowTakes", fn := fun _ => fun
  | [d1, d2] => { results := [.lit (.bool true)], args := [d1, d2] }
  | _ => none }
def windowTakesRow : OpenClaim := { program := "ytijmbjnmfkiklaa", sum := "fef07bccd2b4bbc6d0eec32c2504eea23126818a83734c171e6b442610066935", func := "adit/aditlaw15.WindowTakes", spec := "windowTakes", apart := false }
def WindowTakesSaid : Prop := windowTakesRow.holds Try.pinned (OpenSpec.ofChange windowTakesSpec)

/-- ITS FALSE NEIGHBOUR: 'it returns false'. Refute it at one input. -/
def windowTakesWrong : ChangeSpec := { name := "windowTakes", fn := fun _ => fun
  | [d1, d2] => { results := [.lit (.bool false)], args := [d1, d2] }
  | _ => none }
def WindowTakesWrongFalsely : Prop := windowTakesRow.holds Try.pinned (OpenSpec.ofChange windowTakesWrong)

/-- 'aditlaw15.WindowRefuses': WHATEVER THE INPUT: true; the input reads as it did. -/
def windowRefusesSpec : ChangeSpec := { name := "windowRefuses", fn := fun _ => fun
  | [d] => { results := [.lit (.bool true)], args := [d] }
  | _ => none }
def windowRefusesRow : OpenClaim := { program := "ytijmbjnmfkiklaa", sum := "fef07bccd2b4bbc6d0eec32c2504eea23126818a83734c171e6b442610066935", func := "adit/aditlaw15.WindowRefuses", spec := "windowRefuses", apart := false }
def WindowRefusesSaid : Prop := windowRefusesRow.holds Try.pinned (OpenSpec.ofChange windowRefusesSpec)

/-- ITS FALSE NEIGHBOUR: 'it returns false'. Refute it at one input. -/
def windowRefusesWrong : ChangeSpec := { name := "windowRefuses", fn := fun _ => fun
  | [d] => { results := [.lit (.bool false)], args := [d] }
  | _ => none }
def WindowRefusesWrongFalsely : Prop := windowRefusesRow.holds Try.pinned (OpenSpec.ofChange windowRefusesWrong)

/-- 'aditlaw15.WindowOrder': WHATEVER THE INPUT: true; the input reads as it did. -/
def windowOrderSpec : ChangeSpec := { name := "windowOrder", fn := fun _ => fun
  | [d1, d2, d3] => { results := [.lit (.bool true)], args := [d1, d2, d3] }
  | _ => none }
def windowOrderRow : OpenClaim := { program := "ytijmbjnmfkiklaa", sum := "fef07bccd2b4bbc6d0eec32c2504eea23126818a83734c171e6b442610066935", func := "adit/aditlaw15.WindowOrder", spec := "windowOrder", apart := false }
def WindowOrderSaid : Prop := windowOrderRow.holds Try.pinned (OpenSpec.ofChange windowOrderSpec)

/-- ITS FALSE NEIGHBOUR: 'it returns false'. Refute it at one input. -/
def windowOrderWrong : ChangeSpec := { name := "windowOrder", fn := fun _ => fun
  | [d1, d2, d3] => { results := [.lit (.bool false)], args := [d1, d2, d3] }
  | _ => none }
def WindowOrderWrongFalsely : Prop := windowOrderRow.holds Try.pinned (OpenSpec.ofChange windowOrderWrong)

/-- 'aditlaw16.GaugeOrders': WHATEVER THE INPUT: true; the input reads as it did. -/
def gaugeOrdersSpec : ChangeSpec := { name := "gaugeOrders", fn := fun _ => fun
  | [d1, d2] => { results := [.lit (.bool true)], args := [d1, d2] }
  | _ => none }
def gaugeOrdersRow : OpenClaim := { program := "ytijmbjnmfkiklaa", sum := "fef07bccd2b4bbc6d0eec32c2504eea23126818a83734c171e6b442610066935", func := "adit/aditlaw16.GaugeOrders", spec := "gaugeOrders", inPlace := ["math.Float64bits", "math.Float64frombits"], apart := false }
def GaugeOrdersSaid : Prop := gaugeOrdersRow.holds Try.pinned (OpenSpec.ofChange gaugeOrdersSpec)

/-- ITS FALSE NEIGHBOUR: 'it returns false'. Refute it at one input. -/
def gaugeOrdersWrong : ChangeSpec := { name := "gaugeOrders", fn := fun _ => fun
  | [d1, d2] => { results := [.lit (.bool false)], args := [d1, d2] }
  | _ => none }
def GaugeOrdersWrongFalsely : Prop := gaugeOrdersRow.holds Try.pinned (OpenSpec.ofChange gaugeOrdersWrong)

/-- 'aditlaw16.GaugeRates': WHATEVER THE INPUT: true; the input reads as it did. -/
def gaugeRatesSpec : ChangeSpec := { name := "gaugeRates", fn := fun _ => fun
  | [d1, d2] => { results := [.lit (.bool true)], args := [d1, d2] }
  | _ => none }
def gaugeRatesRow : OpenClaim := { program := "ytijmbjnmfkiklaa", sum := "fef07bccd2b4bbc6d0eec32c2504eea23126818a83734c171e6b442610066935", func := "adit/aditlaw16.GaugeRates", spec := "gaugeRates", inPlace := ["math.Float64frombits", "math.Float64bits"], apart := false }
def GaugeRatesSaid : Prop := gaugeRatesRow.holds Try.pinned (OpenSpec.ofChange gaugeRatesSpec)

/-- ITS FALSE NEIGHBOUR: 'it returns false'. Refute it at one input. -/
def gaugeRatesWrong : ChangeSpec := { name := "gaugeRates", fn := fun _ => fun
  | [d1, d2] => { results := [.lit (.bool false)], args := [d1, d2] }
  | _ => none }
def GaugeRatesWrongFalsely : Prop := gaugeRatesRow.holds Try.pinned (OpenSpec.ofChange gaugeRatesWrong)

/-- 'aditlaw16.GaugeNotes': WHATEVER THE INPUT: true; the input reads as it did. -/
def gaugeNotesSpec : ChangeSpec := { name := "gaugeNotes", fn := fun _ => fun
  | [d] => { results := [.lit (.bool true)], args := [d] }
  | _ => none }
def gaugeNotesRow : OpenClaim := { program := "ytijmbjnmfkiklaa", sum := "fef07bccd2b4bbc6d0eec32c2504eea23126818a83734c171e6b442610066935", func := "adit/aditlaw16.GaugeNotes", spec := "gaugeNotes", inPlace := ["math.Float64bits", "math.Float64frombits"], apart := false }
def GaugeNotesSaid : Prop := gaugeNotesRow.holds Try.pinned (OpenSpec.ofChange gaugeNotesSpec)

/-- ITS FALSE NEIGHBOUR: 'it returns false'. Refute it at one input. -/
def gaugeNotesWrong : ChangeSpec := { name := "gaugeNotes", fn := fun _ => fun
  | [d] => { results := [.lit (.bool false)], args := [d] }
  | _ => none }
def GaugeNotesWrongFalsely : Prop := gaugeNotesRow.holds Try.pinned (OpenSpec.ofChange gaugeNotesWrong)

/-- 'aditlaw16.GaugeSorts': WHATEVER THE INPUT: true; the input reads as it did. -/
def gaugeSortsSpec : ChangeSpec := { name := "gaugeSorts", fn := fun _ => fun
  | [d] => { results := [.lit (.bool true)], args := [d] }
  | _ => none }
def gaugeSortsRow : OpenClaim := { program := "ytijmbjnmfkiklaa", sum := "fef07bccd2b4bbc6d0eec32c2504eea23126818a83734c171e6b442610066935", func := "adit/aditlaw16.GaugeSorts", spec := "gaugeSorts", inPlace := ["math.Float64bits", "math.Float64frombits", "internal/reflectlite.ValueOf", "internal/reflectlite.Swapper", "(internal/reflectlite.Value).Len"], unfollowed := true, recurses := true, apart := false }
def GaugeSortsSaid : Prop := gaugeSortsRow.holds Try.pinned (OpenSpec.ofChange gaugeSortsSpec)

/-- ITS FALSE NEIGHBOUR: 'it returns false'. Refute it at one input. -/
def gaugeSortsWrong : ChangeSpec := { name := "gaugeSorts", fn := fun _ => fun
  | [d] => { results := [.lit (.bool false)], args := [d] }
  | _ => none }
def GaugeSortsWrongFalsely : Prop := gaugeSortsRow.holds Try.pinned (OpenSpec.ofChange gaugeSortsWrong)

/-- 'aditlaw16.GaugeTotal': WHATEVER THE INPUT: true; the input reads as it did. -/
def gaugeTotalSpec : ChangeSpec := { name := "gaugeTotal", fn := fun _ => fun
  | [d1, d2, d3] => { results := [.lit (.bool true)], args := [d1, d2, d3] }
  | _ => none }
def gaugeTotalRow : OpenClaim := { program := "ytijmbjnmfkiklaa", sum := "fef07bccd2b4bbc6d0eec32c2504eea23126818a83734c171e6b442610066935", func := "adit/aditlaw16.GaugeTotal", spec := "gaugeTotal", inPlace := ["math.Float64bits", "math.Float64frombits"], apart := false }
def GaugeTotalSaid : Prop := gaugeTotalRow.holds Try.pinned (OpenSpec.ofChange gaugeTotalSpec)

/-- ITS FALSE NEIGHBOUR: 'it returns false'. Refute it at one input. -/
def gaugeTotalWrong : ChangeSpec := { name := "gaugeTotal", fn := fun _ => fun
  | [d1, d2, d3] => { results := [.lit (.bool false)], args := [d1, d2, d3] }
  | _ => none }
def GaugeTotalWrongFalsely : Prop := gaugeTotalRow.holds Try.pinned (OpenSpec.ofChange gaugeTotalWrong)

/-- 'aditlaw16.GaugeEnds': WHATEVER THE INPUT: true; the input reads as it did. -/
def gaugeEndsSpec : ChangeSpec := { name := "gaugeEnds", fn := fun _ => fun
  | [d1, d2] => { results := [.lit (.bool true)], args := [d1, d2] }
  | _ => none }
def gaugeEndsRow : OpenClaim := { program := "ytijmbjnmfkiklaa", sum := "fef07bccd2b4bbc6d0eec32c2504eea23126818a83734c171e6b442610066935", func := "adit/aditlaw16.GaugeEnds", spec := "gaugeEnds", inPlace := ["math.Float64bits", "math.Float64frombits"], apart := false }
def GaugeEndsSaid : Prop := gaugeEndsRow.holds Try.pinned (OpenSpec.ofChange gaugeEndsSpec)

/-- ITS FALSE NEIGHBOUR: 'it returns false'. Refute it at one input. -/
def gaugeEndsWrong : ChangeSpec := { name := "gaugeEnds", fn := fun _ => fun
  | [d1, d2] => { results := [.lit (.bool false)], args := [d1, d2] }
  | _ => none }
def GaugeEndsWrongFalsely : Prop := gaugeEndsRow.holds Try.pinned (OpenSpec.ofChange gaugeEndsWrong)

/-- 'aditlaw16.GaugePicks': WHATEVER THE INPUT: true; the input reads as it did. -/
def gaugePicksSpec : ChangeSpec := { name := "gaugePicks", fn := fun _ => fun
  | [d1, d2] => { results := [.lit (.bool true)], args := [d1, d2] }
  | _ => none }
def gaugePicksRow : OpenClaim := { program := "ytijmbjnmfkiklaa", sum := "fef07bccd2b4bbc6d0eec32c2504eea23126818a83734c171e6b442610066935", func := "adit/aditlaw16.GaugePicks", spec := "gaugePicks", inPlace := ["math.Float64frombits", "math.Float64bits"], apart := false }
def GaugePicksSaid : Prop := gaugePicksRow.holds Try.pinned (OpenSpec.ofChange gaugePicksSpec)

/-- ITS FALSE NEIGHBOUR: 'it returns false'. Refute it at one input. -/
def gaugePicksWrong : ChangeSpec := { name := "gaugePicks", fn := fun _ => fun
  | [d1, d2] => { results := [.lit (.bool false)], args := [d1, d2] }
  | _ => none }
def GaugePicksWrongFalsely : Prop := gaugePicksRow.holds Try.pinned (OpenSpec.ofChange gaugePicksWrong)

/-- 'aditlaw16.GaugeMiddle': WHATEVER THE INPUT: true; the input reads as it did. -/
def gaugeMiddleSpec : ChangeSpec := { name := "gaugeMiddle", fn := fun _ => fun
  | [d] => { results := [.lit (.bool true)], args := [d] }
  | _ => none }
def gaugeMiddleRow : OpenClaim := { program := "ytijmbjnmfkiklaa", sum := "fef07bccd2b4bbc6d0eec32c2504eea23126818a83734c171e6b442610066935", func := "adit/aditlaw16.GaugeMiddle", spec := "gaugeMiddle", inPlace := ["math.Float64bits", "math.Float64frombits", "internal/reflectlite.ValueOf", "internal/reflectlite.Swapper", "(internal/reflectlite.Value).Len"], unfollowed := true, recurses := true, apart := false }
def GaugeMiddleSaid : Prop := gaugeMiddleRow.holds Try.pinned (OpenSpec.ofChange gaugeMiddleSpec)

/-- ITS FALSE NEIGHBOUR: 'it returns false'. Refute it at one input. -/
def gaugeMiddleWrong : ChangeSpec := { name := "gaugeMiddle", fn := fun _ => fun
  | [d] => { results := [.lit (.bool false)], args := [d] }
  | _ => none }
def GaugeMiddleWrongFalsely : Prop := gaugeMiddleRow.holds Try.pinned (OpenSpec.ofChange gaugeMiddleWrong)

/- THE SECOND FORM. 'bulk': how many values and letters a reading holds, each counted each time it is reached (what is shared counts as often as it is met; a slice's spare places count too). A statement '..UptoSaid' is the law's where the arguments, and the package variables that the reading takes, are together of bulk at most 1048576: NARROWER than '..Said'. Prove '..Said' where nothing that the law and all that it calls make is longer than what came in: it says more and counts as full. Else prove '..UptoSaid'. A law counts once. -/
mutual
def uptoBulk {H : Type} : DataW H → Nat
  | .lit (.string bytes) => bytes.length + 1
  | .lit _ => 1
  | .nil => 1
  | .ptr d => uptoBulk d + 1
  | .slice elems spare => uptoBulkAll elems + uptoBulkAll spare + 1
  | .agg parts => uptoBulkAll parts + 1
  | .iface _ d => uptoBulk d + 1
  | .map entries => uptoBulkEntries entries + 1
  | .held _ => 1
def uptoBulkAll {H : Type} : List (DataW H) → Nat
  | [] => 0
  | d :: r => uptoBulk d + uptoBulkAll r
def uptoBulkEntries {H : Type} : List (Lit × DataW H) → Nat
  | [] => 0
  | x :: r => uptoBulkEntry x + uptoBulkEntries r
def uptoBulkEntry {H : Type} : Lit × DataW H → Nat
  | (.string bytes, d) => bytes.length + uptoBulk d + 1
  | (_, d) => uptoBulk d + 1
 end
def uptoSmall : (H : Type) → List (DataW H) → Bool := fun _ ds => decide (uptoBulkAll ds ≤ 1048576)
def OpenSpec.upto (s : _root_.Go.ChangeSpec) : _root_.Go.OpenSpec := { _root_.Go.OpenSpec.ofChange s with cond := some uptoSmall }

/-- 'aditlaw15.WindowLives', WHERE WHAT IT READS IS OF BULK AT MOST 1048576: true; the input reads as it did. -/
def windowLivesUptoRow : OpenClaim := { program := "ytijmbjnmfkiklaa", sum := "fef07bccd2b4bbc6d0eec32c2504eea23126818a83734c171e6b442610066935", func := "adit/aditlaw15.WindowLives", spec := "windowLives", apart := false, narrowed := true }
def WindowLivesUptoSaid : Prop := windowLivesUptoRow.holds Try.pinned (OpenSpec.upto windowLivesSpec)

/-- 'aditlaw15.WindowOnce', WHERE WHAT IT READS IS OF BULK AT MOST 1048576: true; the input reads as it did. -/
def windowOnceUptoRow : OpenClaim := { program := "ytijmbjnmfkiklaa", sum := "fef07bccd2b4bbc6d0eec32c2504eea23126818a83734c171e6b442610066935", func := "adit/aditlaw15.WindowOnce", spec := "windowOnce", apart := false, narrowed := true }
def WindowOnceUptoSaid : Prop := windowOnceUptoRow.holds Try.pinned (OpenSpec.upto windowOnceSpec)

/-- 'aditlaw15.WindowTakes', WHERE WHAT IT READS IS OF BULK AT MOST 1048576: true; the input reads as it did. -/
def windowTakesUptoRow : OpenClaim := { program := "ytijmbjnmfkiklaa", sum := "fef07bccd2b4bbc6d0eec32c2504eea23126818a83734c171e6b442610066935", func := "adit/aditlaw15.WindowTakes", spec := "windowTakes", apart := false, narrowed := true }
def WindowTakesUptoSaid : Prop := windowTakesUptoRow.holds Try.pinned (OpenSpec.upto windowTakesSpec)

/-- 'aditlaw15.WindowRefuses', WHERE WHAT IT READS IS OF BULK AT MOST 1048576: true; the input reads as it did. -/
def windowRefusesUptoRow : OpenClaim := { program := "ytijmbjnmfkiklaa", sum := "fef07bccd2b4bbc6d0eec32c2504eea23126818a83734c171e6b442610066935", func := "adit/aditlaw15.WindowRefuses", spec := "windowRefuses", apart := false, narrowed := true }
def WindowRefusesUptoSaid : Prop := windowRefusesUptoRow.holds Try.pinned (OpenSpec.upto windowRefusesSpec)

/-- 'aditlaw15.WindowOrder', WHERE WHAT IT READS IS OF BULK AT MOST 1048576: true; the input reads as it did. -/
def windowOrderUptoRow : OpenClaim := { program := "ytijmbjnmfkiklaa", sum := "fef07bccd2b4bbc6d0eec32c2504eea23126818a83734c171e6b442610066935", func := "adit/aditlaw15.WindowOrder", spec := "windowOrder", apart := false, narrowed := true }
def WindowOrderUptoSaid : Prop := windowOrderUptoRow.holds Try.pinned (OpenSpec.upto windowOrderSpec)

/-- 'aditlaw16.GaugeOrders', WHERE WHAT IT READS IS OF BULK AT MOST 1048576: true; the input reads as it did. -/
def gaugeOrdersUptoRow : OpenClaim := { program := "ytijmbjnmfkiklaa", sum := "fef07bccd2b4bbc6d0eec32c2504eea23126818a83734c171e6b442610066935", func := "adit/aditlaw16.GaugeOrders", spec := "gaugeOrders", inPlace := ["math.Float64bits", "math.Float64frombits"], apart := false, narrowed := true }
def GaugeOrdersUptoSaid : Prop := gaugeOrdersUptoRow.holds Try.pinned (OpenSpec.upto gaugeOrdersSpec)

/-- 'aditlaw16.GaugeRates', WHERE WHAT IT READS IS OF BULK AT MOST 1048576: true; the input reads as it did. -/
def gaugeRatesUptoRow : OpenClaim := { program := "ytijmbjnmfkiklaa", sum := "fef07bccd2b4bbc6d0eec32c2504eea23126818a83734c171e6b442610066935", func := "adit/aditlaw16.GaugeRates", spec := "gaugeRates", inPlace := ["math.Float64frombits", "math.Float64bits"], apart := false, narrowed := true }
def GaugeRatesUptoSaid : Prop := gaugeRatesUptoRow.holds Try.pinned (OpenSpec.upto gaugeRatesSpec)

/-- 'aditlaw16.GaugeNotes', WHERE WHAT IT READS IS OF BULK AT MOST 1048576: true; the input reads as it did. -/
def gaugeNotesUptoRow : OpenClaim := { program := "ytijmbjnmfkiklaa", sum := "fef07bccd2b4bbc6d0eec32c2504eea23126818a83734c171e6b442610066935", func := "adit/aditlaw16.GaugeNotes", spec := "gaugeNotes", inPlace := ["math.Float64bits", "math.Float64frombits"], apart := false, narrowed := true }
def GaugeNotesUptoSaid : Prop := gaugeNotesUptoRow.holds Try.pinned (OpenSpec.upto gaugeNotesSpec)

/-- 'aditlaw16.GaugeSorts', WHERE WHAT IT READS IS OF BULK AT MOST 1048576: true; the input reads as it did. -/
def gaugeSortsUptoRow : OpenClaim := { program := "ytijmbjnmfkiklaa", sum := "fef07bccd2b4bbc6d0eec32c2504eea23126818a83734c171e6b442610066935", func := "adit/aditlaw16.GaugeSorts", spec := "gaugeSorts", inPlace := ["math.Float64bits", "math.Float64frombits", "internal/reflectlite.ValueOf", "internal/reflectlite.Swapper", "(internal/reflectlite.Value).Len"], unfollowed := true, recurses := true, apart := false, narrowed := true }
def GaugeSortsUptoSaid : Prop := gaugeSortsUptoRow.holds Try.pinned (OpenSpec.upto gaugeSortsSpec)

/-- 'aditlaw16.GaugeTotal', WHERE WHAT IT READS IS OF BULK AT MOST 1048576: true; the input reads as it did. -/
def gaugeTotalUptoRow : OpenClaim := { program := "ytijmbjnmfkiklaa", sum := "fef07bccd2b4bbc6d0eec32c2504eea23126818a83734c171e6b442610066935", func := "adit/aditlaw16.GaugeTotal", spec := "gaugeTotal", inPlace := ["math.Float64bits", "math.Float64frombits"], apart := false, narrowed := true }
def GaugeTotalUptoSaid : Prop := gaugeTotalUptoRow.holds Try.pinned (OpenSpec.upto gaugeTotalSpec)

/-- 'aditlaw16.GaugeEnds', WHERE WHAT IT READS IS OF BULK AT MOST 1048576: true; the input reads as it did. -/
def gaugeEndsUptoRow : OpenClaim := { program := "ytijmbjnmfkiklaa", sum := "fef07bccd2b4bbc6d0eec32c2504eea23126818a83734c171e6b442610066935", func := "adit/aditlaw16.GaugeEnds", spec := "gaugeEnds", inPlace := ["math.Float64bits", "math.Float64frombits"], apart := false, narrowed := true }
def GaugeEndsUptoSaid : Prop := gaugeEndsUptoRow.holds Try.pinned (OpenSpec.upto gaugeEndsSpec)

/-- 'aditlaw16.GaugePicks', WHERE WHAT IT READS IS OF BULK AT MOST 1048576: true; the input reads as it did. -/
def gaugePicksUptoRow : OpenClaim := { program := "ytijmbjnmfkiklaa", sum := "fef07bccd2b4bbc6d0eec32c2504eea23126818a83734c171e6b442610066935", func := "adit/aditlaw16.GaugePicks", spec := "gaugePicks", inPlace := ["math.Float64frombits", "math.Float64bits"], apart := false, narrowed := true }
def GaugePicksUptoSaid : Prop := gaugePicksUptoRow.holds Try.pinned (OpenSpec.upto gaugePicksSpec)

/-- 'aditlaw16.GaugeMiddle', WHERE WHAT IT READS IS OF BULK AT MOST 1048576: true; the input reads as it did. -/
def gaugeMiddleUptoRow : OpenClaim := { program := "ytijmbjnmfkiklaa", sum := "fef07bccd2b4bbc6d0eec32c2504eea23126818a83734c171e6b442610066935", func := "adit/aditlaw16.GaugeMiddle", spec := "gaugeMiddle", inPlace := ["math.Float64bits", "math.Float64frombits", "internal/reflectlite.ValueOf", "internal/reflectlite.Swapper", "(internal/reflectlite.Value).Len"], unfollowed := true, recurses := true, apart := false, narrowed := true }
def GaugeMiddleUptoSaid : Prop := gaugeMiddleUptoRow.holds Try.pinned (OpenSpec.upto gaugeMiddleSpec)

end Rows
end Go.Proofs.Ytijmbjnmfkiklaa
