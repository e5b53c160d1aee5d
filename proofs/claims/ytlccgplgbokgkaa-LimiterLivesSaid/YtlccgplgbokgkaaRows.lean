/-
  No cell of these rows narrows 'for every input' (looked for: loops, veiled, ifaces, maps, wideKeys, modest, calm, conditions, laid).
  DERIVED. THE GIVEN ROWS OF THIS SEAT. 6 by the template 'for every input the law returns true; each argument reads behind the call as it read before'; 0 by the template 'total and deterministic' (their statements: YtlccgplgbokgkaaTotals.lean).
  GIVEN WITH THE SEED: the statements are not yours to turn. If you find one false, say at which input.
  Laid BY PROGRAM, IN A SANDBOX (cutbox-rows.mjs): the forced cells as the released guide's own fill.sh prints them over the translation ca16d01be2c906cc… (all of the seat's roots in one cut). By AI agents, Wed Nov 11 2026. No macro, syntax, notation, axiom, sorry.
-/
import Derived.Test.YtlccgplgbokgkaaChecked
import GoSem.Claim
import GoSem.ClaimJoined
import GoSem.ClaimMapViews
import Derived.JoinedTies
import Derived.KernelRfl
namespace Go.Proofs.Ytlccgplgbokgkaa
/- THE CELL 'sum', in the pinned program and in every row, IS THE sha256 OF THE DUMP (.gsa) THAT YtlccgplgbokgkaaProg.lean LOADS. Nothing in Lean hashes anything: it is a label: what it is worth is what the hold of that sum in a sandbox is worth. -/
noncomputable def Try.pinned : Pinned := { name := "ytlccgplgbokgkaa", sum := "ca16d01be2c906ccdf0596392af56b18fb9438b717c380e5903a40c73deb1912", checked := Try.checked }
namespace Rows
def none {H : Type} : Left H := { results := [], args := [] }

/-- 'aditlaw17.LimiterLives': WHATEVER THE INPUT: true; the input reads as it did. -/
def limiterLivesSpec : ChangeSpec := { name := "limiterLives", fn := fun _ => fun
  | [d1, d2, d3] => { results := [.lit (.bool true)], args := [d1, d2, d3] }
  | _ => none }
def limiterLivesRow : OpenClaim := { program := "ytlccgplgbokgkaa", sum := "ca16d01be2c906ccdf0596392af56b18fb9438b717c380e5903a40c73deb1912", func := "adit/aditlaw17.LimiterLives", spec := "limiterLives", plainKeys := false, apart := false }
def LimiterLivesSaid : Prop := limiterLivesRow.holds Try.pinned (OpenSpec.ofChange limiterLivesSpec)

/-- ITS FALSE NEIGHBOUR: 'it returns false'. Refute it at one input. -/
def limiterLivesWrong : ChangeSpec := { name := "limiterLives", fn := fun _ => fun
  | [d1, d2, d3] => { results := [.lit (.bool false)], args := [d1, d2, d3] }
  | _ => none }
def LimiterLivesWrongFalsely : Prop := limiterLivesRow.holds Try.pinned (OpenSpec.ofChange limiterLivesWrong)

/-- 'aditlaw17.LimiterNobody': WHATEVER THE INPUT: true; the input reads as it did. -/
def limiterNobodySpec : ChangeSpec := { name := "limiterNobody", fn := fun _ => fun
  | [d] => { results := [.lit (.bool true)], args := [d] }
  | _ => none }
def limiterNobodyRow : OpenClaim := { program := "ytlccgplgbokgkaa", sum := "ca16d01be2c906ccdf0596392af56b18fb9438b717c380e5903a40c73deb1912", func := "adit/aditlaw17.LimiterNobody", spec := "limiterNobody", plainKeys := false, apart := false }
def LimiterNobodySaid : Prop := limiterNobodyRow.holds Try.pinned (OpenSpec.ofChange limiterNobodySpec)

/-- ITS FALSE NEIGHBOUR: 'it returns false'. Refute it at one input. -/
def limiterNobodyWrong : ChangeSpec := { name := "limiterNobody", fn := fun _ => fun
  | [d] => { results := [.lit (.bool false)], args := [d] }
  | _ => none }
def LimiterNobodyWrongFalsely : Prop := limiterNobodyRow.holds Try.pinned (OpenSpec.ofChange limiterNobodyWrong)

/-- 'aditlaw17.LimiterRate': WHATEVER THE INPUT: true; the input reads as it did. -/
def limiterRateSpec : ChangeSpec := { name := "limiterRate", fn := fun _ => fun
  | [d] => { results := [.lit (.bool true)], args := [d] }
  | _ => none }
def limiterRateRow : OpenClaim := { program := "ytlccgplgbokgkaa", sum := "ca16d01be2c906ccdf0596392af56b18fb9438b717c380e5903a40c73deb1912", func := "adit/aditlaw17.LimiterRate", spec := "limiterRate", plainKeys := false, apart := false }
def LimiterRateSaid : Prop := limiterRateRow.holds Try.pinned (OpenSpec.ofChange limiterRateSpec)

/-- ITS FALSE NEIGHBOUR: 'it returns false'. Refute it at one input. -/
def limiterRateWrong : ChangeSpec := { name := "limiterRate", fn := fun _ => fun
  | [d] => { results := [.lit (.bool false)], args := [d] }
  | _ => none }
def LimiterRateWrongFalsely : Prop := limiterRateRow.holds Try.pinned (OpenSpec.ofChange limiterRateWrong)

/-- 'aditlaw17.LimiterApart': WHATEVER THE INPUT: true; the input reads as it did. -/
def limiterApartSpec : ChangeSpec := { name := "limiterApart", fn := fun _ => fun
  | [d1, d2] => { results := [.lit (.bool true)], args := [d1, d2] }
  | _ => none }
def limiterApartRow : OpenClaim := { program := "ytlccgplgbokgkaa", sum := "ca16d01be2c906ccdf0596392af56b18fb9438b717c380e5903a40c73deb1912", func := "adit/aditlaw17.LimiterApart", spec := "limiterApart", plainKeys := false, apart := false }
def LimiterApartSaid : Prop := limiterApartRow.holds Try.pinned (OpenSpec.ofChange limiterApartSpec)

/-- ITS FALSE NEIGHBOUR: 'it returns false'. Refute it at one input. -/
def limiterApartWrong : ChangeSpec := { name := "limiterApart", fn := fun _ => fun
  | [d1, d2] => { results := [.lit (.bool false)], args := [d1, d2] }
  | _ => none }
def LimiterApartWrongFalsely : Prop := limiterApartRow.holds Try.pinned (OpenSpec.ofChange limiterApartWrong)

/-- 'aditlaw17.LimiterWaits': WHATEVER THE INPUT: true; the input reads as it did. -/
def limiterWaitsSpec : ChangeSpec := { name := "limiterWaits", fn := fun _ => fun
  | [d1, d2] => { results := [.lit (.bool true)], args := [d1, d2] }
  | _ => none }
def limiterWaitsRow : OpenClaim := { program := "ytlccgplgbokgkaa", sum := "ca16d01be2c906ccdf0596392af56b18fb9438b717c380e5903a40c73deb1912", func := "adit/aditlaw17.LimiterWaits", spec := "limiterWaits", plainKeys := false, apart := false }
def LimiterWaitsSaid : Prop := limiterWaitsRow.holds Try.pinned (OpenSpec.ofChange limiterWaitsSpec)

/-- ITS FALSE NEIGHBOUR: 'it returns false'. Refute it at one input. -/
def limiterWaitsWrong : ChangeSpec := { name := "limiterWaits", fn := fun _ => fun
  | [d1, d2] => { results := [.lit (.bool false)], args := [d1, d2] }
  | _ => none }
def LimiterWaitsWrongFalsely : Prop := limiterWaitsRow.holds Try.pinned (OpenSpec.ofChange limiterWaitsWrong)

/-- 'aditlaw17.LimiterRoom': WHATEVER THE INPUT: true; the input reads as it did. -/
def limiterRoomSpec : ChangeSpec := { name := "limiterRoom", fn := fun _ => fun
  | [d1, d2] => { results := [.lit (.bool true)], args := [d1, d2] }
  | _ => none }
def limiterRoomRow : OpenClaim := { program := "ytlccgplgbokgkaa", sum := "ca16d01be2c906ccdf0596392af56b18fb9438b717c380e5903a40c73deb1912", func := "adit/aditlaw17.LimiterRoom", spec := "limiterRoom", plainKeys := false, apart := false }
def LimiterRoomSaid : Prop := limiterRoomRow.holds Try.pinned (OpenSpec.ofChange limiterRoomSpec)

/-- ITS FALSE NEIGHBOUR: 'it returns false'. Refute it at one input. -/
def limiterRoomWrong : ChangeSpec := { name := "limiterRoom", fn := fun _ => fun
  | [d1, d2] => { results := [.lit (.bool false)], args := [d1, d2] }
  | _ => none }
def LimiterRoomWrongFalsely : Prop := limiterRoomRow.holds Try.pinned (OpenSpec.ofChange limiterRoomWrong)

/- THE SECOND FORM. 'bulk': how many values and letters a reading holds, each counted each time it is reached (what is shared counts as often as it is met; a slice's spare places count too). A statement '..UptoSaid' is the law's where the arguments, and the package variables that the reading takes, are together of bulk at most 1048576: NARROWER than '..Said'. Prove '..Said' where nothing that the law and all that it calls make is longer than what came in: it says more and counts as full. Else prove '..UptoSaid'. A law counts once. -/
mutual
def uptoBulk {H : Type} : DataW H → Nat
  | .lit (.string bytes) => bytes.length + 1
  | .lit _ => 1
  | .nil => 1
  | .ptr d => uptoBulk d + 1
  | .slice elems spare => uptoBulkAll elems + uptoBulkAll spare + 1
  | .agg parts => uptoBulkAll parts + 1
  | .iface _ d => uptoBulk d + 1
  | .map entries => uptoBulkEntries entries + 1
  | .held _ => 1
def uptoBulkAll {H : Type} : List (DataW H) → Nat
  | [] => 0
  | d :: r => uptoBulk d + uptoBulkAll r
def uptoBulkEntries {H : Type} : List (Lit × DataW H) → Nat
  | [] => 0
  | x :: r => uptoBulkEntry x + uptoBulkEntries r
def uptoBulkEntry {H : Type} : Lit × DataW H → Nat
  | (.string bytes, d) => bytes.length + uptoBulk d + 1
  | (_, d) => uptoBulk d + 1
 end
def uptoSmall : (H : Type) → List (DataW H) → Bool := fun _ ds => decide (uptoBulkAll ds ≤ 1048576)
def OpenSpec.upto (s : _root_.Go.ChangeSpec) : _root_.Go.OpenSpec := { _root_.Go.OpenSpec.ofChange s with cond := some uptoSmall }

/-- 'aditlaw17.LimiterLives', WHERE WHAT IT READS IS OF BULK AT MOST 1048576: true; the input reads as it did. -/
def limiterLivesUptoRow : OpenClaim := { program := "ytlccgplgbokgkaa", sum := "ca16d01be2c906ccdf0596392af56b18fb9438b717c380e5903a40c73deb1912", func := "adit/aditlaw17.LimiterLives", spec := "limiterLives", plainKeys := false, apart := false, narrowed := true }
def LimiterLivesUptoSaid : Prop := limiterLivesUptoRow.holds Try.pinned (OpenSpec.upto limiterLivesSpec)

/-- 'aditlaw17.LimiterNobody', WHERE WHAT IT READS IS OF BULK AT MOST 1048576: true; the input reads as it did. -/
def limiterNobodyUptoRow : OpenClaim := { program := "ytlccgplgbokgkaa", sum := "ca16d01be2c906ccdf0596392af56b18fb9438b717c380e5903a40c73deb1912", func := "adit/aditlaw17.LimiterNobody", spec := "limiterNobody", plainKeys := false, apart := false, narrowed := true }
def LimiterNobodyUptoSaid : Prop := limiterNobodyUptoRow.holds Try.pinned (OpenSpec.upto limiterNobodySpec)

/-- 'aditlaw17.LimiterRate', WHERE WHAT IT READS IS OF BULK AT MOST 1048576: true; the input reads as it did. -/
def limiterRateUptoRow : OpenClaim := { program := "ytlccgplgbokgkaa", sum := "ca16d01be2c906ccdf0596392af56b18fb9438b717c380e5903a40c73deb1912", func := "adit/aditlaw17.LimiterRate", spec := "limiterRate", plainKeys := false, apart := false, narrowed := true }
def LimiterRateUptoSaid : Prop := limiterRateUptoRow.holds Try.pinned (OpenSpec.upto limiterRateSpec)

/-- 'aditlaw17.LimiterApart', WHERE WHAT IT READS IS OF BULK AT MOST 1048576: true; the input reads as it did. -/
def limiterApartUptoRow : OpenClaim := { program := "ytlccgplgbokgkaa", sum := "ca16d01be2c906ccdf0596392af56b18fb9438b717c380e5903a40c73deb1912", func := "adit/aditlaw17.LimiterApart", spec := "limiterApart", plainKeys := false, apart := false, narrowed := true }
def LimiterApartUptoSaid : Prop := limiterApartUptoRow.holds Try.pinned (OpenSpec.upto limiterApartSpec)

/-- 'aditlaw17.LimiterWaits', WHERE WHAT IT READS IS OF BULK AT MOST 1048576: true; the input reads as it did. -/
def limiterWaitsUptoRow : OpenClaim := { program := "ytlccgplgbokgkaa", sum := "ca16d01be2c906ccdf0596392af56b18fb9438b717c380e5903a40c73deb1912", func := "adit/aditlaw17.LimiterWaits", spec := "limiterWaits", plainKeys := false, apart := false, narrowed := true }
def LimiterWaitsUptoSaid : Prop := limiterWaitsUptoRow.holds Try.pinned (OpenSpec.upto limiterWaitsSpec)

/-- 'aditlaw17.LimiterRoom', WHERE WHAT IT READS IS OF BULK AT MOST 1048576: true; the input reads as it did. -/
def limiterRoomUptoRow : OpenClaim := { program := "ytlccgplgbokgkaa", sum := "ca16d01be2c906ccdf0596392af56b18fb9438b717c380e5903a40c73deb1912", func := "adit/aditlaw17.LimiterRoom", spec := "limiterRoom", plainKeys := false, apart := false, narrowed := true }
def LimiterRoomUptoSaid : Prop := limiterRoomUptoRow.holds Try.pinned (OpenSpec.upto limiterRoomSpec)

end Rows
end Go.Proofs.Ytlccgplgbokgkaa
