/- 'alive' of the statements of layer 10: the fixed calls come out as they must, and nothing that was there is written. -/
import Derived.Test.YtdcpbojknondcaaDoorTextKey
import Derived.Test.YtdcpbojknondcaaDoorTextNum
import Derived.Test.YtdcpbojknondcaaDoorTextWords
namespace Go.Proofs.YtdcpbojknondcaaDoor
namespace Text
open Go.ChangeShapes Go.WideShapes Go.ChangeAt Go.RowKit
open Num Mem Words Chacha Aead

def k2 : Nat → Nat := fun i => if i = 2 then 1 else 0
theorem k2_lt (i : Nat) : k2 i < 256 := by unfold k2; split <;> omega
theorem key_built : Tryd.prog.built 31 [(0, .int .u8 0), (1, .int .u8 0), (2, .int .u8 1)] = some (byteCells k2 32).toArray := by kernel_rfl
theorem wpList_built3 {P : Program} {ops : Array Oper} {rest : List Oper} {o : Oper} {a : Act} {w : World} {Q : Exit → Act → World → Prop} (hg : o.guard = none) (t : TypeId) (k1 k2 k3 : Nat) (x1 x2 x3 : Operand) (ho : o.op = .build t #[(k1, x1), (k2, x2), (k3, x3)])
    (v1 v2 v3 : Value) (h1 : a.eval x1 = v1) (h2 : a.eval x2 = v2) (h3 : a.eval x3 = v3) (vs : Array Value) (hb : P.built t [(k1, v1), (k2, v2), (k3, v3)] = some vs) (h : wpList P ops Q rest (a.put o.dst (.agg vs)) w) : wpList P ops Q (o :: rest) a w := by
  have e : P.built t ((#[(k1, x1), (k2, x2), (k3, x3)] : Array (Nat × Operand)).map fun (i, x) => (i, a.eval x)).toList = some vs := by simpa [h1, h2, h3] using hb
  refine wpList_build hg t #[(k1, x1), (k2, x2), (k3, x3)] ho (by rw [e]; rfl) ?_
  rw [e]
  exact h
def sText : ByteArray := { data := #[32, 32, 97, 32, 98, 32] }
def sZero : ByteArray := { data := #[48, 49] }
def sName : ByteArray := { data := #[97, 45, 49] }
def sNot : ByteArray := { data := #[45, 97] }
theorem alive_key : (strOf (kwB k2) 44).extract 0 5 = { data := #[65, 65, 65, 66, 65] } := by decide +kernel
theorem alive_words : (wordsL sText).length = 2 := by decide +kernel
theorem alive_num : rnE sZero 9 = 3 := by decide +kernel
theorem alive_name : isName sName = true := by decide +kernel
theorem alive_not : isName sNot = false := by decide +kernel
theorem alive_seen : seenTo sText sText.size = true := by decide +kernel

set_option maxRecDepth 100000 in
set_option maxHeartbeats 4000000 in
theorem alive_any (w : World) : Calls Tryd.prog 6 #[] w fun e w' => e = .returned (.bool true) ∧ Below w.heap.size w w' := by
  have HB := Lib.hid key_built
  have CK := Lib.hid (key_any k2 k2_lt)
  have CR := Lib.hid (show ∀ w, Calls Tryd.prog 7 #[.string { data := #[48, 49] }, .int .u64 9] w fun e w' => e = .returned (.tuple #[.int .u64 (rnV sZero 9 : Nat), .int .i64 3]) ∧ w' = w from fun w => by
    have h := readNumber_any sZero (by decide) 9 (by decide) w
    rw [alive_num] at h
    exact h)
  have CW := Lib.hid (fun w => words_ok sText (by decide) alive_seen w)
  have CN := Lib.hid (fun w => isName_any sName (by decide) w)
  have CM := Lib.hid (fun w => isName_any sNot (by decide) w)
  rw [alive_name] at CN
  rw [alive_not] at CM
  obtain ⟨L, hL⟩ : ∃ L, (byteCells k2 32).toArray = L := ⟨_, rfl⟩
  rw [hL] at HB CK
  obtain ⟨S, hS⟩ : ∃ S, strOf (kwB k2) 44 = S := ⟨_, rfl⟩
  rw [hS] at CK
  have hSS : S.size = 44 := by rw [← hS, strOf_size]
  have hS5 : S.extract 0 5 = { data := #[65, 65, 65, 66, 65] } := by rw [← hS]; exact alive_key
  clear hS hL
  go_enter Tryd.func6, Tryd.ntmps6
  go_wp2_with (refine wpList_built3 rfl 31 0 1 2 _ _ _ rfl _ _ _ rfl rfl rfl L HB.out ?_)
  refine (CK.out _).mono ?_
  rintro e w1 ⟨rfl, hb1⟩
  have HB1 := Lib.hid hb1
  clear hb1
  go_wp2_with fail
  refine (CR.out _).mono ?_
  rintro e w' ⟨rfl, rfl⟩
  go_wp2_with fail
  refine (CW.out _).mono ?_
  rintro e w2 ⟨v, rfl, ⟨a, cap, rfl, _, _, _⟩, hb2⟩
  rw [alive_words]
  have HB2 := Lib.hid (below_trans HB1.out hb2)
  clear hb2 HB1
  go_wp2_with fail
  refine (CN.out _).mono ?_
  rintro e w' ⟨rfl, rfl⟩
  go_wp2_with fail
  refine (CM.out _).mono ?_
  rintro e w' ⟨rfl, rfl⟩
  go_wp2_with fail
  go_ret
  exact ⟨rfl, HB2.out⟩

end Text
end Go.Proofs.YtdcpbojknondcaaDoor
