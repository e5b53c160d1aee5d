/- alive of layer 13: what must come of fixed calls. -/
import Derived.Test.YtfbkppabgogdgaaWireWHello
import Derived.Test.YtfbkppabgogdgaaWireWData
import Derived.Test.YtfbkppabgogdgaaWireRHello
import Derived.Test.YtfbkppabgogdgaaWireRAnswer
namespace Go.Proofs.Ytfbkppabgogdgaa
namespace Wire
open Go.ChangeShapes Go.WideShapes Go.ChangeAt Go.RowKit
open Num Mem Words Ref Cuts Chacha Quiet

def nil0 (_ : Nat) : Nat := 0
def first258 (i : Nat) : Nat := out1 1 258 nil0 i
theorem alive_kind : kindE first258 148 = 0 ∧ kindV first258 148 = 1 := by decide +kernel
theorem alive_open : openE first258 148 2 = 60 := by decide +kernel
theorem alive_bytes : first258 0 = 1 ∧ first258 4 = 2 ∧ first258 5 = 1 := by decide +kernel
theorem data_zero : Try.prog.built 38 [] = some #[.int .u32 0, .int .u64 0, .slice none 0 0] := by kernel_rfl

set_option maxRecDepth 100000 in
set_option maxHeartbeats 4000000 in
theorem alive_any (w : World) : Calls Try.prog 13 #[] w fun e w' => e = .returned (.bool true) ∧ Below w.heap.size w w' := by
  have hf : ∀ i, first258 i < 256 := fun i => out1_lt (fun _ => by unfold nil0; omega) i
  have CW := Lib.hid (writeHello_any 258 nil0 (by omega) (fun _ => by unfold nil0; omega))
  have CK := Lib.hid (fun A c w h => kind_any A 148 c first258 hf (by omega) w h)
  have CR := Lib.hid (fun A c w h => readAnswer_no A 148 c first258 hf (by omega) (by rw [alive_open]; omega) w h)
  have CD := Lib.hid (writeData_no 0 0 none 0 0 (by decide))
  rw [alive_kind.1, alive_kind.2] at CK
  rw [alive_open] at CR
  obtain ⟨L, hL⟩ : ∃ L, (one 258 nil0 140).toArray = L := ⟨_, rfl⟩
  have HB0 := Lib.hid (show Try.prog.built 29 [(0, .int .u32 258)] = some L by rw [← hL]; exact hello_built 258)
  rw [hL] at CW
  obtain ⟨Z, hZ⟩ : ∃ Z, (two 0 0 (fun _ => 0) 80).toArray = Z := ⟨_, rfl⟩
  have HZE := Lib.hid hZ
  have HZS := Lib.hid (show Z.size = 82 by rw [← hZ, List.size_toArray, two_length])
  have HZ1 := Lib.hid (show Z.all (·.oneCell') = true by rw [← hZ]; exact two_one _ _ _ _)
  rw [hZ] at CR
  have hb3 := alive_bytes
  have HE : out1 1 258 nil0 = first258 := rfl
  rw [HE] at CW
  generalize first258 = f at CW CK CR hb3
  obtain ⟨f0, f4, f5⟩ := hb3
  have F0 := Lib.hid f0
  have F4 := Lib.hid f4
  have F5 := Lib.hid f5
  clear hf hL hZ HE f0 f4 f5
  go_enter Try.func13, Try.ntmps13
  go_upto_region 2 with (first
    | (refine wpList_built1 rfl 29 0 _ rfl _ rfl L HB0.out ?_)
    | (go_at_call 18; refine (CW.out _).mono ?_; rintro e w1 ⟨A, c, rfl, ho, hb⟩; have HO := Lib.hid ho.rd; have HB := Lib.hid hb; clear ho hb))
  obtain ⟨b, off, rfl, hbl, hbc⟩ : ∃ b off, A = some ⟨b, off, none⟩ ∧ b < w1.heap.size ∧ ∀ i, i < 148 → w1.cell? ⟨b, off + i, none⟩ = some (.int .u8 (f i : Nat)) := by
    rcases HO.out with h | h
    · cases h
    · exact h
  have HBC := Lib.hid hbc
  have HBL := Lib.hid hbl
  clear hbc hbl
  go_upto_region 4 with (first
    | (go_at_call 25; refine (CK.out _ c _ HO.out).mono ?_; rintro e w' ⟨rfl, rfl⟩)
    | (go_at_call 28; refine (CR.out _ c _ HO.out).mono ?_; rintro e w2 ⟨rfl, hb2⟩; have HB2 := Lib.hid hb2; clear hb2)
    | (refine wpList_store_row rfl 31 (.tmp 4) (.tmp 18) rfl w2.heap.size Z rfl rfl 31 _ (Whole.new _ _ _) (by rw [HZS.out]; kernel_rfl) (by rw [HZS.out]; rfl) HZ1.out ?_))
  refine cut_world (fun X => Below w.heap.size w X ∧ (∀ i, i < 148 → X.cell? ⟨b, off + i, none⟩ = some (.int .u8 (f i : Nat))) ∧ b < X.heap.size) ?_ ?_
  · have hnb : ∀ o, Below w'.heap.size w' ((w2.alloc o).setRow w2.heap.size Z) := fun o => below_setRow (below_alloc' HB2.out HB2.out.size o) HB2.out.size Z
    exact ⟨below_trans HB.out (hnb _), fun i hi => ((hnb _).cell (p := ⟨b, off + i, none⟩) HBL.out).trans (HBC.out i hi), Nat.lt_of_lt_of_le HBL.out (hnb _).size⟩
  clear HB HBC HBL HB2 HO CR CK
  rintro X ⟨xb, xc, xl⟩
  have XB := Lib.hid xb
  have XC := Lib.hid xc
  have XL := Lib.hid xl
  clear xb xc xl
  go_upto_region 5 with (first
    | (refine wpList_built0 rfl 38 rfl #[.int .u32 0, .int .u64 0, .slice none 0 0] data_zero ?_)
    | (go_at_call 14; refine (CD.out _).mono ?_; rintro e w3 ⟨rfl, hb3⟩; have HB3 := Lib.hid hb3; clear hb3))
  have c0 : w3.cell? ⟨b, off, none⟩ = some (.int .u8 1) := by
    have := (HB3.out.cell (p := ⟨b, off + 0, none⟩) XL.out).trans (XC.out 0 (by omega))
    rw [F0.out] at this
    exact this
  have c4 : w3.cell? ⟨b, off + 4, none⟩ = some (.int .u8 2) := by
    have := (HB3.out.cell (p := ⟨b, off + 4, none⟩) XL.out).trans (XC.out 4 (by omega))
    rw [F4.out] at this
    exact this
  have c5 : w3.cell? ⟨b, off + 5, none⟩ = some (.int .u8 1) := by
    have := (HB3.out.cell (p := ⟨b, off + 5, none⟩) XL.out).trans (XC.out 5 (by omega))
    rw [F5.out] at this
    exact this
  go_wp2_with fail
  go_ret
  exact ⟨rfl, below_trans XB.out HB3.out⟩

end Wire
end Go.Proofs.Ytfbkppabgogdgaa
