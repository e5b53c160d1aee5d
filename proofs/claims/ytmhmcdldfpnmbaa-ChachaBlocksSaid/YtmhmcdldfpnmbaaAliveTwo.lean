/- 'alive' of the statements of layer 2: the fixed calls come out as they must, and nothing that was there is written. -/
import Derived.Test.YtmhmcdldfpnmbaaXor
import Derived.Deep.Cut
namespace Go.Proofs.Ytmhmcdldfpnmbaa
namespace Chacha
open Go.ChangeShapes Go.WideShapes Go.ChangeAt Go.RowKit
open Num Mem Words State Quiet

theorem cut_call {P : Program} {f : FuncId} {args : Array Value} {Q : Ending → World → Prop} {w : World} (R : World → Prop) (hR : R w) (h : ∀ w', R w' → Calls P f args w' Q) : Calls P f args w Q := h w hR
theorem whole_kept {w w' : World} {g : Nat} {t : TypeId} {cs : Array Value} (h : Whole w g t cs) (hb : Below w.heap.size w w') : Whole w' g t cs := h.below hb h.lt

def noughts : Nat → Nat := fun _ => 0
theorem noughts_lt (i : Nat) : noughts i < 256 := by unfold noughts; omega
theorem nought_block : blk noughts noughts 0 0 = 118 ∧ blk noughts noughts 0 1 = 184 ∧ blk noughts noughts 0 2 = 224 ∧ blk noughts noughts 0 3 = 173 := by decide +kernel

set_option maxRecDepth 100000 in
theorem alive_any (w : World) : Calls Try.prog 34 #[] w fun e w' => e = .returned (.bool true) ∧ Below w.heap.size w w' := by
  have b1 := block_any noughts noughts noughts_lt noughts_lt 0 (by omega)
  rw [byteCells_lit32, byteCells_lit12] at b1
  have HB := Lib.hid b1
  have b2 := fun A n c h => xor_over noughts noughts 4294967295 (by omega) A n c h
  rw [byteCells_lit32, byteCells_lit12] at b2
  have HX := Lib.hid b2
  clear b1 b2
  have HM := Lib.hid (show ∀ W, Sem.run Try.prog (Instr.makeSlice 22 (.int .i64 65) (.int .i64 65)) W = _ from fun W => made_bytes 65 (by omega) W)
  go_enter Try.func34, Try.ntmps34
  go_wp2_with fail
  refine (HB.out _).mono ?_
  rintro e w1 ⟨rfl, hb1⟩
  have HB1 := Lib.hid hb1
  clear hb1
  have HZ64 := Lib.hid (show (byteCells (blk noughts noughts 0) 64).toArray.size = 64 by rw [List.size_toArray, byteCells_length])
  go_wp2_with (refine wpList_store_row rfl 56 (.tmp 1) (.tmp 6) rfl w1.heap.size (byteCells (blk noughts noughts 0) 64).toArray rfl rfl 56 _ (Whole.new _ _ _) (by rw [HZ64.out]; kernel_rfl) (by rw [HZ64.out]; rfl) (bytes_one _ _) ?_)
  rw [HM.out]
  go_wp2_with fail
  refine (HX.out _ _ _ (by omega) (by omega) _).mono ?_
  rintro e w2 ⟨rfl, hb2⟩
  have h13 : Whole w2 w1.heap.size 56 (byteCells (blk noughts noughts 0) 64).toArray := whole_kept (Whole.alloc (setRow_heap _ _ _ _ _ _ (Whole.new _ _ _)) _) hb2
  have hbb : Below w.heap.size w w2 := below_trans (below_alloc (below_setRow (below_alloc HB1.out _) HB1.out.size _) _) hb2
  have c0 := h13.cell 0
  have c1 := h13.cell 1
  have c2 := h13.cell 2
  have c3 := h13.cell 3
  rw [List.getElem?_toArray, byteCells_get _ _ _ (by omega)] at c0 c1 c2 c3
  rw [nought_block.1] at c0
  rw [nought_block.2.1] at c1
  rw [nought_block.2.2.1] at c2
  rw [nought_block.2.2.2] at c3
  have HBB := Lib.hid hbb
  clear hbb h13 hb2 HB1
  generalize w1.heap.size = g at c0 c1 c2 c3 ⊢
  go_wp2_with fail
  go_ret
  exact ⟨rfl, HBB.out⟩

end Chacha
end Go.Proofs.Ytmhmcdldfpnmbaa
