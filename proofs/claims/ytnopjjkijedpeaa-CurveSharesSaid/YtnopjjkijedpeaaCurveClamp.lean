/- The call Clamp of package curve. -/
import Derived.Test.YtnopjjkijedpeaaPair
namespace Go.Proofs.Ytnopjjkijedpeaa
namespace Curve
open Go.ChangeShapes Go.WideShapes Go.ChangeAt Go.RowKit
open Num Mem Words Radix FieldN Chacha Quiet Go.Proofs.Ytnopjjkijedpeaa.Field Edwards

/-- a secret's number, as bytes -/
def clF (f : Nat → Nat) (i : Nat) : Nat := if i = 31 then f 31 % 64 + 64 else if i = 0 then f 0 - f 0 % 8 else f i
theorem clF_lt {f : Nat → Nat} (hf : ∀ i, f i < 256) (i : Nat) : clF f i < 256 := by
  have := hf 0
  have := hf i
  unfold clF
  split
  · omega
  · split <;> omega
theorem and248 (x : Nat) (h : x < 256) : bits .and .u8 (x : Int) 248 = ((x - x % 8 : Nat) : Int) := by
  have e : ∀ y : Fin 256, bits .and .u8 ((y.val : Nat) : Int) 248 = ((y.val - y.val % 8 : Nat) : Int) := by decide +kernel
  exact e ⟨x, h⟩
theorem and127 (x : Nat) (h : x < 256) : bits .or .u8 (bits .and .u8 (x : Int) 127) 64 = ((x % 64 + 64 : Nat) : Int) := by
  have e : ∀ y : Fin 256, bits .or .u8 (bits .and .u8 ((y.val : Nat) : Int) 127) 64 = ((y.val % 64 + 64 : Nat) : Int) := by decide +kernel
  exact e ⟨x, h⟩

set_option maxRecDepth 100000 in
theorem clamp_any (f : Nat → Nat) (hf : ∀ i, f i < 256) : Gives 29 #[B32 f] (B32 (clF f)) := fun w => by
  have HA := Lib.hid (and248 (f 0) (hf 0))
  have HO := Lib.hid (and127 (f 31) (hf 31))
  have HZ := Lib.hid (show ∀ f, (byteCells f 32).toArray.size = 32 from fun f => by rw [List.size_toArray, byteCells_length])
  have HC := Lib.hid (show byteCells (fun i => if i = 31 then f 31 % 64 + 64 else if i = 0 then f 0 - f 0 % 8 else f i) 32 = byteCells (clF f) 32 from rfl)
  generalize f 0 - f 0 % 8 = u at HA HC
  generalize f 31 % 64 + 64 = v at HO HC
  generalize clF f = R at HC ⊢
  clear hf
  unfold B32
  go_enter Try.func29, Try.ntmps29
  go_upto_region 1 with fail
  refine cut_world (fun W => Whole W w.heap.size 22 (byteCells f 32).toArray ∧ Whole W (w.heap.size + 1) 22 (byteCells (fun _ => 0) 32).toArray ∧ Below w.heap.size w W) ⟨?_, ?_, ?_⟩ ?_
  · exact (whole_new _ _ rfl).alloc _
  · rw [byteCells_lit32 fun _ => 0]
    exact whole_new _ _ (by simp)
  · exact below_alloc (below_alloc (Below.refl _ _) _) _
  rintro W ⟨k1, k2, kb⟩
  have f0 := k1.free 0
  have c0 := k1.bytes 0 (by omega)
  have f31 := k1.free 31
  have c31 := k1.bytes 31 (by omega)
  rw [Nat.zero_add] at c0 c31
  have h := (k1.put 0 (.int .u8 (u : Nat))).put 31 (.int .u8 (v : Nat))
  rw [byteCells_set, byteCells_set, HC.out] at h
  have K1 := Lib.hid h
  have K2 := Lib.hid k2
  have KB := Lib.hid kb
  clear k1 k2 kb h
  generalize hB : w.heap.size = B at K1 K2 KB f0 c0 f31 c31 ⊢
  go_upto_region 3 with fail
  rw [HA.out, HO.out]
  refine cut_world (fun X => Whole X B 22 (byteCells R 32).toArray ∧ Whole X (B + 1) 22 (byteCells (fun _ => 0) 32).toArray ∧ Below B w X) ⟨K1.out, (K2.out.far (by simp) _).far (by simp) _, (KB.out.setCell (by simp) _).setCell (by simp) _⟩ ?_
  clear K1 K2 KB f0 c0 f31 c31
  rintro X ⟨k1, k2, kb⟩
  go_wp2_with (first | (refine wpList_load_row rfl 22 (.tmp 1) rfl B rfl 22 (byteCells R 32).toArray (0, 0) _ k1 rfl rfl (by rw [HZ.out]; kernel_rfl) ?_) | (refine wpList_store_row rfl 22 (.tmp 2) (.tmp 12) rfl (B + 1) (byteCells R 32).toArray rfl rfl 22 _ k2 (by rw [HZ.out]; kernel_rfl) (by rw [HZ.out, HZ.out]) (bytes_one _ _) ?_))
  have hret : Whole (X.setRow (B + 1) (byteCells R 32).toArray) (B + 1) 22 (byteCells R 32).toArray := setRow_heap _ _ _ _ _ _ k2
  refine bodyPost_ret (results_cell_row rfl _ _ (B + 1) 22 _ (0, 0) _ rfl hret rfl rfl (by rw [HZ.out]; kernel_rfl)) rfl ?_
  exact ⟨rfl, by rw [hB]; exact below_setRow kb (by omega) _⟩

end Curve
end Go.Proofs.Ytnopjjkijedpeaa
