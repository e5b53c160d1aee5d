/- 'alive' of the statements of layer 9: the fixed calls come out as they must, and nothing that was there is written. -/
import Derived.Test.YthjmbfhakccomaaStampRef
import Derived.Stop.BytesEq
namespace Go.Proofs.Ythjmbfhakccomaa
namespace Stamp
open Go.ChangeShapes Go.WideShapes Go.ChangeAt Go.RowKit
open Num Mem Words Chacha Aead Ref

open Extern.Stop (cell)

theorem byteCells_cell (f : Nat → Nat) (hf : ∀ i, f i < 256) (n : Nat) : byteCells f n = ((List.range n).map fun i => UInt8.ofNat (f i)).map cell := by
  unfold byteCells
  rw [List.map_map]
  refine List.map_congr_left fun i _ => ?_
  have := hf i
  simp only [Function.comp_apply, cell]
  congr 1
  rw [UInt8.toNat_ofNat', Nat.mod_eq_of_lt this]
  rfl

/-- '==' of two arrays of bytes -/
theorem run_eql_arr {P : Program} (t e : TypeId) (n : Nat) (ht : P.underlying t = some (.array n e)) (he : P.underlying e = some (.int .u8)) (hsz : ∀ w, (sizeOf e).run P w = .ok 1 w)
    (f g : Nat → Nat) (hf : ∀ i, f i < 256) (hg : ∀ i, g i < 256) (r : Bool) (hr : r = true ↔ ∀ i, i < n → f i = g i) (w : World) :
    (Op.equalIn 10000 t (.agg (byteCells f n).toArray) (.agg (byteCells g n).toArray)).run P w = .ok r w := by
  rw [byteCells_cell f hf, byteCells_cell g hg, run_equalIn_bytes w 9998 t e n ht he hsz _ _ (by simp) (by simp)]
  congr 1
  rw [Bool.eq_iff_iff, hr, beq_iff_eq]
  constructor
  · intro h i hi
    have h3 := congrArg (fun l : List UInt8 => l[i]?) h
    simp only [List.getElem?_map, List.getElem?_range hi, Option.map_some, Option.some.injEq] at h3
    have h4 := congrArg UInt8.toNat h3
    simp only [UInt8.toNat_ofNat'] at h4
    have := hf i
    have := hg i
    omega
  · intro h
    exact List.map_congr_left fun i hi => by rw [h i (List.mem_range.1 hi)]

theorem size_u8 (w : World) : (sizeOf 5).run Try.prog w = .ok 1 w := by kernel_rfl

theorem wpList_load_row_if {P : Program} {ops : Array Oper} {rest : List Oper} {o : Oper} {a : Act} {w : World} {Q : Exit → Act → World → Prop} (hw : Region.wanted o (yielded ops a.tmps) = true) (ty : TypeId) (x : Operand) (ho : o.op = .load ty x)
    (g : Nat) (hx : a.eval x = .pointer (some ⟨g, 0, none⟩)) (t : TypeId) (cs : List Value) (d : TypeDesc) (hg : Whole w g t cs.toArray)
    (hu : P.underlying ty = some d) (hd : d.isRow = true) (hi : (P.info? ty).map (·.size) = some cs.length)
    (h : wpList P ops Q rest (a.put o.dst (.agg cs.toArray)) w) : wpList P ops Q (o :: rest) a w :=
  wpList_step fun _ hK => by
    rw [if_pos hw]
    exact wp_load_mid ty x ho g 0 hx cs d (Poly.whole_range hg) hu hd hi (hK _ _ h)
/-- the label of 1500 as a literal, and a row of which the first byte alone is not 0 -/
def lit (i : Nat) : Nat := [64, 0, 0, 0, 0, 0, 0, 11, 29, 205, 101, 0].getD i 0
def one64 (i : Nat) : Nat := if i = 0 then 64 else 0
theorem one64_lt (i : Nat) : one64 i < 256 := by unfold one64; split <;> omega
theorem lit_lt : ∀ i, lit i < 256 := fun i => by
  by_cases h : i < 12
  · exact (show ∀ i, i < 12 → lit i < 256 by decide +kernel) i h
  · unfold lit
    rw [List.getD, List.getElem?_eq_none (by simpa using h)]
    decide
theorem lit_cells : (byteCells lit 12).toArray = (#[.int .u8 64, .int .u8 0, .int .u8 0, .int .u8 0, .int .u8 0, .int .u8 0, .int .u8 0, .int .u8 11, .int .u8 29, .int .u8 205, .int .u8 101, .int .u8 0] : Array Value) := by kernel_rfl
theorem one_cells : (byteCells one64 12).toArray = (#[.int .u8 64, .int .u8 0, .int .u8 0, .int .u8 0, .int .u8 0, .int .u8 0, .int .u8 0, .int .u8 0, .int .u8 0, .int .u8 0, .int .u8 0, .int .u8 0] : Array Value) := by kernel_rfl
theorem lit_is : ∀ i, i < 12 → label 1500 i = lit i := by decide +kernel

set_option maxRecDepth 100000 in
theorem alive_any (w : World) : Calls Try.prog 15 #[] w fun e w' => e = .returned (.bool true) ∧ Below w.heap.size w w' := by
  have HZ12 := Lib.hid (show ∀ f, (byteCells f 12).toArray.size = 12 from fun f => by rw [List.size_toArray, byteCells_length])
  obtain ⟨F, hF⟩ : ∃ F, label 1500 = F := ⟨_, rfl⟩
  have E1 := Lib.hid (show ∀ w, (Op.equalIn 10000 22 (.agg (byteCells F 12).toArray) (.agg (byteCells lit 12).toArray)).run Try.prog w = .ok true w from fun w =>
    run_eql_arr (P := Try.prog) 22 5 12 Try.underlying22 Try.underlying5 size_u8 _ _ (by rw [← hF]; exact label_lt _) lit_lt true (by rw [← hF]; exact ⟨fun _ => lit_is, fun _ => rfl⟩) w)
  have HW := Lib.hid (fun w => write_ok 1500 (by omega) w)
  rw [hF] at HW
  have HR := Lib.hid (fun w => read_any (fun _ => 0) (fun _ => by omega) w)
  rw [show readV (fun _ => 0) = 0 from by decide +kernel, show readE (fun _ => 0) = 3 from by decide +kernel] at HR
  have HA := Lib.hid (fun w => after_any F one64 (by rw [← hF]; exact label_lt _) one64_lt w)
  rw [show decide (whole one64 < whole F) = true from by rw [← hF]; decide +kernel] at HA
  have HB := Lib.hid (fun w => after_any F F (by rw [← hF]; exact label_lt _) (by rw [← hF]; exact label_lt _) w)
  rw [show decide (whole F < whole F) = false from decide_eq_false (Nat.lt_irrefl _)] at HB
  clear hF
  go_enter Try.func15, Try.ntmps15
  go_wp2_with fail
  refine (HW.out _).mono ?_
  rintro e w1 ⟨rfl, hb1⟩
  have L1 := Lib.hid hb1
  have hs1 := hb1.size
  clear hb1
  go_upto_region 2 with (refine wpList_store_row rfl 22 (.tmp 1) (.tmp 7) rfl w1.heap.size (byteCells F 12).toArray rfl rfl 22 _ (Whole.new _ _ _) (by rw [HZ12.out]; kernel_rfl) (by rw [HZ12.out]; rfl) (bytes_one _ _) ?_)
  try simp only [Act.put]
  refine cut_world (fun W => Whole W w1.heap.size 22 (byteCells F 12).toArray ∧ Below w.heap.size w W) ⟨setRow_heap _ _ _ _ _ _ (Whole.new _ _ _), below_setRow (below_alloc L1.out _) (by omega) _⟩ ?_
  rintro W2 ⟨k1, kb⟩
  have K1 := Lib.hid k1
  have KB := Lib.hid kb
  clear k1 kb L1
  generalize w1.heap.size = G at K1 ⊢
  go_wp2_with fail
  refine (HR.out _).mono ?_
  rintro e w3 ⟨rfl, hb3⟩
  have K3 := Lib.hid (K1.out.below hb3 K1.out.lt)
  have KB3 := Lib.hid (below_trans KB.out hb3)
  clear hb3 K1 KB
  go_upto_region 3 with fail
  apply wp_region_lit
  refine wpList_load_row rfl 22 (.tmp 1) rfl G rfl 22 (byteCells F 12).toArray (0, 0) _ K3.out rfl rfl (by rw [HZ12.out]; kernel_rfl) ?_
  try simp only [Act.put, List.setIfInBounds_toArray, List.set_cons_zero, List.set_cons_succ]
  iterate 3 go_step
  rw [← lit_cells]
  generalize lit = LT at E1 ⊢
  go_wp2_with (first | (refine wpList_load_row_if (by rfl) 22 (.tmp 1) rfl G rfl 22 (byteCells F 12) _ K3.out rfl rfl (by rw [byteCells_length]; kernel_rfl) ?_) | (simp only [E1.out, Result.andThen_ok]))
  rw [one_cells] at HA
  refine (HA.out _).mono ?_
  rintro e w4 ⟨rfl, hb4⟩
  have K4 := Lib.hid (K3.out.below hb4 K3.out.lt)
  have KB4 := Lib.hid (below_trans KB3.out hb4)
  clear hb4 K3 KB3 HA
  go_wp2_with (refine wpList_load_row_if (by rfl) 22 (.tmp 1) rfl G rfl 22 (byteCells F 12) _ K4.out rfl rfl (by rw [byteCells_length]; kernel_rfl) ?_)
  refine (HB.out _).mono ?_
  rintro e w5 ⟨rfl, hb5⟩
  have KB5 := Lib.hid (below_trans KB4.out hb5)
  clear hb5 K4 KB4
  go_wp2_with fail
  go_ret
  exact ⟨rfl, KB5.out⟩

end Stamp
end Go.Proofs.Ythjmbfhakccomaa
