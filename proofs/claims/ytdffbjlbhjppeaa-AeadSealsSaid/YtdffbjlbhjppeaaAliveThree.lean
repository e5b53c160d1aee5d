/- 'alive' of the statements of layer 3: the fixed calls come out as they must, and nothing that was there is written; '==' on arrays of bytes. -/
import Derived.Test.YtdffbjlbhjppeaaPolyBoth
import Derived.Stop.BytesEq
namespace Go.Proofs.Ytdffbjlbhjppeaa
namespace Poly
open Go.ChangeShapes Go.WideShapes Go.ChangeAt Go.RowKit
open Num Mem Words PolyN Chacha Quiet
open Extern.Stop (cell)

theorem byteCells_cell (f : Nat → Nat) (hf : ∀ i, f i < 256) (n : Nat) : byteCells f n = ((List.range n).map fun i => UInt8.ofNat (f i)).map cell := by
  unfold byteCells
  rw [List.map_map]
  refine List.map_congr_left fun i _ => ?_
  have := hf i
  simp only [Function.comp_apply, cell]
  congr 1
  rw [UInt8.toNat_ofNat', Nat.mod_eq_of_lt this]
  rfl

/-- '==' of two arrays of bytes -/
theorem run_eql_arr {P : Program} (t e : TypeId) (n : Nat) (ht : P.underlying t = some (.array n e)) (he : P.underlying e = some (.int .u8)) (hsz : ∀ w, (sizeOf e).run P w = .ok 1 w)
    (f g : Nat → Nat) (hf : ∀ i, f i < 256) (hg : ∀ i, g i < 256) (r : Bool) (hr : r = true ↔ ∀ i, i < n → f i = g i) (w : World) :
    (Op.equalIn 10000 t (.agg (byteCells f n).toArray) (.agg (byteCells g n).toArray)).run P w = .ok r w := by
  rw [byteCells_cell f hf, byteCells_cell g hg, run_equalIn_bytes w 9998 t e n ht he hsz _ _ (by simp) (by simp)]
  congr 1
  rw [Bool.eq_iff_iff, hr, beq_iff_eq]
  constructor
  · intro h i hi
    have h3 := congrArg (fun l : List UInt8 => l[i]?) h
    simp only [List.getElem?_map, List.getElem?_range hi, Option.map_some, Option.some.injEq] at h3
    have h4 := congrArg UInt8.toNat h3
    simp only [UInt8.toNat_ofNat'] at h4
    have := hf i
    have := hg i
    omega
  · intro h
    exact List.map_congr_left fun i hi => by rw [h i (List.mem_range.1 hi)]

theorem size_u8 (w : World) : (sizeOf 5).run Try.prog w = .ok 1 w := by kernel_rfl

/-- a load behind a guard that is met -/
theorem wpList_load_row_if {P : Program} {ops : Array Oper} {rest : List Oper} {o : Oper} {a : Act} {w : World} {Q : Exit → Act → World → Prop} (hw : Region.wanted o (yielded ops a.tmps) = true) (ty : TypeId) (x : Operand) (ho : o.op = .load ty x)
    (g : Nat) (hx : a.eval x = .pointer (some ⟨g, 0, none⟩)) (t : TypeId) (cs : List Value) (d : TypeDesc) (hg : Whole w g t cs.toArray)
    (hu : P.underlying ty = some d) (hd : d.isRow = true) (hi : (P.info? ty).map (·.size) = some cs.length)
    (h : wpList P ops Q rest (a.put o.dst (.agg cs.toArray)) w) : wpList P ops Q (o :: rest) a w :=
  wpList_step fun _ hK => by
    rw [if_pos hw]
    exact wp_load_mid ty x ho g 0 hx cs d (whole_range hg) hu hd hi (hK _ _ h)

def oneKey : Nat → Nat := fun i => if i = 0 then 1 else 0
def lone97 : Nat → Nat := fun i => if i = 0 then 97 else 0
def mark97 : Nat → Nat := fun i => if i = 0 then 97 else if i = 1 then 1 else 0
theorem oneKey_lt (i : Nat) : oneKey i < 256 := by unfold oneKey; split <;> omega
theorem lone97_lt (i : Nat) : lone97 i < 256 := by unfold lone97; split <;> omega
theorem mark97_lt (i : Nat) : mark97 i < 256 := by unfold mark97; split <;> (try split) <;> omega

def onePart (g : Nat) : Parts := { A := fun _ => some ⟨g, 0, none⟩, n := fun _ => 1, c := fun _ => 1, f := fun _ => lone97 }

theorem onePart_in (w : World) : (onePart w.heap.size).In ((w.alloc (.cells #[.int .u8 97] 5)).alloc (.cells #[.slice (some ⟨w.heap.size, 0, none⟩) 1 1] 23)) (some ⟨w.heap.size + 1, 0, none⟩) 1 := by
  refine ⟨fun i _ => ⟨?_, Nat.le_refl 1, by show 1 ≤ 1000000; omega⟩, fun _ => lone97_lt, .inr ⟨w.heap.size + 1, 0, rfl, by simp, fun i hi => ?_⟩⟩
  · have h : Rd (w.alloc (.cells #[.int .u8 97] 5)) (some ⟨w.heap.size, 0, none⟩) 1 lone97 := Rd.of_new rfl rfl
    exact h.below (below_alloc (Below.refl _ _) _) (Nat.le_refl _)
  · obtain rfl : i = 0 := by omega
    have h : Whole ((w.alloc (.cells #[.int .u8 97] 5)).alloc (.cells #[.slice (some ⟨w.heap.size, 0, none⟩) 1 1] 23)) (w.heap.size + 1) 23 #[.slice (some ⟨w.heap.size, 0, none⟩) 1 1] := whole_new _ _ (by simp)
    exact h.cell 0

theorem sum97 : ∀ i, i < 16 → sumAt oneKey lone97 1 i = mark97 i := by decide +kernel
theorem both97 (g : Nat) : ∀ i, i < 16 → tag (macs (rk oneKey) (onePart g) 1) oneKey i = lone97 i := by
  have : ∀ i, i < 16 → tag (mac (rk oneKey) true 0 lone97 1) oneKey i = lone97 i := by decide +kernel
  exact this

set_option maxRecDepth 100000 in
theorem alive_any (w : World) : Calls Try.prog 14 #[] w fun e w' => e = .returned (.bool true) ∧ Below w.heap.size w w' := by
  have c1 := fun A c hc w hA => sum_any oneKey oneKey_lt A 1 c lone97 lone97_lt (by omega) hc w hA
  have c2 := fun g P c w hP => both_any oneKey oneKey_lt P 1 c (onePart g) (by omega) w hP
  rw [byteCells_lit32] at c1 c2
  have HS := Lib.hid c1
  have HB := Lib.hid c2
  have HZ16 := Lib.hid (show ∀ f, (byteCells f 16).toArray.size = 16 from fun f => by rw [List.size_toArray, byteCells_length])
  have E1 := Lib.hid (show ∀ w, (Op.equalIn 10000 25 (.agg (byteCells mark97 16).toArray) (.agg #[.int .u8 97, .int .u8 1, .int .u8 0, .int .u8 0, .int .u8 0, .int .u8 0, .int .u8 0, .int .u8 0, .int .u8 0, .int .u8 0, .int .u8 0, .int .u8 0, .int .u8 0, .int .u8 0, .int .u8 0, .int .u8 0])).run Try.prog w = .ok true w from fun w => by
    have := run_eql_arr (P := Try.prog) 25 5 16 Try.underlying25 Try.underlying5 size_u8 mark97 mark97 mark97_lt mark97_lt true (by simp) w
    rwa [byteCells_lit16] at this)
  have E2 := Lib.hid (show ∀ w, (Op.equalIn 10000 25 (.agg (byteCells lone97 16).toArray) (.agg #[.int .u8 97, .int .u8 0, .int .u8 0, .int .u8 0, .int .u8 0, .int .u8 0, .int .u8 0, .int .u8 0, .int .u8 0, .int .u8 0, .int .u8 0, .int .u8 0, .int .u8 0, .int .u8 0, .int .u8 0, .int .u8 0])).run Try.prog w = .ok true w from fun w => by
    have := run_eql_arr (P := Try.prog) 25 5 16 Try.underlying25 Try.underlying5 size_u8 lone97 lone97 lone97_lt lone97_lt true (by simp) w
    rwa [byteCells_lit16] at this)
  have X1 := Lib.hid (show byteCells (sumAt oneKey lone97 1) 16 = byteCells mark97 16 from byteCells_congr sum97)
  have X2 := Lib.hid (show ∀ g, byteCells (tag (macs (rk oneKey) (onePart g) 1) oneKey) 16 = byteCells lone97 16 from fun g => byteCells_congr (both97 g))
  clear c1 c2
  go_enter Try.func14, Try.ntmps14
  go_wp2_with fail
  refine (HS.out _ _ (Nat.le_refl 1) _ (Rd.of_new rfl rfl)).mono ?_
  rintro e w1 ⟨rfl, hb1⟩
  rw [X1.out]
  have KB := Lib.hid (below_new (Below.refl _ _) hb1)
  clear hb1
  go_upto_region 2 with (refine wpList_store_row rfl 25 (.tmp 1) (.tmp 5) rfl w1.heap.size (byteCells mark97 16).toArray rfl rfl 25 _ (Whole.new _ _ _) (by rw [HZ16.out]; kernel_rfl) (by rw [HZ16.out]; rfl) (bytes_one _ _) ?_)
  try simp only [Act.put]
  refine cut_world (fun W => Whole W w1.heap.size 25 (byteCells mark97 16).toArray ∧ w.heap.size ≤ w1.heap.size ∧ Below w.heap.size w W) ⟨setRow_heap _ _ _ _ _ _ (Whole.new _ _ _), KB.out.size, below_setRow (below_alloc KB.out _) KB.out.size _⟩ ?_
  rintro W2 ⟨k1, hg, kb⟩
  have K1 := Lib.hid k1
  have KB2 := Lib.hid kb
  have hl1 := k1.lt
  clear k1 kb KB
  generalize w1.heap.size = g at K1 hg hl1 ⊢
  go_wp2_with fail
  refine (HB.out W2.heap.size _ _ _ (onePart_in W2)).mono ?_
  rintro e w3 ⟨rfl, hb3⟩
  rw [X2.out]
  have L1 := Lib.hid (((K1.out.alloc _).alloc _).below hb3 (by simp; omega))
  have LB := Lib.hid (below_trans (below_alloc (below_alloc KB2.out _) _) hb3)
  have hl3 := L1.out.lt
  clear hb3 K1 KB2
  go_upto_region 3 with (refine wpList_store_row rfl 25 (.tmp 2) (.tmp 9) rfl w3.heap.size (byteCells lone97 16).toArray rfl rfl 25 _ (Whole.new _ _ _) (by rw [HZ16.out]; kernel_rfl) (by rw [HZ16.out]; rfl) (bytes_one _ _) ?_)
  try simp only [Act.put]
  refine cut_world (fun W => Whole W g 25 (byteCells mark97 16).toArray ∧ Whole W w3.heap.size 25 (byteCells lone97 16).toArray ∧ Below w.heap.size w W) ⟨?_, setRow_heap _ _ _ _ _ _ (Whole.new _ _ _), below_setRow (below_alloc LB.out _) LB.out.size _⟩ ?_
  · exact (setRow_other _ _ _ _ (by omega)).trans (L1.out.alloc _)
  rintro W4 ⟨k1, k2, kb⟩
  have M1 := Lib.hid k1
  have M2 := Lib.hid k2
  have MB := Lib.hid kb
  clear k1 k2 kb L1 LB
  generalize w3.heap.size = h at M2 ⊢
  go_wp2_with (first | simp only [E1.out, Result.andThen_ok] | simp only [E2.out, Result.andThen_ok] | (refine wpList_load_row rfl 25 (.tmp 1) rfl g rfl 25 (byteCells mark97 16).toArray (0, 0) _ M1.out rfl rfl (by rw [HZ16.out]; kernel_rfl) ?_) | (refine wpList_load_row_if (by rfl) 25 (.tmp 2) rfl h rfl 25 (byteCells lone97 16) _ M2.out rfl rfl (by rw [byteCells_length]; kernel_rfl) ?_))
  go_ret
  exact ⟨rfl, MB.out⟩

end Poly
end Go.Proofs.Ytdffbjlbhjppeaa
