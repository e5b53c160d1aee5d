/- 'alive' of the statements of layer 7: the fixed calls come out as they must, and nothing that was there is written. -/
import Derived.Test.YtcoppcididemkaaDoorBlakeTell
import Derived.Lib.SlBytesConst
namespace Go.Proofs.YtcoppcididemkaaDoor
namespace Blake
open Go.ChangeShapes Go.WideShapes Go.ChangeAt Go.RowKit
open Num Mem Words State Chacha Quiet

theorem rd_marked {w : World} {g n : Nat} {t : TypeId} {cs : Array Value} {fz : Nat × Nat} {f : Nat → Nat} (hg : g = w.heap.size) (hc : cs = (byteCells f n).toArray) : Rd (w.alloc (.cells cs t fz)) (some ⟨g, 0, none⟩) n f := by
  subst hg
  subst hc
  have h : (w.alloc (.cells (byteCells f n).toArray t fz)).heap[w.heap.size]? = some (.cells (byteCells f n).toArray t fz) := heap_alloc_new w _
  refine .inr ⟨w.heap.size, 0, rfl, by simp, fun i hi => ?_⟩
  rw [cell_of_row _ _ _ _ t fz h, Nat.zero_add, List.getElem?_toArray, byteCells_get f n i hi]

def abc : Nat → Nat := fun i => if i = 0 then 97 else if i = 1 then 98 else 99
theorem abc_lt (i : Nat) : abc i < 256 := by
  unfold abc
  split
  · omega
  · split <;> omega
theorem empty_sum : digest 32 (fun _ => 0) 0 (fun _ => 0) 0 0 = 105 ∧ digest 32 (fun _ => 0) 0 (fun _ => 0) 0 1 = 33 ∧ digest 32 (fun _ => 0) 0 (fun _ => 0) 0 2 = 122 ∧ digest 32 (fun _ => 0) 0 (fun _ => 0) 0 3 = 48 := by decide +kernel
theorem abc_sum : digest 32 (fun _ => 0) 0 abc 3 0 = 80 ∧ digest 32 (fun _ => 0) 0 abc 3 1 = 140 := by decide +kernel

set_option maxRecDepth 100000 in
set_option maxHeartbeats 1000000 in
theorem alive_any (w : World) (hL : Laid w) : Calls Tryd.prog 4 #[] w fun e w' => e = .returned (.bool true) ∧ Below w.heap.size w w' := by
  have HL := Lib.hid hL
  have HZ32 := Lib.hid (show ∀ f, (byteCells f 32).toArray.size = 32 from fun f => by rw [List.size_toArray, byteCells_length])
  obtain ⟨F, hF⟩ : ∃ F, digest 32 (fun _ => 0) 0 (fun _ => 0) 0 = F := ⟨_, rfl⟩
  have C1 := Lib.hid (sum32_any none 0 0 (fun _ => 0) (fun _ => by omega) (by omega) (by omega))
  have E1 := Lib.hid empty_sum
  rw [hF] at C1 E1
  obtain ⟨G, hG⟩ : ∃ F, digest 32 (fun _ => 0) 0 abc 3 = F := ⟨_, rfl⟩
  have C2 := Lib.hid (fun A => sum_ok 32 none A 0 0 3 3 (fun _ => 0) abc (by omega) (by omega) (by omega) (fun _ => by omega) abc_lt (by omega) (by omega))
  have E2 := Lib.hid abc_sum
  rw [hG] at C2 E2
  clear hF hG hL
  have HCV := Lib.hid (show ∀ (w : World) (C : Array Value) (n c : Nat), (convert 22 22 (.slice (some ⟨w.heap.size, 0, none⟩) n c)).run Tryd.prog (w.alloc (.cells C 5)) = .ok (.slice (some ⟨w.heap.size, 0, none⟩) n c) (w.alloc (.cells C 5 (C.size, C.size + 1))) from fun w C n c => Lib.run_convert_bytes_const w 22 5 C n c Tryd.underlying22 Tryd.underlying5)
  go_enter Tryd.func4, Tryd.ntmps4
  go_wp2_with fail
  refine (C1.out _ HL.out (.inl rfl)).mono ?_
  rintro e w1 ⟨rfl, hb1⟩
  go_upto_region 2 with (refine wpList_store_row rfl 34 (.tmp 1) (.tmp 6) rfl w1.heap.size (byteCells F 32).toArray rfl rfl 34 _ (Whole.new _ _ _) (by rw [HZ32.out]; kernel_rfl) (by rw [HZ32.out]; rfl) (bytes_one _ _) ?_)
  try simp only [Act.put]
  refine cut_world (fun X => Whole X w1.heap.size 34 (byteCells F 32).toArray ∧ Laid X ∧ Below w.heap.size w X) ⟨setRow_heap _ _ _ _ _ _ (Whole.new _ _ _), laid_below (laid_below HL.out hb1) (below_setRow (below_alloc (Below.refl _ _) _) (Nat.le_refl _) _), below_trans hb1 (below_setRow (below_alloc (Below.refl _ _) _) (Nat.le_refl _) _)⟩ ?_
  clear hb1
  generalize w1.heap.size = B
  rintro W ⟨q1, ql, qb⟩
  have Q1 := Lib.hid q1
  have QL := Lib.hid ql
  have QB := Lib.hid qb
  clear q1 ql qb
  go_wp2_with fail
  rw [HCV.out]
  go_wp2_with fail
  have hbn : Below W.heap.size W (W.alloc (.cells #[.int .u8 97, .int .u8 98, .int .u8 99] 5 (3, 4))) := below_alloc (Below.refl _ _) _
  refine (C2.out _ _ (laid_below QL.out hbn) (.inl rfl) (rd_marked rfl rfl)).mono ?_
  rintro e w2 ⟨g, rfl, q2, hg, hb2⟩
  have R1 := Lib.hid ((Q1.out.below hbn Q1.out.lt).below hb2 (Nat.lt_of_lt_of_le Q1.out.lt hbn.size))
  have R2 := Lib.hid q2
  have RB := Lib.hid (below_trans (below_trans QB.out hbn) hb2)
  clear Q1 QL QB hbn q2 hg hb2
  go_wp2_with fail
  refine (new_no 33 none 0 0 (by omega) _).mono ?_
  rintro e w3 ⟨rfl, rfl⟩
  have a0 := R1.out.bytes 0 (by omega)
  have a1 := R1.out.bytes 1 (by omega)
  have a2 := R1.out.bytes 2 (by omega)
  have a3 := R1.out.bytes 3 (by omega)
  have b0 := R2.out.bytes 0 (by omega)
  have b1 := R2.out.bytes 1 (by omega)
  rw [E1.out.1] at a0
  rw [E1.out.2.1] at a1
  rw [E1.out.2.2.1] at a2
  rw [E1.out.2.2.2] at a3
  rw [E2.out.1] at b0
  rw [E2.out.2] at b1
  go_wp2_with fail
  go_ret
  exact ⟨rfl, RB.out⟩

end Blake
end Go.Proofs.YtcoppcididemkaaDoor
