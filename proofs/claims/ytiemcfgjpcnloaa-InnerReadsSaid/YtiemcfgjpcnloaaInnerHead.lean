/- The call headerSix of package inner. -/
import Derived.Test.YtiemcfgjpcnloaaInnerRight
import Derived.Test.YtiemcfgjpcnloaaKit
namespace Go.Proofs.Ytiemcfgjpcnloaa
namespace Inner
open Go.ChangeShapes Go.WideShapes Go.ChangeAt Go.RowKit
open Num Mem Words Chacha Aead Poly Quiet

/-- the header of a packet of IPv6 -/
def h6 (f g : Nat → Nat) (z i : Nat) : Nat :=
  if i < 24 then (if i < 8 then (if i = 0 then 96 else if i = 4 then (z - 40) / 256 else if i = 5 then (z - 40) % 256 else if i = 6 then 17 else if i = 7 then 64 else 0) else f (i - 8)) else g (i - 24)
/-- of one of IPv4, without its sum -/
def h4n (f g : Nat → Nat) (z i : Nat) : Nat :=
  if i < 16 then (if i < 12 then (if i = 0 then 69 else if i = 2 then z / 256 else if i = 3 then z % 256 else if i = 8 then 64 else if i = 9 then 17 else 0) else f (i - 12)) else g (i - 16)
/-- the number by which the sum is short -/
def sh4 (f g : Nat → Nat) (z : Nat) : Nat := 65535 - canon (sumS (h4n f g z) 20)
def h4 (f g : Nat → Nat) (z i : Nat) : Nat := if i = 10 then sh4 f g z / 256 else if i = 11 then sh4 f g z % 256 else h4n f g z i

def seed6 : Nat → Nat := fun i => if i = 0 then 96 else if i = 6 then 17 else if i = 7 then 64 else 0
def seed4 : Nat → Nat := fun i => if i = 0 then 69 else if i = 8 then 64 else if i = 9 then 17 else 0
theorem seed6_built : Try.prog.built 49 [(0, .int .u8 96), (6, .int .u8 17), (7, .int .u8 64)] = some (byteCells seed6 40).toArray := by kernel_rfl
theorem seed4_built : Try.prog.built 51 [(0, .int .u8 69), (8, .int .u8 64), (9, .int .u8 17)] = some (byteCells seed4 20).toArray := by kernel_rfl
theorem zero40 (w : World) : (zeroValue 49).run Try.prog w = .ok (.agg (byteCells nought 40).toArray) w := by kernel_rfl
theorem zero20 (w : World) : (zeroValue 51).run Try.prog w = .ok (.agg (byteCells nought 20).toArray) w := by kernel_rfl

theorem h6_last (f g : Nat → Nat) (z q : Nat) (F1 F2 : Nat → Nat) (hq : q = z - 40) (h1 : (fun i => if i = 4 then q / 256 else if i = 4 + 1 then q % 256 else seed6 i) = F1)
    (h2 : F2 = fun i => if 8 ≤ i ∧ i < 8 + 16 then f (i - 8) else F1 i) (i : Nat) (hi : i < 40) : h6 f g z i = if 24 ≤ i ∧ i < 24 + 16 then g (i - 24) else F2 i := by
  subst h2
  subst h1
  subst hq
  unfold h6 seed6
  by_cases l : i < 24
  · rw [if_pos l, if_neg (show ¬ (24 ≤ i ∧ i < 24 + 16) by omega)]
    by_cases m : i < 8
    · rw [if_pos m]
      dsimp only
      rw [if_neg (show ¬ (8 ≤ i ∧ i < 8 + 16) by omega)]
      rcases (by omega : i = 0 ∨ i = 1 ∨ i = 2 ∨ i = 3 ∨ i = 4 ∨ i = 5 ∨ i = 6 ∨ i = 7) with rfl | rfl | rfl | rfl | rfl | rfl | rfl | rfl <;> simp
    · rw [if_neg m]
      dsimp only
      rw [if_pos (show 8 ≤ i ∧ i < 8 + 16 by omega)]
  · rw [if_neg l, if_pos (show 24 ≤ i ∧ i < 24 + 16 by omega)]
theorem h4_last (f g : Nat → Nat) (z : Nat) (F1 F2 : Nat → Nat) (h1 : (fun i => if i = 2 then z / 256 else if i = 2 + 1 then z % 256 else seed4 i) = F1)
    (h2 : F2 = fun i => if 12 ≤ i ∧ i < 12 + 4 then f (i - 12) else F1 i) (i : Nat) (hi : i < 20) : h4n f g z i = if 16 ≤ i ∧ i < 16 + 4 then g (i - 16) else F2 i := by
  subst h2
  subst h1
  unfold h4n seed4
  by_cases l : i < 16
  · rw [if_pos l, if_neg (show ¬ (16 ≤ i ∧ i < 16 + 4) by omega)]
    by_cases m : i < 12
    · rw [if_pos m]
      dsimp only
      rw [if_neg (show ¬ (12 ≤ i ∧ i < 12 + 4) by omega)]
      rcases (by omega : i = 0 ∨ i = 1 ∨ i = 2 ∨ i = 3 ∨ i = 4 ∨ i = 5 ∨ i = 6 ∨ i = 7 ∨ i = 8 ∨ i = 9 ∨ i = 10 ∨ i = 11) with rfl | rfl | rfl | rfl | rfl | rfl | rfl | rfl | rfl | rfl | rfl | rfl <;> simp
    · rw [if_neg m]
      dsimp only
      rw [if_pos (show 12 ≤ i ∧ i < 12 + 4 by omega)]
  · rw [if_neg l, if_pos (show 16 ≤ i ∧ i < 16 + 4 by omega)]

/-- the world while a header is made -/
structure HdW (w : World) (B n : Nat) (T : TypeId) (L M : List Value) (res : Array Value) (h : Nat → Nat) (X : World) : Prop where
  a : Whole X B 26 L.toArray
  b : Whole X (B + 1) 26 M.toArray
  r : Whole X (B + 1 + 1) T res
  s : Whole X (B + 1 + 1 + 1) T (byteCells h n).toArray
  bel : Below B w X
section
variable {w X Y : World} {B n : Nat} {T : TypeId} {L M : List Value} {res : Array Value} {h h' : Nat → Nat}
theorem HdW.drewN (k : HdW w B n T L M res h X) (m : Nat) : HdW w B n T L M res h (X.drewN m) := ⟨k.a, k.b, k.r, k.s, below_drewN k.bel m⟩
theorem HdW.grown (k : HdW w B n T L M res h X) (hg : X.grownBy Y (some (B + 1 + 1 + 1))) (hY : Whole Y (B + 1 + 1 + 1) T (byteCells h' n).toArray) : HdW w B n T L M res h' Y :=
  ⟨whole_grown k.a hg (by omega), whole_grown k.b hg (by omega), whole_grown k.r hg (by omega), hY, below_grown k.bel hg (by omega) (Nat.le_of_lt k.a.lt)⟩
end
/-- the bytes of an address that lies in a block -/
theorem addr_src {X : World} {g : Nat} {s : Bool} {f : Nat → Nat} (h : Whole X g 26 (addrL s f).toArray) (m : Nat) (hm : m ≤ 16) :
    ∀ (j : Nat) (v : Value), (byteCells f m)[j]? = some v → X.cell? ((⟨g, 1, none⟩ : Addr).add j) = some v :=
  rd_src fun i hi => by
    rw [h.cell (1 + i), List.getElem?_toArray]
    unfold addrL
    rw [Nat.add_comm 1 i, List.getElem?_cons_succ, byteCells_get _ _ _ (by omega)]

set_option maxRecDepth 100000 in
set_option maxHeartbeats 4000000 in
theorem headerSix_any (s t : Bool) (f g : Nat → Nat) (z : Nat) (h40 : 40 ≤ z) (hz : z ≤ 4000) (w : World) :
    Calls Try.prog 22 #[.agg (addrL s f).toArray, .agg (addrL t g).toArray, .int .i64 z] w fun e w' => e = .returned (.agg (byteCells (h6 f g z) 40).toArray) ∧ Below w.heap.size w w' := by
  obtain ⟨zs, hzz, hzs⟩ : ∃ zs : Array Value, (∀ w, (zeroValue 49).run Try.prog w = .ok (.agg zs) w) ∧ zs.size = 40 := ⟨_, zero40, by rw [List.size_toArray, byteCells_length]⟩
  have HZS := Lib.hid hzs
  obtain ⟨L, hL⟩ : ∃ L, addrL s f = L := ⟨_, rfl⟩
  obtain ⟨M, hM⟩ : ∃ M, addrL t g = M := ⟨_, rfl⟩
  rw [hL, hM]
  have HL := Lib.hid hL
  have HM := Lib.hid hM
  have HSD := Lib.hid seed6_built
  have HZ40 := Lib.hid (show ∀ f, (byteCells f 40).toArray.size = 40 from fun f => by rw [List.size_toArray, byteCells_length])
  obtain ⟨q, hq⟩ : ∃ q : Nat, (z : Int) - 40 = (q : Int) := ⟨z - 40, by omega⟩
  have hq2 : q = z - 40 := by omega
  have HQ := Lib.hid hq2
  have hq3 : q < 65536 := by omega
  clear hzs hL hM hq2
  go_enter Try.func22, Try.ntmps22
  go_upto_region 2 with (first | (refine wpList_built3 rfl 49 0 6 7 (.const (.int .u8 96)) (.const (.int .u8 17)) (.const (.int .u8 64)) rfl (.int .u8 96) (.int .u8 17) (.int .u8 64) rfl rfl rfl (byteCells seed6 40).toArray HSD.out ?_) | (refine wpList_store_row rfl 49 (.tmp 7) (.tmp 8) rfl (w.heap.size + 1 + 1 + 1) (byteCells seed6 40).toArray rfl rfl 49 _ (whole_new _ zs (by simp)) (by rw [HZ40.out]; kernel_rfl) (by rw [HZS.out, HZ40.out]) (bytes_one _ _) ?_))
  try simp only [Act.put]
  refine cut_world (fun X => HdW w w.heap.size 40 49 L M zs seed6 X) ⟨?_, ?_, ?_, setRow_heap _ _ _ _ _ _ (whole_new _ zs (by simp)), ?_⟩ ?_
  · exact (setRow_other _ _ _ _ (by omega)).trans ((((Whole.new _ _ _).alloc _).alloc _).alloc _)
  · exact (setRow_other _ _ _ _ (by omega)).trans (((whole_new _ _ (by simp)).alloc _).alloc _)
  · exact (setRow_other _ _ _ _ (by omega)).trans ((whole_new _ _ (by simp)).alloc _)
  · exact below_setRow (below_alloc (below_alloc (below_alloc (below_alloc (Below.refl _ _) _) _) _) _) (by omega) _
  rintro W hr
  have HR := Lib.hid hr
  clear hr HSD hzz
  generalize hB : w.heap.size = B at HR ⊢
  go_wp2_with fail
  refine (put_any (B + 1 + 1 + 1) 4 40 36 q seed6 49 hq3 (by omega) _ HR.out.s 36 (by omega)).mono ?_
  rintro e w1 ⟨rfl, p1, g1⟩
  have HR1 := Lib.hid (HR.out.grown g1 p1)
  clear p1 g1 HR
  generalize hF1 : (fun i => if i = 4 then q / 256 else if i = 4 + 1 then q % 256 else seed6 i) = F1 at HR1
  have HF1 := Lib.hid hF1
  clear hF1 hq
  go_upto_region 3 with fail
  have A1 := Lib.hid (HL.out.symm ▸ (HR1.out.drewN 1).a : Whole w1.drew B 26 (addrL s f).toArray)
  have HS := Lib.hid (addr_src A1.out 16 (by omega))
  have K1 := Lib.hid (show Whole w1.drew (B + 1 + 1 + 1) 49 (byteCells F1 40).toArray from HR1.out.s.drew)
  go_region_law (refine step_copy_grown rfl (.tmp 13) (.tmp 15) 22 22 rfl 5 rfl (by kernel_rfl) (B + 1 + 1 + 1) 8 32 32 ⟨B, 1, none⟩ 16 16 rfl rfl (byteCells F1 40) 49 K1.out (byteCells f 16) (by rw [byteCells_length]; rfl) HS.out (by rw [byteCells_length, byteCells_length]; omega) (bytes_each _ _) ?_; intro w8 hg8 hb8)
  obtain ⟨F2, hF2⟩ : ∃ F2 : Nat → Nat, F2 = fun i => if 8 ≤ i ∧ i < 8 + 16 then f (i - 8) else F1 i := ⟨_, rfl⟩
  have hg9 := hg8.out
  rw [byteCells_splice F1 f F2 40 8 16 (by omega) (fun i _ => by rw [hF2])] at hg9
  have HF2 := Lib.hid hF2
  have HR2 := Lib.hid ((HR1.out.drewN 1).grown hb8 hg9)
  clear hg8 hg9 hb8 hF2 A1 HS K1 HR1
  go_upto_region 4 with fail
  have A1 := Lib.hid (HM.out.symm ▸ (HR2.out.drewN 1).b : Whole w8.drew (B + 1) 26 (addrL t g).toArray)
  have HS := Lib.hid (addr_src A1.out 16 (by omega))
  have K1 := Lib.hid (show Whole w8.drew (B + 1 + 1 + 1) 49 (byteCells F2 40).toArray from HR2.out.s.drew)
  go_region_law (refine step_copy_grown rfl (.tmp 17) (.tmp 19) 22 22 rfl 5 rfl (by kernel_rfl) (B + 1 + 1 + 1) 24 16 16 ⟨B + 1, 1, none⟩ 16 16 rfl rfl (byteCells F2 40) 49 K1.out (byteCells g 16) (by rw [byteCells_length]; rfl) HS.out (by rw [byteCells_length, byteCells_length]; omega) (bytes_each _ _) ?_; intro w9 hg8 hb8)
  have hg9 := hg8.out
  rw [byteCells_splice F2 g (h6 f g z) 40 24 16 (by omega) (fun i hi => h6_last f g z q F1 F2 HQ.out HF1.out HF2.out i hi)] at hg9
  have HR3 := Lib.hid ((HR2.out.drewN 1).grown hb8 hg9)
  clear hg8 hg9 hb8 A1 HS K1 HR2 HF1 HF2 HQ
  obtain ⟨F, hF⟩ : ∃ F, h6 f g z = F := ⟨_, rfl⟩
  rw [hF] at HR3
  have HFF := Lib.hid hF
  clear hF
  go_wp2_with (first | (refine wpList_load_row rfl 49 (.tmp 7) rfl (B + 1 + 1 + 1) rfl 49 (byteCells F 40).toArray (0, 0) _ HR3.out.s rfl rfl (by rw [HZ40.out]; kernel_rfl) ?_) | (refine wpList_store_row rfl 49 (.tmp 6) (.tmp 21) rfl (B + 1 + 1) (byteCells F 40).toArray rfl rfl 49 _ HR3.out.r (by rw [HZ40.out]; kernel_rfl) (by rw [HZ40.out, HZS.out]) (bytes_one _ _) ?_))
  have hret : Whole (w9.setRow (B + 1 + 1) (byteCells F 40).toArray) (B + 1 + 1) 49 (byteCells F 40).toArray := setRow_heap _ _ _ _ _ _ HR3.out.r
  refine bodyPost_ret (results_cell_row rfl _ _ (B + 1 + 1) 49 _ (0, 0) _ rfl hret rfl rfl (by rw [HZ40.out]; kernel_rfl)) rfl ?_
  exact ⟨by rw [HFF.out], by rw [hB]; exact below_setRow HR3.out.bel (by omega) _⟩

end Inner
end Go.Proofs.Ytiemcfgjpcnloaa
