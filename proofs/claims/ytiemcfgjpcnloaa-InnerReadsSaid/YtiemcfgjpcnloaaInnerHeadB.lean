/- The call headerFour of package inner. -/
import Derived.Test.YtiemcfgjpcnloaaInnerHead
import Derived.Test.YtiemcfgjpcnloaaKit
import Derived.IntWalk
namespace Go.Proofs.Ytiemcfgjpcnloaa
namespace Inner
open Go.ChangeShapes Go.WideShapes Go.ChangeAt Go.RowKit
open Num Mem Words Chacha Aead Poly Quiet

theorem h4n_lt {f g : Nat → Nat} (hf : ∀ i, f i < 256) (hg : ∀ i, g i < 256) {z : Nat} (hz : z < 65536) (i : Nat) : h4n f g z i < 256 := by
  have h1 := hf (i - 12)
  have h2 := hg (i - 16)
  unfold h4n
  (repeat' split) <;> omega

set_option maxRecDepth 100000 in
set_option maxHeartbeats 4000000 in
theorem headerFour_any (s t : Bool) (f g : Nat → Nat) (z : Nat) (hz : z ≤ 4000) (hf : ∀ i, f i < 256) (hg : ∀ i, g i < 256) (w : World) :
    Calls Try.prog 23 #[.agg (addrL s f).toArray, .agg (addrL t g).toArray, .int .i64 z] w fun e w' => e = .returned (.agg (byteCells (h4 f g z) 20).toArray) ∧ Below w.heap.size w w' := by
  obtain ⟨zs, hzz, hzs⟩ : ∃ zs : Array Value, (∀ w, (zeroValue 51).run Try.prog w = .ok (.agg zs) w) ∧ zs.size = 20 := ⟨_, zero20, by rw [List.size_toArray, byteCells_length]⟩
  have HZS := Lib.hid hzs
  obtain ⟨L, hL⟩ : ∃ L, addrL s f = L := ⟨_, rfl⟩
  obtain ⟨M, hM⟩ : ∃ M, addrL t g = M := ⟨_, rfl⟩
  rw [hL, hM]
  have HL := Lib.hid hL
  have HM := Lib.hid hM
  have HSD := Lib.hid seed4_built
  have HZ20 := Lib.hid (show ∀ f, (byteCells f 20).toArray.size = 20 from fun f => by rw [List.size_toArray, byteCells_length])
  have HH := Lib.hid (show ∀ i, h4n f g z i < 256 from h4n_lt hf hg (by omega))
  have hc1 := canon_le (sumS (h4n f g z) 20)
  clear hzs hL hM hf hg
  go_enter Try.func23, Try.ntmps23
  go_upto_region 2 with (first | (refine wpList_built3 rfl 51 0 8 9 (.const (.int .u8 69)) (.const (.int .u8 64)) (.const (.int .u8 17)) rfl (.int .u8 69) (.int .u8 64) (.int .u8 17) rfl rfl rfl (byteCells seed4 20).toArray HSD.out ?_) | (refine wpList_store_row rfl 51 (.tmp 7) (.tmp 8) rfl (w.heap.size + 1 + 1 + 1) (byteCells seed4 20).toArray rfl rfl 51 _ (whole_new _ zs (by simp)) (by rw [HZ20.out]; kernel_rfl) (by rw [HZS.out, HZ20.out]) (bytes_one _ _) ?_))
  try simp only [Act.put]
  refine cut_world (fun X => HdW w w.heap.size 20 51 L M zs seed4 X) ⟨?_, ?_, ?_, setRow_heap _ _ _ _ _ _ (whole_new _ zs (by simp)), ?_⟩ ?_
  · exact (setRow_other _ _ _ _ (by omega)).trans ((((Whole.new _ _ _).alloc _).alloc _).alloc _)
  · exact (setRow_other _ _ _ _ (by omega)).trans (((whole_new _ _ (by simp)).alloc _).alloc _)
  · exact (setRow_other _ _ _ _ (by omega)).trans ((whole_new _ _ (by simp)).alloc _)
  · exact below_setRow (below_alloc (below_alloc (below_alloc (below_alloc (Below.refl _ _) _) _) _) _) (by omega) _
  rintro W hr
  have HR := Lib.hid hr
  clear hr HSD hzz
  generalize hB : w.heap.size = B at HR ⊢
  go_wp2_with fail
  refine (put_any (B + 1 + 1 + 1) 2 20 18 z seed4 51 (by omega) (by omega) _ HR.out.s 18 (by omega)).mono ?_
  rintro e w1 ⟨rfl, p1, g1⟩
  have HR1 := Lib.hid (HR.out.grown g1 p1)
  clear p1 g1 HR
  generalize hF1 : (fun i => if i = 2 then z / 256 else if i = 2 + 1 then z % 256 else seed4 i) = F1 at HR1
  have HF1 := Lib.hid hF1
  clear hF1
  go_upto_region 3 with fail
  have A1 := Lib.hid (HL.out.symm ▸ (HR1.out.drewN 1).a : Whole w1.drew B 26 (addrL s f).toArray)
  have HS := Lib.hid (addr_src A1.out 4 (by omega))
  have K1 := Lib.hid (show Whole w1.drew (B + 1 + 1 + 1) 51 (byteCells F1 20).toArray from HR1.out.s.drew)
  go_region_law (refine step_copy_grown rfl (.tmp 12) (.tmp 14) 22 22 rfl 5 rfl (by kernel_rfl) (B + 1 + 1 + 1) 12 8 8 ⟨B, 1, none⟩ 4 16 rfl rfl (byteCells F1 20) 51 K1.out (byteCells f 4) (by rw [byteCells_length]; rfl) HS.out (by rw [byteCells_length, byteCells_length]; omega) (bytes_each _ _) ?_; intro w8 hg8 hb8)
  obtain ⟨F2, hF2⟩ : ∃ F2 : Nat → Nat, F2 = fun i => if 12 ≤ i ∧ i < 12 + 4 then f (i - 12) else F1 i := ⟨_, rfl⟩
  have hg9 := hg8.out
  rw [byteCells_splice F1 f F2 20 12 4 (by omega) (fun i _ => by rw [hF2])] at hg9
  have HF2 := Lib.hid hF2
  have HR2 := Lib.hid ((HR1.out.drewN 1).grown hb8 hg9)
  clear hg8 hg9 hb8 hF2 A1 HS K1 HR1
  go_upto_region 4 with fail
  have A1 := Lib.hid (HM.out.symm ▸ (HR2.out.drewN 1).b : Whole w8.drew (B + 1) 26 (addrL t g).toArray)
  have HS := Lib.hid (addr_src A1.out 4 (by omega))
  have K1 := Lib.hid (show Whole w8.drew (B + 1 + 1 + 1) 51 (byteCells F2 20).toArray from HR2.out.s.drew)
  go_region_law (refine step_copy_grown rfl (.tmp 16) (.tmp 18) 22 22 rfl 5 rfl (by kernel_rfl) (B + 1 + 1 + 1) 16 4 4 ⟨B + 1, 1, none⟩ 4 16 rfl rfl (byteCells F2 20) 51 K1.out (byteCells g 4) (by rw [byteCells_length]; rfl) HS.out (by rw [byteCells_length, byteCells_length]; omega) (bytes_each _ _) ?_; intro w9 hg8 hb8)
  have hg9 := hg8.out
  rw [byteCells_splice F2 g (h4n f g z) 20 16 4 (by omega) (fun i hi => h4_last f g z F1 F2 HF1.out HF2.out i hi)] at hg9
  have HR3 := Lib.hid ((HR2.out.drewN 1).grown hb8 hg9)
  clear hg8 hg9 hb8 A1 HS K1 HR2 HF1 HF2
  obtain ⟨N, hN⟩ : ∃ N, h4n f g z = N := ⟨_, rfl⟩
  have hsh : sh4 f g z = 65535 - canon (sumS (h4n f g z) 20) := rfl
  rw [hN] at HR3 HH hc1 hsh
  obtain ⟨x, hx⟩ : ∃ x, canon (sumS N 20) = x := ⟨_, rfl⟩
  rw [hx] at hc1 hsh
  have HX := Lib.hid hx
  obtain ⟨y, hy⟩ : ∃ y, sh4 f g z = y := ⟨_, rfl⟩
  rw [hy] at hsh
  have HY := Lib.hid (show (65535 : Int) - (x : Int) = (y : Int) from by omega)
  have hy2 : y < 65536 := by omega
  have HF4 := Lib.hid (show (fun i => if i = 10 then y / 256 else if i = 10 + 1 then y % 256 else N i) = h4 f g z from by
    funext i
    unfold h4
    rw [hy, hN])
  clear hN hx hy hsh
  go_upto_region 5 with fail
  have w1x := Lib.hid (show IntKind.i64.wrap (x : Int) = (x : Int) from IntWalk.i64_in _ (by omega))
  have w2x := Lib.hid (show IntKind.i64.wrap ((65535 : Int) - (x : Int)) = (y : Int) from by rw [HY.out]; exact IntWalk.i64_in _ (by omega))
  refine region_drew (fun _ => True) (by kernel_rfl) trivial ?_
  intro _
  refine take 0 _ rfl (by kernel_rfl) (by kernel_rfl) (by kernel_rfl) (fun _ _ _ h => h) (by rfl) trivial (by intro w _; go_simp; try with_reducible rfl) ?_
  try simp only [Act.put, List.setIfInBounds_toArray, List.set_cons_zero, List.set_cons_succ]
  refine take 1 _ rfl (by kernel_rfl) (by kernel_rfl) (by kernel_rfl) (fun _ _ _ h => h) (by rfl) trivial (by intro w _; go_simp; try with_reducible rfl) ?_
  try simp only [Act.put, List.setIfInBounds_toArray, List.set_cons_zero, List.set_cons_succ]
  refine alone 2 rfl (by kernel_rfl) (by rfl) ?_
  intro K hK
  go_simp
  refine (sum_any (some ⟨B + 1 + 1 + 1, 0, none⟩) 20 20 N HH.out (by omega) _ (Rd.of_whole (HR3.out.drewN 1).s)).mono ?_
  rintro e w10 ⟨rfl, rfl⟩
  rw [HX.out]
  go_simp
  refine hK.out _ _ trivial ?_
  clear hK K
  try simp only [Act.put, List.setIfInBounds_toArray, List.set_cons_zero, List.set_cons_succ]
  have e1 := w1x.out
  have e2 := w2x.out
  refine take 3 _ rfl (by kernel_rfl) (by kernel_rfl) (by kernel_rfl) (fun _ _ _ h => h) (by rfl) trivial (by intro w _; go_simp; try with_reducible rfl) ?_
  try simp only [Act.put, List.setIfInBounds_toArray, List.set_cons_zero, List.set_cons_succ]
  refine take 4 _ rfl (by kernel_rfl) (by kernel_rfl) (by kernel_rfl) (fun _ _ _ h => h) (by rfl) trivial (by intro w _; go_simp; try with_reducible rfl) ?_
  try simp only [Act.put, List.setIfInBounds_toArray, List.set_cons_zero, List.set_cons_succ]
  clear e1 e2
  refine alone 5 rfl (by kernel_rfl) (by rfl) ?_
  intro K hK
  go_simp
  refine (put_any (B + 1 + 1 + 1) 10 20 10 y N 51 hy2 (by omega) _ (HR3.out.drewN 1).s 10 (by omega)).mono ?_
  rintro e w11 ⟨rfl, p1, g1⟩
  rw [HF4.out] at p1
  have HR4 := Lib.hid ((HR3.out.drewN 1).grown g1 p1)
  clear p1 g1 HR3
  go_simp
  refine hK.out _ _ trivial ?_
  clear hK K
  try simp only [Act.put, List.setIfInBounds_toArray, List.set_cons_zero, List.set_cons_succ]
  refine region_end (by kernel_rfl) ?_
  obtain ⟨F, hF⟩ : ∃ F, h4 f g z = F := ⟨_, rfl⟩
  rw [hF] at HR4
  have HFF := Lib.hid hF
  clear hF HF4
  go_wp2_with (first | (refine wpList_load_row rfl 51 (.tmp 7) rfl (B + 1 + 1 + 1) rfl 51 (byteCells F 20).toArray (0, 0) _ HR4.out.s rfl rfl (by rw [HZ20.out]; kernel_rfl) ?_) | (refine wpList_store_row rfl 51 (.tmp 6) (.tmp 26) rfl (B + 1 + 1) (byteCells F 20).toArray rfl rfl 51 _ HR4.out.r (by rw [HZ20.out]; kernel_rfl) (by rw [HZ20.out, HZS.out]) (bytes_one _ _) ?_))
  have hret : Whole (w11.setRow (B + 1 + 1) (byteCells F 20).toArray) (B + 1 + 1) 51 (byteCells F 20).toArray := setRow_heap _ _ _ _ _ _ HR4.out.r
  refine bodyPost_ret (results_cell_row rfl _ _ (B + 1 + 1) 51 _ (0, 0) _ rfl hret rfl rfl (by rw [HZ20.out]; kernel_rfl)) rfl ?_
  exact ⟨by rw [HFF.out], by rw [hB]; exact below_setRow HR4.out.bel (by omega) _⟩

end Inner
end Go.Proofs.Ytiemcfgjpcnloaa
