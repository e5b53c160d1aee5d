/- The document's own answers of layer 7 (package aditref07): mix, on a row that is owned. -/
import Derived.Test.YtcoppcididemkaaDoorRefOne
import Derived.Test.YtcoppcididemkaaDoorBlakeNum
import Derived.Test.YtcoppcididemkaaDoorOwnW
import Derived.Test.YtcoppcididemkaaDoorTurn
import Derived.Test.YtcoppcididemkaaDoorFirst
import Derived.StillTailTactics
namespace Go.Proofs.YtcoppcididemkaaDoor
namespace RefB
open Go.ChangeShapes Go.WideShapes Go.ChangeAt Go.RowKit
open Num Mem Words State Blake Ref Chacha

theorem still_of {P : Program} {f : FuncId} {args : Array Value} {w : World} {v : Value} (h : Calls P f args w fun e w' => e = .returned v ∧ w = w') : Calls P f args w fun e w' => e = .returned v ∧ w' = w :=
  h.mono fun _ _ ⟨h1, h2⟩ => ⟨h1, h2.symm⟩
theorem wrap_sum3 (p q x : Nat) : IntKind.u32.wrap (IntKind.u32.wrap ((p : Int) + (q : Int)) + (x : Int)) = (((p + (q + x) % 4294967296) % 4294967296 : Nat) : Int) := by
  have e : ∀ n : Nat, IntKind.u32.wrap (n : Int) = ((n % 4294967296 : Nat) : Int) := fun n => by
    show ((n : Int) % 4294967296) = _
    omega
  rw [show (p : Int) + (q : Int) = ((p + q : Nat) : Int) by omega, e, show (((p + q) % 4294967296 : Nat) : Int) + (x : Int) = (((p + q) % 4294967296 + x : Nat) : Int) by omega, e]
  omega

set_option maxRecDepth 100000 in
set_option maxHeartbeats 2000000 in
theorem mix_ref (g n a b c d x y B : Nat) (s : List Nat) (hl : s.length = 16) (hf : Fits s) (h1 : a < 16) (h2 : b < 16) (h3 : c < 16) (h4 : d < 16) (w : World) (hw : OwnW w B g n s) :
    Calls Tryd.prog 25 #[.slice (some ⟨g, 0, none⟩) 16 n, .int .i64 a, .int .i64 b, .int .i64 c, .int .i64 d, .int .u32 x, .int .u32 y] w fun e w' => e = .returned (.tuple #[]) ∧ OwnW w' B g n (mixL s a b c d x y) ∧ w.grownBy w' (some g) := by
  have HO := Lib.hid hw
  have HF := Lib.hid hf
  have HL := Lib.hid hl
  have HG := Lib.hid (World.grownBy.refl w (some g))
  clear hw hf hl
  have i1 : (a : Int) < 16 := by omega
  have i2 : (b : Int) < 16 := by omega
  have i3 : (c : Int) < 16 := by omega
  have i4 : (d : Int) < 16 := by omega
  go_enter Tryd.func25, Tryd.ntmps25
  have c1 := HO.out.cellW a (by rw [HL.out]; omega)
  have c2 := HO.out.cellW b (by rw [HL.out]; omega)
  have f1 := HO.out.freeW a
  have HZ := Lib.hid (wrap_sum3 (s.getD a 0) (s.getD b 0) x)
  have ho1 := HO.out.put a (by rw [HL.out]; omega) ((s.getD a 0 + (s.getD b 0 + x) % 4294967296) % 4294967296)
  have hf1 : Fits (add3 s a b x) := add3_fits HF.out _ _ _
  have hl1 : (add3 s a b x).length = 16 := by rw [add3_length]; exact HL.out
  rw [show s.set a ((s.getD a 0 + (s.getD b 0 + x) % 4294967296) % 4294967296) = add3 s a b x from rfl] at ho1
  have HG1 := Lib.hid (grown_trans HG.out (grown_put w g a (.int .u32 (((s.getD a 0 + (s.getD b 0 + x) % 4294967296) % 4294967296) : Nat))))
  clear HO HF HL HG
  generalize hs : add3 s a b x = s1 at ho1 hf1 hl1
  have HS1 := Lib.hid hs
  have HF := Lib.hid hf1
  have HL := Lib.hid hl1
  have HO1 := Lib.hid ho1
  clear hs hf1 hl1 ho1
  generalize ez : ((s.getD a 0 + (s.getD b 0 + x) % 4294967296) % 4294967296) = z at HZ HO1 HG1
  clear ez
  generalize ep : s.getD a 0 = p at c1 HZ
  generalize eq : s.getD b 0 = q at c2 HZ
  clear ep eq
  go_wp2_with fail
  refine wp_region_still_tail 14 (by kernel_rfl) (by kernel_rfl) ?_
  simp only [List.take_succ_cons, List.take_zero, List.drop_succ_cons, List.drop_zero]
  repeat still_step
  refine wpStill_nil ?_
  change wpList _ _ _ _ _ w.drew
  rw [HZ.out]
  go_wp2_with fail
  refine cut_world (fun X => OwnW X B g n s1 ∧ w.grownBy X (some g)) ⟨HO1.out, HG1.out⟩ ?_
  clear HO1 HG1 c1 c2 f1 HZ
  rintro w1 ⟨hov, hgv⟩
  have HO := Lib.hid hov
  have HG := Lib.hid hgv
  clear hov hgv
  have c1 := HO.out.cellW d (by rw [HL.out]; omega)
  have c2 := HO.out.cellW a (by rw [HL.out]; omega)
  have f1 := HO.out.freeW d
  have b1 := HF.out d
  have b2 := HF.out a
  have hx32 : s1.getD d 0 ^^^ s1.getD a 0 < 2 ^ 32 := Nat.xor_lt_two_pow b1 b2
  have hxor := u32_xor_nat (s1.getD d 0) (s1.getD a 0) b1 b2
  have ho1 := HO.out.put d (by rw [HL.out]; omega) (rotl (s1.getD d 0 ^^^ s1.getD a 0) 16)
  have hf1 : Fits (xr s1 d a 16) := xr_fits HF.out _ _ _ (by omega)
  have hl1 : (xr s1 d a 16).length = 16 := by rw [xr_length]; exact HL.out
  rw [show s1.set d (rotl (s1.getD d 0 ^^^ s1.getD a 0) 16) = xr s1 d a 16 from rfl] at ho1
  have HG1 := Lib.hid (grown_trans HG.out (grown_put w1 g d (.int .u32 ((rotl (s1.getD d 0 ^^^ s1.getD a 0) 16) : Nat))))
  clear HO HF HL HG
  generalize hs : xr s1 d a 16 = s2 at ho1 hf1 hl1
  have HS2 := Lib.hid hs
  have HF := Lib.hid hf1
  have HL := Lib.hid hl1
  have HO1 := Lib.hid ho1
  clear hs hf1 hl1 ho1
  generalize ep : s1.getD d 0 = p at c1 b1 hx32 hxor HO1 HG1
  generalize eq : s1.getD a 0 = q at c2 b2 hx32 hxor HO1 HG1
  clear ep eq
  go_wp2_with fail
  refine wp_region_still_tail 13 (by kernel_rfl) (by kernel_rfl) ?_
  simp only [List.take_succ_cons, List.take_zero, List.drop_succ_cons, List.drop_zero]
  repeat still_step
  still_call (still_of (rotate_ref (p ^^^ q) 16 16 (by omega) hx32 _))
  repeat still_step
  refine wpStill_nil ?_
  change wpList _ _ _ _ _ w1.drew
  go_wp2_with fail
  refine cut_world (fun X => OwnW X B g n s2 ∧ w.grownBy X (some g)) ⟨HO1.out, HG1.out⟩ ?_
  clear HO1 HG1 c1 c2 f1 b1 b2 hx32 hxor
  rintro w2 ⟨hov, hgv⟩
  have HO := Lib.hid hov
  have HG := Lib.hid hgv
  clear hov hgv
  have c1 := HO.out.cellW c (by rw [HL.out]; omega)
  have c2 := HO.out.cellW d (by rw [HL.out]; omega)
  have f1 := HO.out.freeW c
  have HZ := Lib.hid (wrap_sum (s2.getD c 0) (s2.getD d 0))
  have ho1 := HO.out.put c (by rw [HL.out]; omega) ((s2.getD c 0 + s2.getD d 0) % 4294967296)
  have hf1 : Fits (add2 s2 c d) := add2_fits HF.out _ _
  have hl1 : (add2 s2 c d).length = 16 := by rw [add2_length]; exact HL.out
  rw [show s2.set c ((s2.getD c 0 + s2.getD d 0) % 4294967296) = add2 s2 c d from rfl] at ho1
  have HG1 := Lib.hid (grown_trans HG.out (grown_put w2 g c (.int .u32 (((s2.getD c 0 + s2.getD d 0) % 4294967296) : Nat))))
  clear HO HF HL HG
  generalize hs : add2 s2 c d = s3 at ho1 hf1 hl1
  have HS3 := Lib.hid hs
  have HF := Lib.hid hf1
  have HL := Lib.hid hl1
  have HO1 := Lib.hid ho1
  clear hs hf1 hl1 ho1
  generalize ez : ((s2.getD c 0 + s2.getD d 0) % 4294967296) = z at HZ HO1 HG1
  clear ez
  generalize ep : s2.getD c 0 = p at c1 HZ
  generalize eq : s2.getD d 0 = q at c2 HZ
  clear ep eq
  go_wp2_with fail
  refine wp_region_still_tail 12 (by kernel_rfl) (by kernel_rfl) ?_
  simp only [List.take_succ_cons, List.take_zero, List.drop_succ_cons, List.drop_zero]
  repeat still_step
  refine wpStill_nil ?_
  change wpList _ _ _ _ _ w2.drew
  rw [HZ.out]
  go_wp2_with fail
  refine cut_world (fun X => OwnW X B g n s3 ∧ w.grownBy X (some g)) ⟨HO1.out, HG1.out⟩ ?_
  clear HO1 HG1 c1 c2 f1 HZ
  rintro w3 ⟨hov, hgv⟩
  have HO := Lib.hid hov
  have HG := Lib.hid hgv
  clear hov hgv
  have c1 := HO.out.cellW b (by rw [HL.out]; omega)
  have c2 := HO.out.cellW c (by rw [HL.out]; omega)
  have f1 := HO.out.freeW b
  have b1 := HF.out b
  have b2 := HF.out c
  have hx32 : s3.getD b 0 ^^^ s3.getD c 0 < 2 ^ 32 := Nat.xor_lt_two_pow b1 b2
  have hxor := u32_xor_nat (s3.getD b 0) (s3.getD c 0) b1 b2
  have ho1 := HO.out.put b (by rw [HL.out]; omega) (rotl (s3.getD b 0 ^^^ s3.getD c 0) 20)
  have hf1 : Fits (xr s3 b c 20) := xr_fits HF.out _ _ _ (by omega)
  have hl1 : (xr s3 b c 20).length = 16 := by rw [xr_length]; exact HL.out
  rw [show s3.set b (rotl (s3.getD b 0 ^^^ s3.getD c 0) 20) = xr s3 b c 20 from rfl] at ho1
  have HG1 := Lib.hid (grown_trans HG.out (grown_put w3 g b (.int .u32 ((rotl (s3.getD b 0 ^^^ s3.getD c 0) 20) : Nat))))
  clear HO HF HL HG
  generalize hs : xr s3 b c 20 = s4 at ho1 hf1 hl1
  have HS4 := Lib.hid hs
  have HF := Lib.hid hf1
  have HL := Lib.hid hl1
  have HO1 := Lib.hid ho1
  clear hs hf1 hl1 ho1
  generalize ep : s3.getD b 0 = p at c1 b1 hx32 hxor HO1 HG1
  generalize eq : s3.getD c 0 = q at c2 b2 hx32 hxor HO1 HG1
  clear ep eq
  go_wp2_with fail
  refine wp_region_still_tail 13 (by kernel_rfl) (by kernel_rfl) ?_
  simp only [List.take_succ_cons, List.take_zero, List.drop_succ_cons, List.drop_zero]
  repeat still_step
  still_call (still_of (rotate_ref (p ^^^ q) 20 20 (by omega) hx32 _))
  repeat still_step
  refine wpStill_nil ?_
  change wpList _ _ _ _ _ w3.drew
  go_wp2_with fail
  refine cut_world (fun X => OwnW X B g n s4 ∧ w.grownBy X (some g)) ⟨HO1.out, HG1.out⟩ ?_
  clear HO1 HG1 c1 c2 f1 b1 b2 hx32 hxor
  rintro w4 ⟨hov, hgv⟩
  have HO := Lib.hid hov
  have HG := Lib.hid hgv
  clear hov hgv
  have c1 := HO.out.cellW a (by rw [HL.out]; omega)
  have c2 := HO.out.cellW b (by rw [HL.out]; omega)
  have f1 := HO.out.freeW a
  have HZ := Lib.hid (wrap_sum3 (s4.getD a 0) (s4.getD b 0) y)
  have ho1 := HO.out.put a (by rw [HL.out]; omega) ((s4.getD a 0 + (s4.getD b 0 + y) % 4294967296) % 4294967296)
  have hf1 : Fits (add3 s4 a b y) := add3_fits HF.out _ _ _
  have hl1 : (add3 s4 a b y).length = 16 := by rw [add3_length]; exact HL.out
  rw [show s4.set a ((s4.getD a 0 + (s4.getD b 0 + y) % 4294967296) % 4294967296) = add3 s4 a b y from rfl] at ho1
  have HG1 := Lib.hid (grown_trans HG.out (grown_put w4 g a (.int .u32 (((s4.getD a 0 + (s4.getD b 0 + y) % 4294967296) % 4294967296) : Nat))))
  clear HO HF HL HG
  generalize hs : add3 s4 a b y = s5 at ho1 hf1 hl1
  have HS5 := Lib.hid hs
  have HF := Lib.hid hf1
  have HL := Lib.hid hl1
  have HO1 := Lib.hid ho1
  clear hs hf1 hl1 ho1
  generalize ez : ((s4.getD a 0 + (s4.getD b 0 + y) % 4294967296) % 4294967296) = z at HZ HO1 HG1
  clear ez
  generalize ep : s4.getD a 0 = p at c1 HZ
  generalize eq : s4.getD b 0 = q at c2 HZ
  clear ep eq
  go_wp2_with fail
  refine wp_region_still_tail 14 (by kernel_rfl) (by kernel_rfl) ?_
  simp only [List.take_succ_cons, List.take_zero, List.drop_succ_cons, List.drop_zero]
  repeat still_step
  refine wpStill_nil ?_
  change wpList _ _ _ _ _ w4.drew
  rw [HZ.out]
  go_wp2_with fail
  refine cut_world (fun X => OwnW X B g n s5 ∧ w.grownBy X (some g)) ⟨HO1.out, HG1.out⟩ ?_
  clear HO1 HG1 c1 c2 f1 HZ
  rintro w5 ⟨hov, hgv⟩
  have HO := Lib.hid hov
  have HG := Lib.hid hgv
  clear hov hgv
  have c1 := HO.out.cellW d (by rw [HL.out]; omega)
  have c2 := HO.out.cellW a (by rw [HL.out]; omega)
  have f1 := HO.out.freeW d
  have b1 := HF.out d
  have b2 := HF.out a
  have hx32 : s5.getD d 0 ^^^ s5.getD a 0 < 2 ^ 32 := Nat.xor_lt_two_pow b1 b2
  have hxor := u32_xor_nat (s5.getD d 0) (s5.getD a 0) b1 b2
  have ho1 := HO.out.put d (by rw [HL.out]; omega) (rotl (s5.getD d 0 ^^^ s5.getD a 0) 24)
  have hf1 : Fits (xr s5 d a 24) := xr_fits HF.out _ _ _ (by omega)
  have hl1 : (xr s5 d a 24).length = 16 := by rw [xr_length]; exact HL.out
  rw [show s5.set d (rotl (s5.getD d 0 ^^^ s5.getD a 0) 24) = xr s5 d a 24 from rfl] at ho1
  have HG1 := Lib.hid (grown_trans HG.out (grown_put w5 g d (.int .u32 ((rotl (s5.getD d 0 ^^^ s5.getD a 0) 24) : Nat))))
  clear HO HF HL HG
  generalize hs : xr s5 d a 24 = s6 at ho1 hf1 hl1
  have HS6 := Lib.hid hs
  have HF := Lib.hid hf1
  have HL := Lib.hid hl1
  have HO1 := Lib.hid ho1
  clear hs hf1 hl1 ho1
  generalize ep : s5.getD d 0 = p at c1 b1 hx32 hxor HO1 HG1
  generalize eq : s5.getD a 0 = q at c2 b2 hx32 hxor HO1 HG1
  clear ep eq
  go_wp2_with fail
  refine wp_region_still_tail 13 (by kernel_rfl) (by kernel_rfl) ?_
  simp only [List.take_succ_cons, List.take_zero, List.drop_succ_cons, List.drop_zero]
  repeat still_step
  still_call (still_of (rotate_ref (p ^^^ q) 24 24 (by omega) hx32 _))
  repeat still_step
  refine wpStill_nil ?_
  change wpList _ _ _ _ _ w5.drew
  go_wp2_with fail
  refine cut_world (fun X => OwnW X B g n s6 ∧ w.grownBy X (some g)) ⟨HO1.out, HG1.out⟩ ?_
  clear HO1 HG1 c1 c2 f1 b1 b2 hx32 hxor
  rintro w6 ⟨hov, hgv⟩
  have HO := Lib.hid hov
  have HG := Lib.hid hgv
  clear hov hgv
  have c1 := HO.out.cellW c (by rw [HL.out]; omega)
  have c2 := HO.out.cellW d (by rw [HL.out]; omega)
  have f1 := HO.out.freeW c
  have HZ := Lib.hid (wrap_sum (s6.getD c 0) (s6.getD d 0))
  have ho1 := HO.out.put c (by rw [HL.out]; omega) ((s6.getD c 0 + s6.getD d 0) % 4294967296)
  have hf1 : Fits (add2 s6 c d) := add2_fits HF.out _ _
  have hl1 : (add2 s6 c d).length = 16 := by rw [add2_length]; exact HL.out
  rw [show s6.set c ((s6.getD c 0 + s6.getD d 0) % 4294967296) = add2 s6 c d from rfl] at ho1
  have HG1 := Lib.hid (grown_trans HG.out (grown_put w6 g c (.int .u32 (((s6.getD c 0 + s6.getD d 0) % 4294967296) : Nat))))
  clear HO HF HL HG
  generalize hs : add2 s6 c d = s7 at ho1 hf1 hl1
  have HS7 := Lib.hid hs
  have HF := Lib.hid hf1
  have HL := Lib.hid hl1
  have HO1 := Lib.hid ho1
  clear hs hf1 hl1 ho1
  generalize ez : ((s6.getD c 0 + s6.getD d 0) % 4294967296) = z at HZ HO1 HG1
  clear ez
  generalize ep : s6.getD c 0 = p at c1 HZ
  generalize eq : s6.getD d 0 = q at c2 HZ
  clear ep eq
  go_wp2_with fail
  refine wp_region_still_tail 12 (by kernel_rfl) (by kernel_rfl) ?_
  simp only [List.take_succ_cons, List.take_zero, List.drop_succ_cons, List.drop_zero]
  repeat still_step
  refine wpStill_nil ?_
  change wpList _ _ _ _ _ w6.drew
  rw [HZ.out]
  go_wp2_with fail
  refine cut_world (fun X => OwnW X B g n s7 ∧ w.grownBy X (some g)) ⟨HO1.out, HG1.out⟩ ?_
  clear HO1 HG1 c1 c2 f1 HZ
  rintro w7 ⟨hov, hgv⟩
  have HO := Lib.hid hov
  have HG := Lib.hid hgv
  clear hov hgv
  have c1 := HO.out.cellW b (by rw [HL.out]; omega)
  have c2 := HO.out.cellW c (by rw [HL.out]; omega)
  have f1 := HO.out.freeW b
  have b1 := HF.out b
  have b2 := HF.out c
  have hx32 : s7.getD b 0 ^^^ s7.getD c 0 < 2 ^ 32 := Nat.xor_lt_two_pow b1 b2
  have hxor := u32_xor_nat (s7.getD b 0) (s7.getD c 0) b1 b2
  have ho1 := HO.out.put b (by rw [HL.out]; omega) (rotl (s7.getD b 0 ^^^ s7.getD c 0) 25)
  have hf1 : Fits (xr s7 b c 25) := xr_fits HF.out _ _ _ (by omega)
  have hl1 : (xr s7 b c 25).length = 16 := by rw [xr_length]; exact HL.out
  rw [show s7.set b (rotl (s7.getD b 0 ^^^ s7.getD c 0) 25) = xr s7 b c 25 from rfl] at ho1
  have HG1 := Lib.hid (grown_trans HG.out (grown_put w7 g b (.int .u32 ((rotl (s7.getD b 0 ^^^ s7.getD c 0) 25) : Nat))))
  clear HO HF HL HG
  generalize hs : xr s7 b c 25 = s8 at ho1 hf1 hl1
  have HS8 := Lib.hid hs
  have HF := Lib.hid hf1
  have HL := Lib.hid hl1
  have HO1 := Lib.hid ho1
  clear hs hf1 hl1 ho1
  generalize ep : s7.getD b 0 = p at c1 b1 hx32 hxor HO1 HG1
  generalize eq : s7.getD c 0 = q at c2 b2 hx32 hxor HO1 HG1
  clear ep eq
  go_wp2_with fail
  refine wp_region_still_tail 13 (by kernel_rfl) (by kernel_rfl) ?_
  simp only [List.take_succ_cons, List.take_zero, List.drop_succ_cons, List.drop_zero]
  repeat still_step
  still_call (still_of (rotate_ref (p ^^^ q) 25 25 (by omega) hx32 _))
  repeat still_step
  refine wpStill_nil ?_
  change wpList _ _ _ _ _ w7.drew
  go_wp2_with fail
  go_end0
  refine ⟨rfl, ?_, HG1.out⟩
  rw [show mixL s a b c d x y = s8 by unfold mixL; rw [HS1.out, HS2.out, HS3.out, HS4.out, HS5.out, HS6.out, HS7.out, HS8.out]]
  exact HO1.out

end RefB
end Go.Proofs.YtcoppcididemkaaDoor
