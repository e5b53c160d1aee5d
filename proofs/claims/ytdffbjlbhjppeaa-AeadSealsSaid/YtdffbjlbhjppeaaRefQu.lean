/- The document's own answers of layer 2 (package aditref02): quarter and two, on a row that is owned. -/
import Derived.Test.YtdffbjlbhjppeaaRefOne
import Derived.Test.YtdffbjlbhjppeaaState
import Derived.Test.YtdffbjlbhjppeaaOwnW
import Derived.Test.YtdffbjlbhjppeaaFirst
import Derived.StillTailTactics
namespace Go.Proofs.Ytdffbjlbhjppeaa
namespace Ref
open Go.ChangeShapes Go.WideShapes Go.ChangeAt Go.RowKit
open Num Mem Words State Chacha

theorem still_of {P : Program} {f : FuncId} {args : Array Value} {w : World} {v : Value} (h : Calls P f args w fun e w' => e = .returned v ∧ w = w') : Calls P f args w fun e w' => e = .returned v ∧ w' = w :=
  h.mono fun _ _ ⟨h1, h2⟩ => ⟨h1, h2.symm⟩

set_option maxRecDepth 100000 in
set_option maxHeartbeats 2000000 in
theorem quarter_ref (g c a b d' d B : Nat) (s : List Nat) (hl : s.length = 16) (hf : Fits s) (h1 : a < 16) (h2 : b < 16) (h3 : d' < 16) (h4 : d < 16) (w : World) (hw : OwnW w B g c s) :
    Calls Try.prog 74 #[.slice (some ⟨g, 0, none⟩) 16 c, .int .i64 a, .int .i64 b, .int .i64 d', .int .i64 d] w fun e w' => e = .returned (.tuple #[]) ∧ OwnW w' B g c (quarter s a b d' d) ∧ w.grownBy w' (some g) := by
  have HO := Lib.hid hw
  have HF := Lib.hid hf
  have HL := Lib.hid hl
  have HG := Lib.hid (World.grownBy.refl w (some g))
  clear hw hf hl
  have i1 : (a : Int) < 16 := by omega
  have i2 : (b : Int) < 16 := by omega
  have i3 : (d' : Int) < 16 := by omega
  have i4 : (d : Int) < 16 := by omega
  go_enter Try.func74, Try.ntmps74
  have c1 := HO.out.cellW a (by rw [HL.out]; omega)
  have c2 := HO.out.cellW b (by rw [HL.out]; omega)
  have f1 := HO.out.freeW a
  have b1 := HF.out a
  have b2 := HF.out b
  have HZ := Lib.hid (wrap_sum (s.getD a 0) (s.getD b 0))
  have ho1 := HO.out.put a (by rw [HL.out]; omega) ((s.getD a 0 + s.getD b 0) % 4294967296)
  have HF1 := Lib.hid (HF.out.set a ((s.getD a 0 + s.getD b 0) % 4294967296) (Nat.mod_lt _ (by omega)))
  have hl1 : (s.set a ((s.getD a 0 + s.getD b 0) % 4294967296)).length = 16 := by rw [List.length_set]; exact HL.out
  have ht : turn s a b d 16 = (s.set a ((s.getD a 0 + s.getD b 0) % 4294967296)).set d (rotl ((s.set a ((s.getD a 0 + s.getD b 0) % 4294967296)).getD d 0 ^^^ (s.set a ((s.getD a 0 + s.getD b 0) % 4294967296)).getD a 0) 16) := rfl
  generalize s.set a ((s.getD a 0 + s.getD b 0) % 4294967296) = t at ho1 HF1 hl1 ht
  have HO1 := Lib.hid ho1
  have HL1 := Lib.hid hl1
  have HT := Lib.hid ht
  clear ho1 hl1 ht
  generalize s.getD a 0 = x at c1 b1 HZ HO1
  generalize s.getD b 0 = y at c2 b2 HZ HO1
  go_wp2_with fail
  refine wp_region_still_tail 12 (by kernel_rfl) (by kernel_rfl) ?_
  simp only [List.take_succ_cons, List.take_zero, List.drop_succ_cons, List.drop_zero]
  repeat still_step
  refine wpStill_nil ?_
  change wpList _ _ _ _ _ w.drew
  rw [HZ.out]
  go_wp2_with fail
  refine cut_world (fun X => OwnW X B g c t ∧ w.grownBy X (some g)) ⟨HO1.out, grown_put _ _ _ _⟩ ?_
  rintro v ⟨hov, hgv⟩
  clear c1 c2 f1 b1 b2 HZ HO1
  have c3 := hov.cellW d (by rw [HL1.out]; omega)
  have c4 := hov.cellW a (by rw [HL1.out]; omega)
  have f3 := hov.freeW d
  have b3 := HF1.out d
  have b4 := HF1.out a
  have hx32 : t.getD d 0 ^^^ t.getD a 0 < 2 ^ 32 := Nat.xor_lt_two_pow b3 b4
  have hxor := u32_xor_nat (t.getD d 0) (t.getD a 0) b3 b4
  have ho2 := hov.put d (by rw [HL1.out]; omega) (rotl (t.getD d 0 ^^^ t.getD a 0) 16)
  rw [← HT.out] at ho2
  have HO2 := Lib.hid ho2
  have HGV := Lib.hid (grown_trans HG.out hgv)
  have hf2 : Fits (turn s a b d 16) := turn_fits HF.out _ _ _ _ (by omega)
  have hl2 : (turn s a b d 16).length = 16 := by rw [turn_length]; exact HL.out
  clear hov hgv ho2 HT HF1 HL1 HO HF HL HG
  generalize t.getD d 0 = p at c3 b3 hx32 hxor HO2
  generalize t.getD a 0 = q at c4 b4 hx32 hxor HO2
  generalize hs0 : turn s a b d 16 = s0 at HO2 hf2 hl2
  have HS0 := Lib.hid hs0
  have HF := Lib.hid hf2
  have HL := Lib.hid hl2
  clear hs0 hf2 hl2
  refine wp_region_still_tail 13 (by kernel_rfl) (by kernel_rfl) ?_
  simp only [List.take_succ_cons, List.take_zero, List.drop_succ_cons, List.drop_zero]
  repeat still_step
  still_call (still_of (rotate_ref (p ^^^ q) 16 16 (by omega) hx32 _))
  repeat still_step
  refine wpStill_nil ?_
  change wpList _ _ _ _ _ v.drew
  go_wp2_with fail
  refine cut_world (fun X => OwnW X B g c s0 ∧ w.grownBy X (some g)) ⟨HO2.out, grown_trans HGV.out (grown_put _ _ _ _)⟩ ?_
  rintro w1 ⟨hov, hgv⟩
  have HO := Lib.hid hov
  have HG := Lib.hid hgv
  clear hov hgv HO2 HGV c3 c4 f3 b3 b4 hx32 hxor
  have c1 := HO.out.cellW d' (by rw [HL.out]; omega)
  have c2 := HO.out.cellW d (by rw [HL.out]; omega)
  have f1 := HO.out.freeW d'
  have b1 := HF.out d'
  have b2 := HF.out d
  have HZ := Lib.hid (wrap_sum (s0.getD d' 0) (s0.getD d 0))
  have ho1 := HO.out.put d' (by rw [HL.out]; omega) ((s0.getD d' 0 + s0.getD d 0) % 4294967296)
  have HF1 := Lib.hid (HF.out.set d' ((s0.getD d' 0 + s0.getD d 0) % 4294967296) (Nat.mod_lt _ (by omega)))
  have hl1 : (s0.set d' ((s0.getD d' 0 + s0.getD d 0) % 4294967296)).length = 16 := by rw [List.length_set]; exact HL.out
  have ht : turn s0 d' d b 12 = (s0.set d' ((s0.getD d' 0 + s0.getD d 0) % 4294967296)).set b (rotl ((s0.set d' ((s0.getD d' 0 + s0.getD d 0) % 4294967296)).getD b 0 ^^^ (s0.set d' ((s0.getD d' 0 + s0.getD d 0) % 4294967296)).getD d' 0) 12) := rfl
  generalize s0.set d' ((s0.getD d' 0 + s0.getD d 0) % 4294967296) = t at ho1 HF1 hl1 ht
  have HO1 := Lib.hid ho1
  have HL1 := Lib.hid hl1
  have HT := Lib.hid ht
  clear ho1 hl1 ht
  generalize s0.getD d' 0 = x at c1 b1 HZ HO1
  generalize s0.getD d 0 = y at c2 b2 HZ HO1
  go_wp2_with fail
  refine wp_region_still_tail 12 (by kernel_rfl) (by kernel_rfl) ?_
  simp only [List.take_succ_cons, List.take_zero, List.drop_succ_cons, List.drop_zero]
  repeat still_step
  refine wpStill_nil ?_
  change wpList _ _ _ _ _ w1.drew
  rw [HZ.out]
  go_wp2_with fail
  refine cut_world (fun X => OwnW X B g c t ∧ w1.grownBy X (some g)) ⟨HO1.out, grown_put _ _ _ _⟩ ?_
  rintro v ⟨hov, hgv⟩
  clear c1 c2 f1 b1 b2 HZ HO1
  have c3 := hov.cellW b (by rw [HL1.out]; omega)
  have c4 := hov.cellW d' (by rw [HL1.out]; omega)
  have f3 := hov.freeW b
  have b3 := HF1.out b
  have b4 := HF1.out d'
  have hx32 : t.getD b 0 ^^^ t.getD d' 0 < 2 ^ 32 := Nat.xor_lt_two_pow b3 b4
  have hxor := u32_xor_nat (t.getD b 0) (t.getD d' 0) b3 b4
  have ho2 := hov.put b (by rw [HL1.out]; omega) (rotl (t.getD b 0 ^^^ t.getD d' 0) 12)
  rw [← HT.out] at ho2
  have HO2 := Lib.hid ho2
  have HGV := Lib.hid (grown_trans HG.out hgv)
  have hf2 : Fits (turn s0 d' d b 12) := turn_fits HF.out _ _ _ _ (by omega)
  have hl2 : (turn s0 d' d b 12).length = 16 := by rw [turn_length]; exact HL.out
  clear hov hgv ho2 HT HF1 HL1 HO HF HL HG
  generalize t.getD b 0 = p at c3 b3 hx32 hxor HO2
  generalize t.getD d' 0 = q at c4 b4 hx32 hxor HO2
  generalize hs2 : turn s0 d' d b 12 = s2 at HO2 hf2 hl2
  have HS2 := Lib.hid hs2
  have HF := Lib.hid hf2
  have HL := Lib.hid hl2
  clear hs2 hf2 hl2
  refine wp_region_still_tail 13 (by kernel_rfl) (by kernel_rfl) ?_
  simp only [List.take_succ_cons, List.take_zero, List.drop_succ_cons, List.drop_zero]
  repeat still_step
  still_call (still_of (rotate_ref (p ^^^ q) 12 12 (by omega) hx32 _))
  repeat still_step
  refine wpStill_nil ?_
  change wpList _ _ _ _ _ v.drew
  go_wp2_with fail
  refine cut_world (fun X => OwnW X B g c s2 ∧ w.grownBy X (some g)) ⟨HO2.out, grown_trans HGV.out (grown_put _ _ _ _)⟩ ?_
  rintro w3 ⟨hov, hgv⟩
  have HO := Lib.hid hov
  have HG := Lib.hid hgv
  clear hov hgv HO2 HGV c3 c4 f3 b3 b4 hx32 hxor
  have c1 := HO.out.cellW a (by rw [HL.out]; omega)
  have c2 := HO.out.cellW b (by rw [HL.out]; omega)
  have f1 := HO.out.freeW a
  have b1 := HF.out a
  have b2 := HF.out b
  have HZ := Lib.hid (wrap_sum (s2.getD a 0) (s2.getD b 0))
  have ho1 := HO.out.put a (by rw [HL.out]; omega) ((s2.getD a 0 + s2.getD b 0) % 4294967296)
  have HF1 := Lib.hid (HF.out.set a ((s2.getD a 0 + s2.getD b 0) % 4294967296) (Nat.mod_lt _ (by omega)))
  have hl1 : (s2.set a ((s2.getD a 0 + s2.getD b 0) % 4294967296)).length = 16 := by rw [List.length_set]; exact HL.out
  have ht : turn s2 a b d 8 = (s2.set a ((s2.getD a 0 + s2.getD b 0) % 4294967296)).set d (rotl ((s2.set a ((s2.getD a 0 + s2.getD b 0) % 4294967296)).getD d 0 ^^^ (s2.set a ((s2.getD a 0 + s2.getD b 0) % 4294967296)).getD a 0) 8) := rfl
  generalize s2.set a ((s2.getD a 0 + s2.getD b 0) % 4294967296) = t at ho1 HF1 hl1 ht
  have HO1 := Lib.hid ho1
  have HL1 := Lib.hid hl1
  have HT := Lib.hid ht
  clear ho1 hl1 ht
  generalize s2.getD a 0 = x at c1 b1 HZ HO1
  generalize s2.getD b 0 = y at c2 b2 HZ HO1
  go_wp2_with fail
  refine wp_region_still_tail 12 (by kernel_rfl) (by kernel_rfl) ?_
  simp only [List.take_succ_cons, List.take_zero, List.drop_succ_cons, List.drop_zero]
  repeat still_step
  refine wpStill_nil ?_
  change wpList _ _ _ _ _ w3.drew
  rw [HZ.out]
  go_wp2_with fail
  refine cut_world (fun X => OwnW X B g c t ∧ w3.grownBy X (some g)) ⟨HO1.out, grown_put _ _ _ _⟩ ?_
  rintro v ⟨hov, hgv⟩
  clear c1 c2 f1 b1 b2 HZ HO1
  have c3 := hov.cellW d (by rw [HL1.out]; omega)
  have c4 := hov.cellW a (by rw [HL1.out]; omega)
  have f3 := hov.freeW d
  have b3 := HF1.out d
  have b4 := HF1.out a
  have hx32 : t.getD d 0 ^^^ t.getD a 0 < 2 ^ 32 := Nat.xor_lt_two_pow b3 b4
  have hxor := u32_xor_nat (t.getD d 0) (t.getD a 0) b3 b4
  have ho2 := hov.put d (by rw [HL1.out]; omega) (rotl (t.getD d 0 ^^^ t.getD a 0) 8)
  rw [← HT.out] at ho2
  have HO2 := Lib.hid ho2
  have HGV := Lib.hid (grown_trans HG.out hgv)
  have hf2 : Fits (turn s2 a b d 8) := turn_fits HF.out _ _ _ _ (by omega)
  have hl2 : (turn s2 a b d 8).length = 16 := by rw [turn_length]; exact HL.out
  clear hov hgv ho2 HT HF1 HL1 HO HF HL HG
  generalize t.getD d 0 = p at c3 b3 hx32 hxor HO2
  generalize t.getD a 0 = q at c4 b4 hx32 hxor HO2
  generalize hs4 : turn s2 a b d 8 = s4 at HO2 hf2 hl2
  have HS4 := Lib.hid hs4
  have HF := Lib.hid hf2
  have HL := Lib.hid hl2
  clear hs4 hf2 hl2
  refine wp_region_still_tail 13 (by kernel_rfl) (by kernel_rfl) ?_
  simp only [List.take_succ_cons, List.take_zero, List.drop_succ_cons, List.drop_zero]
  repeat still_step
  still_call (still_of (rotate_ref (p ^^^ q) 8 8 (by omega) hx32 _))
  repeat still_step
  refine wpStill_nil ?_
  change wpList _ _ _ _ _ v.drew
  go_wp2_with fail
  refine cut_world (fun X => OwnW X B g c s4 ∧ w.grownBy X (some g)) ⟨HO2.out, grown_trans HGV.out (grown_put _ _ _ _)⟩ ?_
  rintro w5 ⟨hov, hgv⟩
  have HO := Lib.hid hov
  have HG := Lib.hid hgv
  clear hov hgv HO2 HGV c3 c4 f3 b3 b4 hx32 hxor
  have c1 := HO.out.cellW d' (by rw [HL.out]; omega)
  have c2 := HO.out.cellW d (by rw [HL.out]; omega)
  have f1 := HO.out.freeW d'
  have b1 := HF.out d'
  have b2 := HF.out d
  have HZ := Lib.hid (wrap_sum (s4.getD d' 0) (s4.getD d 0))
  have ho1 := HO.out.put d' (by rw [HL.out]; omega) ((s4.getD d' 0 + s4.getD d 0) % 4294967296)
  have HF1 := Lib.hid (HF.out.set d' ((s4.getD d' 0 + s4.getD d 0) % 4294967296) (Nat.mod_lt _ (by omega)))
  have hl1 : (s4.set d' ((s4.getD d' 0 + s4.getD d 0) % 4294967296)).length = 16 := by rw [List.length_set]; exact HL.out
  have ht : turn s4 d' d b 7 = (s4.set d' ((s4.getD d' 0 + s4.getD d 0) % 4294967296)).set b (rotl ((s4.set d' ((s4.getD d' 0 + s4.getD d 0) % 4294967296)).getD b 0 ^^^ (s4.set d' ((s4.getD d' 0 + s4.getD d 0) % 4294967296)).getD d' 0) 7) := rfl
  generalize s4.set d' ((s4.getD d' 0 + s4.getD d 0) % 4294967296) = t at ho1 HF1 hl1 ht
  have HO1 := Lib.hid ho1
  have HL1 := Lib.hid hl1
  have HT := Lib.hid ht
  clear ho1 hl1 ht
  generalize s4.getD d' 0 = x at c1 b1 HZ HO1
  generalize s4.getD d 0 = y at c2 b2 HZ HO1
  go_wp2_with fail
  refine wp_region_still_tail 12 (by kernel_rfl) (by kernel_rfl) ?_
  simp only [List.take_succ_cons, List.take_zero, List.drop_succ_cons, List.drop_zero]
  repeat still_step
  refine wpStill_nil ?_
  change wpList _ _ _ _ _ w5.drew
  rw [HZ.out]
  go_wp2_with fail
  refine cut_world (fun X => OwnW X B g c t ∧ w5.grownBy X (some g)) ⟨HO1.out, grown_put _ _ _ _⟩ ?_
  rintro v ⟨hov, hgv⟩
  clear c1 c2 f1 b1 b2 HZ HO1
  have c3 := hov.cellW b (by rw [HL1.out]; omega)
  have c4 := hov.cellW d' (by rw [HL1.out]; omega)
  have f3 := hov.freeW b
  have b3 := HF1.out b
  have b4 := HF1.out d'
  have hx32 : t.getD b 0 ^^^ t.getD d' 0 < 2 ^ 32 := Nat.xor_lt_two_pow b3 b4
  have hxor := u32_xor_nat (t.getD b 0) (t.getD d' 0) b3 b4
  have ho2 := hov.put b (by rw [HL1.out]; omega) (rotl (t.getD b 0 ^^^ t.getD d' 0) 7)
  rw [← HT.out] at ho2
  have HO2 := Lib.hid ho2
  have HGV := Lib.hid (grown_trans HG.out hgv)
  have hf2 : Fits (turn s4 d' d b 7) := turn_fits HF.out _ _ _ _ (by omega)
  have hl2 : (turn s4 d' d b 7).length = 16 := by rw [turn_length]; exact HL.out
  clear hov hgv ho2 HT HF1 HL1 HO HF HL HG
  generalize t.getD b 0 = p at c3 b3 hx32 hxor HO2
  generalize t.getD d' 0 = q at c4 b4 hx32 hxor HO2
  generalize hs6 : turn s4 d' d b 7 = s6 at HO2 hf2 hl2
  have HS6 := Lib.hid hs6
  have HF := Lib.hid hf2
  have HL := Lib.hid hl2
  clear hs6 hf2 hl2
  refine wp_region_still_tail 13 (by kernel_rfl) (by kernel_rfl) ?_
  simp only [List.take_succ_cons, List.take_zero, List.drop_succ_cons, List.drop_zero]
  repeat still_step
  still_call (still_of (rotate_ref (p ^^^ q) 7 7 (by omega) hx32 _))
  repeat still_step
  refine wpStill_nil ?_
  change wpList _ _ _ _ _ v.drew
  go_wp2_with fail
  go_end0
  refine ⟨rfl, ?_, grown_trans HGV.out (grown_put _ _ _ _)⟩
  rw [show quarter s a b d' d = s6 by unfold quarter; rw [HS0.out, HS2.out, HS4.out, HS6.out]]
  exact HO2.out

end Ref
end Go.Proofs.Ytdffbjlbhjppeaa
