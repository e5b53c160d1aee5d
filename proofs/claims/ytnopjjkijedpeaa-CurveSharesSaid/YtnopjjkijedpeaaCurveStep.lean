/- The call step of package curve. -/
import Derived.Test.YtnopjjkijedpeaaPair
import Derived.Test.YtnopjjkijedpeaaFieldTimes
namespace Go.Proofs.Ytnopjjkijedpeaa
namespace Curve
open Go.ChangeShapes Go.WideShapes Go.ChangeAt Go.RowKit
open Num Mem Words Radix FieldN Chacha Quiet Go.Proofs.Ytnopjjkijedpeaa.Field Edwards


/-- four elements that stay while the results are made -/
def SL (b1 b2 b3 b4 : Nat) (c1 c2 c3 c4 : Array Value) (X : World) : Prop := Whole X b1 38 c1 ∧ Whole X b2 38 c2 ∧ Whole X b3 38 c3 ∧ Whole X b4 38 c4
theorem sl_below {b1 b2 b3 b4 : Nat} {c1 c2 c3 c4 : Array Value} {X Y : World} (h : SL b1 b2 b3 b4 c1 c2 c3 c4 X) (hb : Below X.heap.size X Y) : SL b1 b2 b3 b4 c1 c2 c3 c4 Y :=
  ⟨h.1.below hb h.1.lt, h.2.1.below hb h.2.1.lt, h.2.2.1.below hb h.2.2.1.lt, h.2.2.2.below hb h.2.2.2.lt⟩
theorem sl_set {b1 b2 b3 b4 g : Nat} {c1 c2 c3 c4 : Array Value} {X : World} (h : SL b1 b2 b3 b4 c1 c2 c3 c4 X) (h1 : b1 ≠ g) (h2 : b2 ≠ g) (h3 : b3 ≠ g) (h4 : b4 ≠ g) (cs : Array Value) : SL b1 b2 b3 b4 c1 c2 c3 c4 (X.setRow g cs) :=
  ⟨Whole.farRow h.1 h1 cs, Whole.farRow h.2.1 h2 cs, Whole.farRow h.2.2.1 h3 cs, Whole.farRow h.2.2.2 h4 cs⟩

set_option maxRecDepth 100000 in
set_option maxHeartbeats 4000000 in
theorem step_any (x x2 z2 x3 z3 : Fin P) (f2 q2 f3 q3 : Nat → Nat) (h2 : ∀ i, f2 i < 256) (i2 : ∀ i, q2 i < 256) (h3 : ∀ i, f3 i < 256) (i3 : ∀ i, q3 i < 256) (t2 : tk f2 = x2.val) (u2 : tk q2 = z2.val) (t3 : tk f3 = x3.val) (u3 : tk q3 = z3.val) (w : World) :
    Calls Try.prog 56 #[.agg (er x), .agg (pw2 f2 q2), .agg (pw2 f3 q3)] w fun e w' => e = .returned (.tuple #[.agg (pw2 (byteAt (stepF kP x ⟨x2, z2, x3, z3⟩).x2.val) (byteAt (stepF kP x ⟨x2, z2, x3, z3⟩).z2.val)), .agg (pw2 (byteAt (stepF kP x ⟨x2, z2, x3, z3⟩).x3.val) (byteAt (stepF kP x ⟨x2, z2, x3, z3⟩).z3.val))]) ∧ Below w.heap.size w w' := by
  have T2 := Lib.hid (takeF h2 t2)
  have U2 := Lib.hid (takeF i2 u2)
  have T3 := Lib.hid (takeF h3 t3)
  have U3 := Lib.hid (takeF i3 u3)
  unfold stepF
  simp only []
  obtain ⟨a, ha⟩ : ∃ a, a = x2 + z2 := ⟨_, rfl⟩
  obtain ⟨b, hb⟩ : ∃ a, a = x2 - z2 := ⟨_, rfl⟩
  obtain ⟨c, hc⟩ : ∃ a, a = x3 + z3 := ⟨_, rfl⟩
  obtain ⟨d, hd⟩ : ∃ a, a = x3 - z3 := ⟨_, rfl⟩
  rw [← ha, ← hb, ← hc, ← hd]
  obtain ⟨da, hda⟩ : ∃ v, v = d * a := ⟨_, rfl⟩
  obtain ⟨cb, hcb⟩ : ∃ v, v = c * b := ⟨_, rfl⟩
  rw [← hda, ← hcb]
  obtain ⟨su, hsu⟩ : ∃ v, v = da + cb := ⟨_, rfl⟩
  obtain ⟨re, hre⟩ : ∃ v, v = da - cb := ⟨_, rfl⟩
  rw [← hsu, ← hre]
  obtain ⟨rr, hrr⟩ : ∃ v, v = re * re := ⟨_, rfl⟩
  obtain ⟨nx3, hx3⟩ : ∃ v, v = su * su := ⟨_, rfl⟩
  rw [← hrr, ← hx3]
  obtain ⟨nz3, hz3⟩ : ∃ v, v = x * rr := ⟨_, rfl⟩
  obtain ⟨aa, haa⟩ : ∃ v, v = a * a := ⟨_, rfl⟩
  obtain ⟨bb, hbb⟩ : ∃ v, v = b * b := ⟨_, rfl⟩
  rw [← hz3, ← haa, ← hbb]
  obtain ⟨e, he⟩ : ∃ v, v = aa - bb := ⟨_, rfl⟩
  obtain ⟨nx2, hx2⟩ : ∃ v, v = aa * bb := ⟨_, rfl⟩
  rw [← he, ← hx2]
  obtain ⟨ke, hke⟩ : ∃ v, v = kP * e := ⟨_, rfl⟩
  rw [← hke]
  obtain ⟨ak, hak⟩ : ∃ v, v = aa + ke := ⟨_, rfl⟩
  rw [← hak]
  obtain ⟨nz2, hz2⟩ : ∃ v, v = e * ak := ⟨_, rfl⟩
  rw [← hz2]
  have CA := Lib.hid (plusF x2 z2)
  have CB := Lib.hid (minusF x2 z2)
  have CC' := Lib.hid (plusF x3 z3)
  have CD := Lib.hid (minusF x3 z3)
  have CDA := Lib.hid (timesF d a)
  have CCB := Lib.hid (timesF c b)
  have CSU := Lib.hid (plusF da cb)
  have CRE := Lib.hid (minusF da cb)
  have CRR := Lib.hid (timesF re re)
  have CX3 := Lib.hid (timesF su su)
  have CZ3 := Lib.hid (timesF x rr)
  have CAA := Lib.hid (timesF a a)
  have CBB := Lib.hid (timesF b b)
  have CE := Lib.hid (minusF aa bb)
  have CX2 := Lib.hid (timesF aa bb)
  have CKE := Lib.hid (littleF e)
  have CAK := Lib.hid (plusF aa ke)
  have CZ2 := Lib.hid (timesF e ak)
  have CB8 := Lib.hid (bytesF nx2)
  have CB9 := Lib.hid (bytesF nz2)
  have CB10 := Lib.hid (bytesF nx3)
  have CB11 := Lib.hid (bytesF nz3)
  rw [← ha] at CA
  rw [← hb] at CB
  rw [← hc] at CC'
  rw [← hd] at CD
  rw [← hda] at CDA
  rw [← hcb] at CCB
  rw [← hsu] at CSU
  rw [← hre] at CRE
  rw [← hrr] at CRR
  rw [← hx3] at CX3
  rw [← hz3] at CZ3
  rw [← haa] at CAA
  rw [← hbb] at CBB
  rw [← he] at CE
  rw [← hx2] at CX2
  rw [← hke] at CKE
  rw [← hak] at CAK
  rw [← hz2] at CZ2
  clear ha hb hc hd hda hcb hsu hre hrr hx3 hz3 haa hbb he hx2 hke hak hz2 h2 i2 h3 i3 t2 u2 t3 u3
  go_enter Try.func56, Try.ntmps56
  go_upto_region 1 with fail
  refine cut_world (fun W => Whole W w.heap.size 38 (er x) ∧ Whole W (w.heap.size + 1) 78 (pw2 f2 q2) ∧ Whole W (w.heap.size + 1 + 1) 78 (pw2 f3 q3) ∧ Whole W (w.heap.size + 1 + 1 + 1) 78 (pw2 (fun _ => 0) (fun _ => 0)) ∧ Whole W (w.heap.size + 1 + 1 + 1 + 1) 78 (pw2 (fun _ => 0) (fun _ => 0)) ∧ Below w.heap.size w W) ⟨?_, ?_, ?_, ?_, ?_, ?_⟩ ?_
  · exact ((((whole_new _ _ rfl).alloc _).alloc _).alloc _).alloc _
  · exact (((whole_new _ _ (by simp)).alloc _).alloc _).alloc _
  · exact ((whole_new _ _ (by simp)).alloc _).alloc _
  · exact (whole_new _ _ (by simp)).alloc _
  · exact whole_new _ _ (by simp)
  · exact below_alloc (below_alloc (below_alloc (below_alloc (below_alloc (Below.refl _ _) _) _) _) _) _
  rintro W ⟨k3, k4, k5, k6, k7, kb⟩
  have H3 := Lib.hid k3
  have H4 := Lib.hid k4
  have H5 := Lib.hid k5
  have H6 := Lib.hid k6
  have H7 := Lib.hid k7
  have KB := Lib.hid kb
  clear k3 k4 k5 k6 k7 kb
  generalize hB : w.heap.size = B at H3 H4 H5 H6 H7 KB ⊢
  refine region_drew (fun _ => True) (by kernel_rfl) trivial ?_
  intro _
  have hS : Below W.heap.size W W.drew := below_drewN (Below.refl _ _) 1
  refine Float.float (W := W) [(0, 23, .is (.pointer (some ⟨B + 1, 0, none⟩))), (1, 24, .is (B32 f2)), (2, 25, .is (.agg (er x2))), (3, 26, .is (.pointer (some ⟨B + 1, 32, none⟩))), (4, 27, .is (B32 q2)), (5, 28, .is (.agg (er z2))), (6, 8, .row 38 zr), (7, 9, .row 38 zr)] [0, 1, 2, 3, 4, 5, 6, 7] 2 rfl (by rfl) (by kernel_rfl) (by kernel_rfl) (by kernel_rfl) (by kernel_rfl) (by kernel_rfl) (fun γ => rfl) hS (fun _ _ => trivial) ?_ ?_
  · intro γ
    simp only [Float.puts, Act.put, List.setIfInBounds_toArray, List.set_cons_zero, List.set_cons_succ]
    refine ⟨?_, ?_, ?_, ?_, ?_, ?_, ?_, ?_, trivial⟩
    · exact ⟨_, _, rfl, Float.does_take (by intro w _; go_simp; try with_reducible rfl)⟩
    · exact ⟨_, _, rfl, Float.does_take (fun w hw => run_part 22 (.tmp 23) rfl (B + 1) 0 rfl f2 (pair_first (H4.out.below hw H4.out.lt)) rfl rfl (by kernel_rfl))⟩
    · exact ⟨_, _, rfl, Float.does_call 19 (#[B32 f2]) (by intro w; go_simp; try with_reducible rfl) (fun w hw => T2.out w)⟩
    · exact ⟨_, _, rfl, Float.does_take (by intro w _; go_simp; try with_reducible rfl)⟩
    · exact ⟨_, _, rfl, Float.does_take (fun w hw => run_part 22 (.tmp 26) rfl (B + 1) 32 rfl q2 (pair_second (H4.out.below hw H4.out.lt)) rfl rfl (by kernel_rfl))⟩
    · exact ⟨_, _, rfl, Float.does_call 19 (#[B32 q2]) (by intro w; go_simp; try with_reducible rfl) (fun w hw => U2.out w)⟩
    · exact ⟨_, _, rfl, fun w => by go_simp; try rfl⟩
    · exact ⟨_, _, rfl, fun w => by go_simp; try rfl⟩
  · intro γ v hS hrows hne
    simp only [Float.puts, Act.put, List.setIfInBounds_toArray, List.set_cons_zero, List.set_cons_succ]
    obtain ⟨⟨hge8, hg8⟩, ⟨hge9, hg9⟩, -⟩ := hrows
    have hne8_9 := hne 6 7 rfl rfl (by decide) (by decide) (by decide)
    clear hne
    generalize γ 6 = b8 at *
    have Hg8 := Lib.hid hg8
    clear hg8
    generalize γ 7 = b9 at *
    have Hg9 := Lib.hid hg9
    clear hg9
    clear γ
    have JH3 := Lib.hid (H3.out.below hS H3.out.lt)
    have lt_H3 := H3.out.lt
    have JH4 := Lib.hid (H4.out.below hS H4.out.lt)
    have lt_H4 := H4.out.lt
    have JH5 := Lib.hid (H5.out.below hS H5.out.lt)
    have lt_H5 := H5.out.lt
    have JH6 := Lib.hid (H6.out.below hS H6.out.lt)
    have lt_H6 := H6.out.lt
    have JH7 := Lib.hid (H7.out.below hS H7.out.lt)
    have lt_H7 := H7.out.lt
    have o_B1111_b8 : B + 1 + 1 + 1 + 1 < b8 := by omega
    have o_B1111_b9 : B + 1 + 1 + 1 + 1 < b9 := by omega
    have JB := Lib.hid (KB.out.trans (hS.mono (by omega)))
    refine alone 8 rfl (by kernel_rfl) (by rfl) ?_
    intro K hK
    refine wp_store_row 38 (.tmp 8) (.tmp 25) rfl (b8) (er x2) (by rfl) (by rfl) 38 _ Hg8.out (by rw [er_size]; kernel_rfl) (by rw [zr_size, er_size]) (er_one _) ?_
    refine hK.out _ _ trivial ?_
    clear hK K
    try simp only [Act.put]
    replace JH3 := Lib.hid (Whole.farRow JH3.out (g := b8) (by omega) (er x2))
    replace JH5 := Lib.hid (Whole.farRow JH5.out (g := b8) (by omega) (er x2))
    replace JH6 := Lib.hid (Whole.farRow JH6.out (g := b8) (by omega) (er x2))
    replace JH7 := Lib.hid (Whole.farRow JH7.out (g := b8) (by omega) (er x2))
    replace Hg9 := Lib.hid (Whole.farRow Hg9.out (g := b8) (by omega) (er x2))
    replace JB := Lib.hid (below_setRow JB.out (by omega) (g := b8) (er x2))
    have SH8 := Lib.hid (setRow_heap _ _ _ (er x2) _ _ Hg8.out)
    clear Hg8
    refine alone 9 rfl (by kernel_rfl) (by rfl) ?_
    intro K hK
    refine wp_store_row 38 (.tmp 9) (.tmp 28) rfl (b9) (er z2) (by rfl) (by rfl) 38 _ Hg9.out (by rw [er_size]; kernel_rfl) (by rw [zr_size, er_size]) (er_one _) ?_
    refine hK.out _ _ trivial ?_
    clear hK K
    try simp only [Act.put]
    replace JH3 := Lib.hid (Whole.farRow JH3.out (g := b9) (by omega) (er z2))
    replace JH5 := Lib.hid (Whole.farRow JH5.out (g := b9) (by omega) (er z2))
    replace JH6 := Lib.hid (Whole.farRow JH6.out (g := b9) (by omega) (er z2))
    replace JH7 := Lib.hid (Whole.farRow JH7.out (g := b9) (by omega) (er z2))
    replace SH8 := Lib.hid (Whole.farRow SH8.out (g := b9) (by omega) (er z2))
    replace JB := Lib.hid (below_setRow JB.out (by omega) (g := b9) (er z2))
    have SH9 := Lib.hid (setRow_heap _ _ _ (er z2) _ _ Hg9.out)
    clear Hg9
    refine region_end (by kernel_rfl) ?_
    refine cut_post (F := Exit.then _ _) (fun X => Whole X (B) 38 (er x) ∧ Whole X (B + 1 + 1) 78 (pw2 f3 q3) ∧ Whole X (B + 1 + 1 + 1) 78 (pw2 (fun _ => 0) (fun _ => 0)) ∧ Whole X (B + 1 + 1 + 1 + 1) 78 (pw2 (fun _ => 0) (fun _ => 0)) ∧ Whole X (b8) 38 (er x2) ∧ Whole X (b9) 38 (er z2) ∧ Below B w X) ⟨JH3.out, JH5.out, JH6.out, JH7.out, SH8.out, SH9.out, JB.out⟩ ?_
    clear JB hS KB JH3 JH4 JH5 JH6 JH7 SH8 SH9 H3 H4 H5 H6 H7 lt_H3 lt_H4 lt_H5 lt_H6 lt_H7 hge8 hge9
    rintro X1 ⟨kH3, kH5, kH6, kH7, kH8, kH9, kb⟩
    have H3 := Lib.hid kH3
    have H5 := Lib.hid kH5
    have H6 := Lib.hid kH6
    have H7 := Lib.hid kH7
    have H8 := Lib.hid kH8
    have H9 := Lib.hid kH9
    have KB := Lib.hid kb
    clear kb kH3 kH5 kH6 kH7 kH8 kH9
    go_wp2_with fail
    refine region_drew (fun _ => True) (by kernel_rfl) trivial ?_
    intro _
    have hS : Below X1.heap.size X1 X1.drew := below_drewN (Below.refl _ _) 1
    refine Float.float (W := X1) [(0, 29, .is (.pointer (some ⟨B + 1 + 1, 0, none⟩))), (1, 30, .is (B32 f3)), (2, 31, .is (.agg (er x3))), (3, 32, .is (.pointer (some ⟨B + 1 + 1, 32, none⟩))), (4, 33, .is (B32 q3)), (5, 34, .is (.agg (er z3))), (6, 10, .row 38 zr), (7, 11, .row 38 zr)] [0, 1, 2, 3, 4, 5, 6, 7] 2 rfl (by rfl) (by kernel_rfl) (by kernel_rfl) (by kernel_rfl) (by kernel_rfl) (by kernel_rfl) (fun γ => rfl) hS (fun _ _ => trivial) ?_ ?_
    · intro γ
      simp only [Float.puts, Act.put, List.setIfInBounds_toArray, List.set_cons_zero, List.set_cons_succ]
      refine ⟨?_, ?_, ?_, ?_, ?_, ?_, ?_, ?_, trivial⟩
      · exact ⟨_, _, rfl, Float.does_take (by intro w _; go_simp; try with_reducible rfl)⟩
      · exact ⟨_, _, rfl, Float.does_take (fun w hw => run_part 22 (.tmp 29) rfl (B + 1 + 1) 0 rfl f3 (pair_first (H5.out.below hw H5.out.lt)) rfl rfl (by kernel_rfl))⟩
      · exact ⟨_, _, rfl, Float.does_call 19 (#[B32 f3]) (by intro w; go_simp; try with_reducible rfl) (fun w hw => T3.out w)⟩
      · exact ⟨_, _, rfl, Float.does_take (by intro w _; go_simp; try with_reducible rfl)⟩
      · exact ⟨_, _, rfl, Float.does_take (fun w hw => run_part 22 (.tmp 32) rfl (B + 1 + 1) 32 rfl q3 (pair_second (H5.out.below hw H5.out.lt)) rfl rfl (by kernel_rfl))⟩
      · exact ⟨_, _, rfl, Float.does_call 19 (#[B32 q3]) (by intro w; go_simp; try with_reducible rfl) (fun w hw => U3.out w)⟩
      · exact ⟨_, _, rfl, fun w => by go_simp; try rfl⟩
      · exact ⟨_, _, rfl, fun w => by go_simp; try rfl⟩
    · intro γ v hS hrows hne
      simp only [Float.puts, Act.put, List.setIfInBounds_toArray, List.set_cons_zero, List.set_cons_succ]
      obtain ⟨⟨hge10, hg10⟩, ⟨hge11, hg11⟩, -⟩ := hrows
      have hne10_11 := hne 6 7 rfl rfl (by decide) (by decide) (by decide)
      clear hne
      generalize γ 6 = b10 at *
      have Hg10 := Lib.hid hg10
      clear hg10
      generalize γ 7 = b11 at *
      have Hg11 := Lib.hid hg11
      clear hg11
      clear γ
      have JH3 := Lib.hid (H3.out.below hS H3.out.lt)
      have lt_H3 := H3.out.lt
      have JH5 := Lib.hid (H5.out.below hS H5.out.lt)
      have lt_H5 := H5.out.lt
      have JH6 := Lib.hid (H6.out.below hS H6.out.lt)
      have lt_H6 := H6.out.lt
      have JH7 := Lib.hid (H7.out.below hS H7.out.lt)
      have lt_H7 := H7.out.lt
      have JH8 := Lib.hid (H8.out.below hS H8.out.lt)
      have lt_H8 := H8.out.lt
      have JH9 := Lib.hid (H9.out.below hS H9.out.lt)
      have lt_H9 := H9.out.lt
      have o_b8_b10 : b8 < b10 := by omega
      have o_b8_b11 : b8 < b11 := by omega
      have o_b9_b10 : b9 < b10 := by omega
      have o_b9_b11 : b9 < b11 := by omega
      have o_B1111_b10 : B + 1 + 1 + 1 + 1 < b10 := by omega
      have o_B1111_b11 : B + 1 + 1 + 1 + 1 < b11 := by omega
      have JB := Lib.hid (KB.out.trans (hS.mono (by omega)))
      refine alone 8 rfl (by kernel_rfl) (by rfl) ?_
      intro K hK
      refine wp_store_row 38 (.tmp 10) (.tmp 31) rfl (b10) (er x3) (by rfl) (by rfl) 38 _ Hg10.out (by rw [er_size]; kernel_rfl) (by rw [zr_size, er_size]) (er_one _) ?_
      refine hK.out _ _ trivial ?_
      clear hK K
      try simp only [Act.put]
      replace JH3 := Lib.hid (Whole.farRow JH3.out (g := b10) (by omega) (er x3))
      replace JH6 := Lib.hid (Whole.farRow JH6.out (g := b10) (by omega) (er x3))
      replace JH7 := Lib.hid (Whole.farRow JH7.out (g := b10) (by omega) (er x3))
      replace JH8 := Lib.hid (Whole.farRow JH8.out (g := b10) (by omega) (er x3))
      replace JH9 := Lib.hid (Whole.farRow JH9.out (g := b10) (by omega) (er x3))
      replace Hg11 := Lib.hid (Whole.farRow Hg11.out (g := b10) (by omega) (er x3))
      replace JB := Lib.hid (below_setRow JB.out (by omega) (g := b10) (er x3))
      have SH10 := Lib.hid (setRow_heap _ _ _ (er x3) _ _ Hg10.out)
      clear Hg10
      refine alone 9 rfl (by kernel_rfl) (by rfl) ?_
      intro K hK
      refine wp_store_row 38 (.tmp 11) (.tmp 34) rfl (b11) (er z3) (by rfl) (by rfl) 38 _ Hg11.out (by rw [er_size]; kernel_rfl) (by rw [zr_size, er_size]) (er_one _) ?_
      refine hK.out _ _ trivial ?_
      clear hK K
      try simp only [Act.put]
      replace JH3 := Lib.hid (Whole.farRow JH3.out (g := b11) (by omega) (er z3))
      replace JH6 := Lib.hid (Whole.farRow JH6.out (g := b11) (by omega) (er z3))
      replace JH7 := Lib.hid (Whole.farRow JH7.out (g := b11) (by omega) (er z3))
      replace JH8 := Lib.hid (Whole.farRow JH8.out (g := b11) (by omega) (er z3))
      replace JH9 := Lib.hid (Whole.farRow JH9.out (g := b11) (by omega) (er z3))
      replace SH10 := Lib.hid (Whole.farRow SH10.out (g := b11) (by omega) (er z3))
      replace JB := Lib.hid (below_setRow JB.out (by omega) (g := b11) (er z3))
      have SH11 := Lib.hid (setRow_heap _ _ _ (er z3) _ _ Hg11.out)
      clear Hg11
      refine region_end (by kernel_rfl) ?_
      refine cut_post (F := Exit.then _ _) (fun X => Whole X (B) 38 (er x) ∧ Whole X (B + 1 + 1 + 1) 78 (pw2 (fun _ => 0) (fun _ => 0)) ∧ Whole X (B + 1 + 1 + 1 + 1) 78 (pw2 (fun _ => 0) (fun _ => 0)) ∧ Whole X (b8) 38 (er x2) ∧ Whole X (b9) 38 (er z2) ∧ Whole X (b10) 38 (er x3) ∧ Whole X (b11) 38 (er z3) ∧ Below B w X) ⟨JH3.out, JH6.out, JH7.out, JH8.out, JH9.out, SH10.out, SH11.out, JB.out⟩ ?_
      clear JB hS KB JH3 JH5 JH6 JH7 JH8 JH9 SH10 SH11 H3 H5 H6 H7 H8 H9 lt_H3 lt_H5 lt_H6 lt_H7 lt_H8 lt_H9 hge10 hge11
      rintro X2 ⟨kH3, kH6, kH7, kH8, kH9, kH10, kH11, kb⟩
      have H3 := Lib.hid kH3
      have H6 := Lib.hid kH6
      have H7 := Lib.hid kH7
      have H8 := Lib.hid kH8
      have H9 := Lib.hid kH9
      have H10 := Lib.hid kH10
      have H11 := Lib.hid kH11
      have KB := Lib.hid kb
      clear kb kH3 kH6 kH7 kH8 kH9 kH10 kH11
      go_wp2_with fail
      refine region_drew (fun _ => True) (by kernel_rfl) trivial ?_
      intro _
      have hS : Below X2.heap.size X2 X2.drew := below_drewN (Below.refl _ _) 1
      refine Float.float (W := X2) [(0, 35, .is (.agg (er x2))), (1, 36, .is (.agg (er z2))), (2, 37, .is (.agg (er a))), (3, 38, .is (.agg (er x2))), (4, 39, .is (.agg (er z2))), (5, 40, .is (.agg (er b))), (6, 12, .row 38 zr), (7, 13, .row 38 zr)] [0, 1, 2, 3, 4, 5, 6, 7] 2 rfl (by rfl) (by kernel_rfl) (by kernel_rfl) (by kernel_rfl) (by kernel_rfl) (by kernel_rfl) (fun γ => rfl) hS (fun _ _ => trivial) ?_ ?_
      · intro γ
        simp only [Float.puts, Act.put, List.setIfInBounds_toArray, List.set_cons_zero, List.set_cons_succ]
        refine ⟨?_, ?_, ?_, ?_, ?_, ?_, ?_, ?_, trivial⟩
        · exact ⟨_, _, rfl, Float.does_take (fun w hw => run_load_op 38 (.tmp 8) rfl (b8) rfl (H8.out.below hw H8.out.lt) rfl rfl (by rw [er_size]; kernel_rfl))⟩
        · exact ⟨_, _, rfl, Float.does_take (fun w hw => run_load_op 38 (.tmp 9) rfl (b9) rfl (H9.out.below hw H9.out.lt) rfl rfl (by rw [er_size]; kernel_rfl))⟩
        · exact ⟨_, _, rfl, Float.does_call 20 (#[.agg (er x2), .agg (er z2)]) (by intro w; go_simp; try with_reducible rfl) (fun w hw => CA.out w)⟩
        · exact ⟨_, _, rfl, Float.does_take (fun w hw => run_load_op 38 (.tmp 8) rfl (b8) rfl (H8.out.below hw H8.out.lt) rfl rfl (by rw [er_size]; kernel_rfl))⟩
        · exact ⟨_, _, rfl, Float.does_take (fun w hw => run_load_op 38 (.tmp 9) rfl (b9) rfl (H9.out.below hw H9.out.lt) rfl rfl (by rw [er_size]; kernel_rfl))⟩
        · exact ⟨_, _, rfl, Float.does_call 21 (#[.agg (er x2), .agg (er z2)]) (by intro w; go_simp; try with_reducible rfl) (fun w hw => CB.out w)⟩
        · exact ⟨_, _, rfl, fun w => by go_simp; try rfl⟩
        · exact ⟨_, _, rfl, fun w => by go_simp; try rfl⟩
      · intro γ v hS hrows hne
        simp only [Float.puts, Act.put, List.setIfInBounds_toArray, List.set_cons_zero, List.set_cons_succ]
        obtain ⟨⟨hge12, hg12⟩, ⟨hge13, hg13⟩, -⟩ := hrows
        have hne12_13 := hne 6 7 rfl rfl (by decide) (by decide) (by decide)
        clear hne
        generalize γ 6 = b12 at *
        have Hg12 := Lib.hid hg12
        clear hg12
        generalize γ 7 = b13 at *
        have Hg13 := Lib.hid hg13
        clear hg13
        clear γ
        have JH3 := Lib.hid (H3.out.below hS H3.out.lt)
        have lt_H3 := H3.out.lt
        have JH6 := Lib.hid (H6.out.below hS H6.out.lt)
        have lt_H6 := H6.out.lt
        have JH7 := Lib.hid (H7.out.below hS H7.out.lt)
        have lt_H7 := H7.out.lt
        have JH8 := Lib.hid (H8.out.below hS H8.out.lt)
        have lt_H8 := H8.out.lt
        have JH9 := Lib.hid (H9.out.below hS H9.out.lt)
        have lt_H9 := H9.out.lt
        have JH10 := Lib.hid (H10.out.below hS H10.out.lt)
        have lt_H10 := H10.out.lt
        have JH11 := Lib.hid (H11.out.below hS H11.out.lt)
        have lt_H11 := H11.out.lt
        have o_b10_b12 : b10 < b12 := by omega
        have o_b10_b13 : b10 < b13 := by omega
        have o_b11_b12 : b11 < b12 := by omega
        have o_b11_b13 : b11 < b13 := by omega
        have o_b8_b12 : b8 < b12 := by omega
        have o_b8_b13 : b8 < b13 := by omega
        have o_b9_b12 : b9 < b12 := by omega
        have o_b9_b13 : b9 < b13 := by omega
        have JB := Lib.hid (KB.out.trans (hS.mono (by omega)))
        refine alone 8 rfl (by kernel_rfl) (by rfl) ?_
        intro K hK
        refine wp_store_row 38 (.tmp 12) (.tmp 37) rfl (b12) (er a) (by rfl) (by rfl) 38 _ Hg12.out (by rw [er_size]; kernel_rfl) (by rw [zr_size, er_size]) (er_one _) ?_
        refine hK.out _ _ trivial ?_
        clear hK K
        try simp only [Act.put]
        replace JH3 := Lib.hid (Whole.farRow JH3.out (g := b12) (by omega) (er a))
        replace JH6 := Lib.hid (Whole.farRow JH6.out (g := b12) (by omega) (er a))
        replace JH7 := Lib.hid (Whole.farRow JH7.out (g := b12) (by omega) (er a))
        replace JH8 := Lib.hid (Whole.farRow JH8.out (g := b12) (by omega) (er a))
        replace JH9 := Lib.hid (Whole.farRow JH9.out (g := b12) (by omega) (er a))
        replace JH10 := Lib.hid (Whole.farRow JH10.out (g := b12) (by omega) (er a))
        replace JH11 := Lib.hid (Whole.farRow JH11.out (g := b12) (by omega) (er a))
        replace Hg13 := Lib.hid (Whole.farRow Hg13.out (g := b12) (by omega) (er a))
        replace JB := Lib.hid (below_setRow JB.out (by omega) (g := b12) (er a))
        have SH12 := Lib.hid (setRow_heap _ _ _ (er a) _ _ Hg12.out)
        clear Hg12
        refine alone 9 rfl (by kernel_rfl) (by rfl) ?_
        intro K hK
        refine wp_store_row 38 (.tmp 13) (.tmp 40) rfl (b13) (er b) (by rfl) (by rfl) 38 _ Hg13.out (by rw [er_size]; kernel_rfl) (by rw [zr_size, er_size]) (er_one _) ?_
        refine hK.out _ _ trivial ?_
        clear hK K
        try simp only [Act.put]
        replace JH3 := Lib.hid (Whole.farRow JH3.out (g := b13) (by omega) (er b))
        replace JH6 := Lib.hid (Whole.farRow JH6.out (g := b13) (by omega) (er b))
        replace JH7 := Lib.hid (Whole.farRow JH7.out (g := b13) (by omega) (er b))
        replace JH8 := Lib.hid (Whole.farRow JH8.out (g := b13) (by omega) (er b))
        replace JH9 := Lib.hid (Whole.farRow JH9.out (g := b13) (by omega) (er b))
        replace JH10 := Lib.hid (Whole.farRow JH10.out (g := b13) (by omega) (er b))
        replace JH11 := Lib.hid (Whole.farRow JH11.out (g := b13) (by omega) (er b))
        replace SH12 := Lib.hid (Whole.farRow SH12.out (g := b13) (by omega) (er b))
        replace JB := Lib.hid (below_setRow JB.out (by omega) (g := b13) (er b))
        have SH13 := Lib.hid (setRow_heap _ _ _ (er b) _ _ Hg13.out)
        clear Hg13
        refine region_end (by kernel_rfl) ?_
        refine cut_post (F := Exit.then _ _) (fun X => Whole X (B) 38 (er x) ∧ Whole X (B + 1 + 1 + 1) 78 (pw2 (fun _ => 0) (fun _ => 0)) ∧ Whole X (B + 1 + 1 + 1 + 1) 78 (pw2 (fun _ => 0) (fun _ => 0)) ∧ Whole X (b8) 38 (er x2) ∧ Whole X (b9) 38 (er z2) ∧ Whole X (b10) 38 (er x3) ∧ Whole X (b11) 38 (er z3) ∧ Whole X (b12) 38 (er a) ∧ Whole X (b13) 38 (er b) ∧ Below B w X) ⟨JH3.out, JH6.out, JH7.out, JH8.out, JH9.out, JH10.out, JH11.out, SH12.out, SH13.out, JB.out⟩ ?_
        clear JB hS KB JH3 JH6 JH7 JH8 JH9 JH10 JH11 SH12 SH13 H3 H6 H7 H8 H9 H10 H11 lt_H3 lt_H6 lt_H7 lt_H8 lt_H9 lt_H10 lt_H11 hge12 hge13
        rintro X3 ⟨kH3, kH6, kH7, kH8, kH9, kH10, kH11, kH12, kH13, kb⟩
        have H3 := Lib.hid kH3
        have H6 := Lib.hid kH6
        have H7 := Lib.hid kH7
        have H8 := Lib.hid kH8
        have H9 := Lib.hid kH9
        have H10 := Lib.hid kH10
        have H11 := Lib.hid kH11
        have H12 := Lib.hid kH12
        have H13 := Lib.hid kH13
        have KB := Lib.hid kb
        clear kb kH3 kH6 kH7 kH8 kH9 kH10 kH11 kH12 kH13
        go_wp2_with fail
        refine region_drew (fun _ => True) (by kernel_rfl) trivial ?_
        intro _
        have hS : Below X3.heap.size X3 X3.drew := below_drewN (Below.refl _ _) 1
        refine Float.float (W := X3) [(0, 41, .is (.agg (er x3))), (1, 42, .is (.agg (er z3))), (2, 43, .is (.agg (er c))), (3, 44, .is (.agg (er x3))), (4, 45, .is (.agg (er z3))), (5, 46, .is (.agg (er d))), (6, 14, .row 38 zr), (7, 15, .row 38 zr)] [0, 1, 2, 3, 4, 5, 6, 7] 2 rfl (by rfl) (by kernel_rfl) (by kernel_rfl) (by kernel_rfl) (by kernel_rfl) (by kernel_rfl) (fun γ => rfl) hS (fun _ _ => trivial) ?_ ?_
        · intro γ
          simp only [Float.puts, Act.put, List.setIfInBounds_toArray, List.set_cons_zero, List.set_cons_succ]
          refine ⟨?_, ?_, ?_, ?_, ?_, ?_, ?_, ?_, trivial⟩
          · exact ⟨_, _, rfl, Float.does_take (fun w hw => run_load_op 38 (.tmp 10) rfl (b10) rfl (H10.out.below hw H10.out.lt) rfl rfl (by rw [er_size]; kernel_rfl))⟩
          · exact ⟨_, _, rfl, Float.does_take (fun w hw => run_load_op 38 (.tmp 11) rfl (b11) rfl (H11.out.below hw H11.out.lt) rfl rfl (by rw [er_size]; kernel_rfl))⟩
          · exact ⟨_, _, rfl, Float.does_call 20 (#[.agg (er x3), .agg (er z3)]) (by intro w; go_simp; try with_reducible rfl) (fun w hw => CC'.out w)⟩
          · exact ⟨_, _, rfl, Float.does_take (fun w hw => run_load_op 38 (.tmp 10) rfl (b10) rfl (H10.out.below hw H10.out.lt) rfl rfl (by rw [er_size]; kernel_rfl))⟩
          · exact ⟨_, _, rfl, Float.does_take (fun w hw => run_load_op 38 (.tmp 11) rfl (b11) rfl (H11.out.below hw H11.out.lt) rfl rfl (by rw [er_size]; kernel_rfl))⟩
          · exact ⟨_, _, rfl, Float.does_call 21 (#[.agg (er x3), .agg (er z3)]) (by intro w; go_simp; try with_reducible rfl) (fun w hw => CD.out w)⟩
          · exact ⟨_, _, rfl, fun w => by go_simp; try rfl⟩
          · exact ⟨_, _, rfl, fun w => by go_simp; try rfl⟩
        · intro γ v hS hrows hne
          simp only [Float.puts, Act.put, List.setIfInBounds_toArray, List.set_cons_zero, List.set_cons_succ]
          obtain ⟨⟨hge14, hg14⟩, ⟨hge15, hg15⟩, -⟩ := hrows
          have hne14_15 := hne 6 7 rfl rfl (by decide) (by decide) (by decide)
          clear hne
          generalize γ 6 = b14 at *
          have Hg14 := Lib.hid hg14
          clear hg14
          generalize γ 7 = b15 at *
          have Hg15 := Lib.hid hg15
          clear hg15
          clear γ
          have JH3 := Lib.hid (H3.out.below hS H3.out.lt)
          have lt_H3 := H3.out.lt
          have JH6 := Lib.hid (H6.out.below hS H6.out.lt)
          have lt_H6 := H6.out.lt
          have JH7 := Lib.hid (H7.out.below hS H7.out.lt)
          have lt_H7 := H7.out.lt
          have JH8 := Lib.hid (H8.out.below hS H8.out.lt)
          have lt_H8 := H8.out.lt
          have JH9 := Lib.hid (H9.out.below hS H9.out.lt)
          have lt_H9 := H9.out.lt
          have JH10 := Lib.hid (H10.out.below hS H10.out.lt)
          have lt_H10 := H10.out.lt
          have JH11 := Lib.hid (H11.out.below hS H11.out.lt)
          have lt_H11 := H11.out.lt
          have JH12 := Lib.hid (H12.out.below hS H12.out.lt)
          have lt_H12 := H12.out.lt
          have JH13 := Lib.hid (H13.out.below hS H13.out.lt)
          have lt_H13 := H13.out.lt
          have JB := Lib.hid (KB.out.trans (hS.mono (by omega)))
          refine alone 8 rfl (by kernel_rfl) (by rfl) ?_
          intro K hK
          refine wp_store_row 38 (.tmp 14) (.tmp 43) rfl (b14) (er c) (by rfl) (by rfl) 38 _ Hg14.out (by rw [er_size]; kernel_rfl) (by rw [zr_size, er_size]) (er_one _) ?_
          refine hK.out _ _ trivial ?_
          clear hK K
          try simp only [Act.put]
          replace JH3 := Lib.hid (Whole.farRow JH3.out (g := b14) (by omega) (er c))
          replace JH6 := Lib.hid (Whole.farRow JH6.out (g := b14) (by omega) (er c))
          replace JH7 := Lib.hid (Whole.farRow JH7.out (g := b14) (by omega) (er c))
          replace JH8 := Lib.hid (Whole.farRow JH8.out (g := b14) (by omega) (er c))
          replace JH9 := Lib.hid (Whole.farRow JH9.out (g := b14) (by omega) (er c))
          replace JH10 := Lib.hid (Whole.farRow JH10.out (g := b14) (by omega) (er c))
          replace JH11 := Lib.hid (Whole.farRow JH11.out (g := b14) (by omega) (er c))
          replace JH12 := Lib.hid (Whole.farRow JH12.out (g := b14) (by omega) (er c))
          replace JH13 := Lib.hid (Whole.farRow JH13.out (g := b14) (by omega) (er c))
          replace Hg15 := Lib.hid (Whole.farRow Hg15.out (g := b14) (by omega) (er c))
          replace JB := Lib.hid (below_setRow JB.out (by omega) (g := b14) (er c))
          have SH14 := Lib.hid (setRow_heap _ _ _ (er c) _ _ Hg14.out)
          clear Hg14
          refine alone 9 rfl (by kernel_rfl) (by rfl) ?_
          intro K hK
          refine wp_store_row 38 (.tmp 15) (.tmp 46) rfl (b15) (er d) (by rfl) (by rfl) 38 _ Hg15.out (by rw [er_size]; kernel_rfl) (by rw [zr_size, er_size]) (er_one _) ?_
          refine hK.out _ _ trivial ?_
          clear hK K
          try simp only [Act.put]
          replace JH3 := Lib.hid (Whole.farRow JH3.out (g := b15) (by omega) (er d))
          replace JH6 := Lib.hid (Whole.farRow JH6.out (g := b15) (by omega) (er d))
          replace JH7 := Lib.hid (Whole.farRow JH7.out (g := b15) (by omega) (er d))
          replace JH8 := Lib.hid (Whole.farRow JH8.out (g := b15) (by omega) (er d))
          replace JH9 := Lib.hid (Whole.farRow JH9.out (g := b15) (by omega) (er d))
          replace JH10 := Lib.hid (Whole.farRow JH10.out (g := b15) (by omega) (er d))
          replace JH11 := Lib.hid (Whole.farRow JH11.out (g := b15) (by omega) (er d))
          replace JH12 := Lib.hid (Whole.farRow JH12.out (g := b15) (by omega) (er d))
          replace JH13 := Lib.hid (Whole.farRow JH13.out (g := b15) (by omega) (er d))
          replace SH14 := Lib.hid (Whole.farRow SH14.out (g := b15) (by omega) (er d))
          replace JB := Lib.hid (below_setRow JB.out (by omega) (g := b15) (er d))
          have SH15 := Lib.hid (setRow_heap _ _ _ (er d) _ _ Hg15.out)
          clear Hg15
          refine region_end (by kernel_rfl) ?_
          refine cut_post (F := Exit.then _ _) (fun X => Whole X (B) 38 (er x) ∧ Whole X (B + 1 + 1 + 1) 78 (pw2 (fun _ => 0) (fun _ => 0)) ∧ Whole X (B + 1 + 1 + 1 + 1) 78 (pw2 (fun _ => 0) (fun _ => 0)) ∧ Whole X (b8) 38 (er x2) ∧ Whole X (b9) 38 (er z2) ∧ Whole X (b10) 38 (er x3) ∧ Whole X (b11) 38 (er z3) ∧ Whole X (b12) 38 (er a) ∧ Whole X (b13) 38 (er b) ∧ Whole X (b14) 38 (er c) ∧ Whole X (b15) 38 (er d) ∧ Below B w X) ⟨JH3.out, JH6.out, JH7.out, JH8.out, JH9.out, JH10.out, JH11.out, JH12.out, JH13.out, SH14.out, SH15.out, JB.out⟩ ?_
          clear JB hS KB JH3 JH6 JH7 JH8 JH9 JH10 JH11 JH12 JH13 SH14 SH15 H3 H6 H7 H8 H9 H10 H11 H12 H13 lt_H3 lt_H6 lt_H7 lt_H8 lt_H9 lt_H10 lt_H11 lt_H12 lt_H13 hge14 hge15
          rintro X4 ⟨kH3, kH6, kH7, kH8, kH9, kH10, kH11, kH12, kH13, kH14, kH15, kb⟩
          have H3 := Lib.hid kH3
          have H6 := Lib.hid kH6
          have H7 := Lib.hid kH7
          have H8 := Lib.hid kH8
          have H9 := Lib.hid kH9
          have H10 := Lib.hid kH10
          have H11 := Lib.hid kH11
          have H12 := Lib.hid kH12
          have H13 := Lib.hid kH13
          have H14 := Lib.hid kH14
          have H15 := Lib.hid kH15
          have KB := Lib.hid kb
          clear kb kH3 kH6 kH7 kH8 kH9 kH10 kH11 kH12 kH13 kH14 kH15
          go_wp2_with fail
          refine region_drew (fun _ => True) (by kernel_rfl) trivial ?_
          intro _
          have hS : Below X4.heap.size X4 X4.drew := below_drewN (Below.refl _ _) 1
          refine Float.float (W := X4) [(0, 47, .is (.agg (er d))), (1, 48, .is (.agg (er a))), (2, 49, .is (.agg (er da))), (3, 50, .is (.agg (er c))), (4, 51, .is (.agg (er b))), (5, 52, .is (.agg (er cb))), (6, 16, .row 38 zr), (7, 17, .row 38 zr)] [0, 1, 2, 3, 4, 5, 6, 7] 2 rfl (by rfl) (by kernel_rfl) (by kernel_rfl) (by kernel_rfl) (by kernel_rfl) (by kernel_rfl) (fun γ => rfl) hS (fun _ _ => trivial) ?_ ?_
          · intro γ
            simp only [Float.puts, Act.put, List.setIfInBounds_toArray, List.set_cons_zero, List.set_cons_succ]
            refine ⟨?_, ?_, ?_, ?_, ?_, ?_, ?_, ?_, trivial⟩
            · exact ⟨_, _, rfl, Float.does_take (fun w hw => run_load_op 38 (.tmp 15) rfl (b15) rfl (H15.out.below hw H15.out.lt) rfl rfl (by rw [er_size]; kernel_rfl))⟩
            · exact ⟨_, _, rfl, Float.does_take (fun w hw => run_load_op 38 (.tmp 12) rfl (b12) rfl (H12.out.below hw H12.out.lt) rfl rfl (by rw [er_size]; kernel_rfl))⟩
            · exact ⟨_, _, rfl, Float.does_call 22 (#[.agg (er d), .agg (er a)]) (by intro w; go_simp; try with_reducible rfl) (fun w hw => CDA.out w)⟩
            · exact ⟨_, _, rfl, Float.does_take (fun w hw => run_load_op 38 (.tmp 14) rfl (b14) rfl (H14.out.below hw H14.out.lt) rfl rfl (by rw [er_size]; kernel_rfl))⟩
            · exact ⟨_, _, rfl, Float.does_take (fun w hw => run_load_op 38 (.tmp 13) rfl (b13) rfl (H13.out.below hw H13.out.lt) rfl rfl (by rw [er_size]; kernel_rfl))⟩
            · exact ⟨_, _, rfl, Float.does_call 22 (#[.agg (er c), .agg (er b)]) (by intro w; go_simp; try with_reducible rfl) (fun w hw => CCB.out w)⟩
            · exact ⟨_, _, rfl, fun w => by go_simp; try rfl⟩
            · exact ⟨_, _, rfl, fun w => by go_simp; try rfl⟩
          · intro γ v hS hrows hne
            simp only [Float.puts, Act.put, List.setIfInBounds_toArray, List.set_cons_zero, List.set_cons_succ]
            obtain ⟨⟨hge16, hg16⟩, ⟨hge17, hg17⟩, -⟩ := hrows
            have hne16_17 := hne 6 7 rfl rfl (by decide) (by decide) (by decide)
            clear hne
            generalize γ 6 = b16 at *
            have Hg16 := Lib.hid hg16
            clear hg16
            generalize γ 7 = b17 at *
            have Hg17 := Lib.hid hg17
            clear hg17
            clear γ
            have JH3 := Lib.hid (H3.out.below hS H3.out.lt)
            have lt_H3 := H3.out.lt
            have JH6 := Lib.hid (H6.out.below hS H6.out.lt)
            have lt_H6 := H6.out.lt
            have JH7 := Lib.hid (H7.out.below hS H7.out.lt)
            have lt_H7 := H7.out.lt
            have JH8 := Lib.hid (H8.out.below hS H8.out.lt)
            have lt_H8 := H8.out.lt
            have JH9 := Lib.hid (H9.out.below hS H9.out.lt)
            have lt_H9 := H9.out.lt
            have JH10 := Lib.hid (H10.out.below hS H10.out.lt)
            have lt_H10 := H10.out.lt
            have JH11 := Lib.hid (H11.out.below hS H11.out.lt)
            have lt_H11 := H11.out.lt
            have JH12 := Lib.hid (H12.out.below hS H12.out.lt)
            have lt_H12 := H12.out.lt
            have JH13 := Lib.hid (H13.out.below hS H13.out.lt)
            have lt_H13 := H13.out.lt
            have JH14 := Lib.hid (H14.out.below hS H14.out.lt)
            have lt_H14 := H14.out.lt
            have JH15 := Lib.hid (H15.out.below hS H15.out.lt)
            have lt_H15 := H15.out.lt
            have JB := Lib.hid (KB.out.trans (hS.mono (by omega)))
            refine alone 8 rfl (by kernel_rfl) (by rfl) ?_
            intro K hK
            refine wp_store_row 38 (.tmp 16) (.tmp 49) rfl (b16) (er da) (by rfl) (by rfl) 38 _ Hg16.out (by rw [er_size]; kernel_rfl) (by rw [zr_size, er_size]) (er_one _) ?_
            refine hK.out _ _ trivial ?_
            clear hK K
            try simp only [Act.put]
            replace JH3 := Lib.hid (Whole.farRow JH3.out (g := b16) (by omega) (er da))
            replace JH6 := Lib.hid (Whole.farRow JH6.out (g := b16) (by omega) (er da))
            replace JH7 := Lib.hid (Whole.farRow JH7.out (g := b16) (by omega) (er da))
            replace JH8 := Lib.hid (Whole.farRow JH8.out (g := b16) (by omega) (er da))
            replace JH9 := Lib.hid (Whole.farRow JH9.out (g := b16) (by omega) (er da))
            replace JH10 := Lib.hid (Whole.farRow JH10.out (g := b16) (by omega) (er da))
            replace JH11 := Lib.hid (Whole.farRow JH11.out (g := b16) (by omega) (er da))
            replace JH12 := Lib.hid (Whole.farRow JH12.out (g := b16) (by omega) (er da))
            replace JH13 := Lib.hid (Whole.farRow JH13.out (g := b16) (by omega) (er da))
            replace Hg17 := Lib.hid (Whole.farRow Hg17.out (g := b16) (by omega) (er da))
            replace JB := Lib.hid (below_setRow JB.out (by omega) (g := b16) (er da))
            have SH16 := Lib.hid (setRow_heap _ _ _ (er da) _ _ Hg16.out)
            clear Hg16
            refine alone 9 rfl (by kernel_rfl) (by rfl) ?_
            intro K hK
            refine wp_store_row 38 (.tmp 17) (.tmp 52) rfl (b17) (er cb) (by rfl) (by rfl) 38 _ Hg17.out (by rw [er_size]; kernel_rfl) (by rw [zr_size, er_size]) (er_one _) ?_
            refine hK.out _ _ trivial ?_
            clear hK K
            try simp only [Act.put]
            replace JH3 := Lib.hid (Whole.farRow JH3.out (g := b17) (by omega) (er cb))
            replace JH6 := Lib.hid (Whole.farRow JH6.out (g := b17) (by omega) (er cb))
            replace JH7 := Lib.hid (Whole.farRow JH7.out (g := b17) (by omega) (er cb))
            replace JH8 := Lib.hid (Whole.farRow JH8.out (g := b17) (by omega) (er cb))
            replace JH9 := Lib.hid (Whole.farRow JH9.out (g := b17) (by omega) (er cb))
            replace JH10 := Lib.hid (Whole.farRow JH10.out (g := b17) (by omega) (er cb))
            replace JH11 := Lib.hid (Whole.farRow JH11.out (g := b17) (by omega) (er cb))
            replace JH12 := Lib.hid (Whole.farRow JH12.out (g := b17) (by omega) (er cb))
            replace JH13 := Lib.hid (Whole.farRow JH13.out (g := b17) (by omega) (er cb))
            replace SH16 := Lib.hid (Whole.farRow SH16.out (g := b17) (by omega) (er cb))
            replace JB := Lib.hid (below_setRow JB.out (by omega) (g := b17) (er cb))
            have SH17 := Lib.hid (setRow_heap _ _ _ (er cb) _ _ Hg17.out)
            clear Hg17
            refine region_end (by kernel_rfl) ?_
            refine cut_post (F := Exit.then _ _) (fun X => Whole X (B) 38 (er x) ∧ Whole X (B + 1 + 1 + 1) 78 (pw2 (fun _ => 0) (fun _ => 0)) ∧ Whole X (B + 1 + 1 + 1 + 1) 78 (pw2 (fun _ => 0) (fun _ => 0)) ∧ Whole X (b8) 38 (er x2) ∧ Whole X (b9) 38 (er z2) ∧ Whole X (b10) 38 (er x3) ∧ Whole X (b11) 38 (er z3) ∧ Whole X (b12) 38 (er a) ∧ Whole X (b13) 38 (er b) ∧ Whole X (b16) 38 (er da) ∧ Whole X (b17) 38 (er cb) ∧ Below B w X) ⟨JH3.out, JH6.out, JH7.out, JH8.out, JH9.out, JH10.out, JH11.out, JH12.out, JH13.out, SH16.out, SH17.out, JB.out⟩ ?_
            clear JB hS KB JH3 JH6 JH7 JH8 JH9 JH10 JH11 JH12 JH13 JH14 JH15 SH16 SH17 H3 H6 H7 H8 H9 H10 H11 H12 H13 H14 H15 lt_H3 lt_H6 lt_H7 lt_H8 lt_H9 lt_H10 lt_H11 lt_H12 lt_H13 lt_H14 lt_H15 hge16 hge17
            rintro X5 ⟨kH3, kH6, kH7, kH8, kH9, kH10, kH11, kH12, kH13, kH16, kH17, kb⟩
            have H3 := Lib.hid kH3
            have H6 := Lib.hid kH6
            have H7 := Lib.hid kH7
            have H8 := Lib.hid kH8
            have H9 := Lib.hid kH9
            have H10 := Lib.hid kH10
            have H11 := Lib.hid kH11
            have H12 := Lib.hid kH12
            have H13 := Lib.hid kH13
            have H16 := Lib.hid kH16
            have H17 := Lib.hid kH17
            have KB := Lib.hid kb
            clear kb kH3 kH6 kH7 kH8 kH9 kH10 kH11 kH12 kH13 kH16 kH17
            go_wp2_with fail
            refine region_drew (fun _ => True) (by kernel_rfl) trivial ?_
            intro _
            have hS : Below X5.heap.size X5 X5.drew := below_drewN (Below.refl _ _) 1
            refine Float.float (W := X5) [(0, 53, .is (.agg (er da))), (1, 54, .is (.agg (er cb))), (2, 55, .is (.agg (er su))), (3, 56, .is (.agg (er da))), (4, 57, .is (.agg (er cb))), (5, 58, .is (.agg (er re))), (6, 18, .row 38 zr), (7, 19, .row 38 zr)] [0, 1, 2, 3, 4, 5, 6, 7] 2 rfl (by rfl) (by kernel_rfl) (by kernel_rfl) (by kernel_rfl) (by kernel_rfl) (by kernel_rfl) (fun γ => rfl) hS (fun _ _ => trivial) ?_ ?_
            · intro γ
              simp only [Float.puts, Act.put, List.setIfInBounds_toArray, List.set_cons_zero, List.set_cons_succ]
              refine ⟨?_, ?_, ?_, ?_, ?_, ?_, ?_, ?_, trivial⟩
              · exact ⟨_, _, rfl, Float.does_take (fun w hw => run_load_op 38 (.tmp 16) rfl (b16) rfl (H16.out.below hw H16.out.lt) rfl rfl (by rw [er_size]; kernel_rfl))⟩
              · exact ⟨_, _, rfl, Float.does_take (fun w hw => run_load_op 38 (.tmp 17) rfl (b17) rfl (H17.out.below hw H17.out.lt) rfl rfl (by rw [er_size]; kernel_rfl))⟩
              · exact ⟨_, _, rfl, Float.does_call 20 (#[.agg (er da), .agg (er cb)]) (by intro w; go_simp; try with_reducible rfl) (fun w hw => CSU.out w)⟩
              · exact ⟨_, _, rfl, Float.does_take (fun w hw => run_load_op 38 (.tmp 16) rfl (b16) rfl (H16.out.below hw H16.out.lt) rfl rfl (by rw [er_size]; kernel_rfl))⟩
              · exact ⟨_, _, rfl, Float.does_take (fun w hw => run_load_op 38 (.tmp 17) rfl (b17) rfl (H17.out.below hw H17.out.lt) rfl rfl (by rw [er_size]; kernel_rfl))⟩
              · exact ⟨_, _, rfl, Float.does_call 21 (#[.agg (er da), .agg (er cb)]) (by intro w; go_simp; try with_reducible rfl) (fun w hw => CRE.out w)⟩
              · exact ⟨_, _, rfl, fun w => by go_simp; try rfl⟩
              · exact ⟨_, _, rfl, fun w => by go_simp; try rfl⟩
            · intro γ v hS hrows hne
              simp only [Float.puts, Act.put, List.setIfInBounds_toArray, List.set_cons_zero, List.set_cons_succ]
              obtain ⟨⟨hge18, hg18⟩, ⟨hge19, hg19⟩, -⟩ := hrows
              have hne18_19 := hne 6 7 rfl rfl (by decide) (by decide) (by decide)
              clear hne
              generalize γ 6 = b18 at *
              have Hg18 := Lib.hid hg18
              clear hg18
              generalize γ 7 = b19 at *
              have Hg19 := Lib.hid hg19
              clear hg19
              clear γ
              have JH3 := Lib.hid (H3.out.below hS H3.out.lt)
              have lt_H3 := H3.out.lt
              have JH6 := Lib.hid (H6.out.below hS H6.out.lt)
              have lt_H6 := H6.out.lt
              have JH7 := Lib.hid (H7.out.below hS H7.out.lt)
              have lt_H7 := H7.out.lt
              have JH8 := Lib.hid (H8.out.below hS H8.out.lt)
              have lt_H8 := H8.out.lt
              have JH9 := Lib.hid (H9.out.below hS H9.out.lt)
              have lt_H9 := H9.out.lt
              have JH10 := Lib.hid (H10.out.below hS H10.out.lt)
              have lt_H10 := H10.out.lt
              have JH11 := Lib.hid (H11.out.below hS H11.out.lt)
              have lt_H11 := H11.out.lt
              have JH12 := Lib.hid (H12.out.below hS H12.out.lt)
              have lt_H12 := H12.out.lt
              have JH13 := Lib.hid (H13.out.below hS H13.out.lt)
              have lt_H13 := H13.out.lt
              have JH16 := Lib.hid (H16.out.below hS H16.out.lt)
              have lt_H16 := H16.out.lt
              have JH17 := Lib.hid (H17.out.below hS H17.out.lt)
              have lt_H17 := H17.out.lt
              have o_b10_b18 : b10 < b18 := by omega
              have o_b10_b19 : b10 < b19 := by omega
              have o_b11_b18 : b11 < b18 := by omega
              have o_b11_b19 : b11 < b19 := by omega
              have o_b12_b18 : b12 < b18 := by omega
              have o_b13_b18 : b13 < b18 := by omega
              have o_b12_b19 : b12 < b19 := by omega
              have o_b13_b19 : b13 < b19 := by omega
              have JB := Lib.hid (KB.out.trans (hS.mono (by omega)))
              refine alone 8 rfl (by kernel_rfl) (by rfl) ?_
              intro K hK
              refine wp_store_row 38 (.tmp 18) (.tmp 55) rfl (b18) (er su) (by rfl) (by rfl) 38 _ Hg18.out (by rw [er_size]; kernel_rfl) (by rw [zr_size, er_size]) (er_one _) ?_
              refine hK.out _ _ trivial ?_
              clear hK K
              try simp only [Act.put]
              replace JH3 := Lib.hid (Whole.farRow JH3.out (g := b18) (by omega) (er su))
              replace JH6 := Lib.hid (Whole.farRow JH6.out (g := b18) (by omega) (er su))
              replace JH7 := Lib.hid (Whole.farRow JH7.out (g := b18) (by omega) (er su))
              replace JH8 := Lib.hid (Whole.farRow JH8.out (g := b18) (by omega) (er su))
              replace JH9 := Lib.hid (Whole.farRow JH9.out (g := b18) (by omega) (er su))
              replace JH10 := Lib.hid (Whole.farRow JH10.out (g := b18) (by omega) (er su))
              replace JH11 := Lib.hid (Whole.farRow JH11.out (g := b18) (by omega) (er su))
              replace JH12 := Lib.hid (Whole.farRow JH12.out (g := b18) (by omega) (er su))
              replace JH13 := Lib.hid (Whole.farRow JH13.out (g := b18) (by omega) (er su))
              replace Hg19 := Lib.hid (Whole.farRow Hg19.out (g := b18) (by omega) (er su))
              replace JB := Lib.hid (below_setRow JB.out (by omega) (g := b18) (er su))
              have SH18 := Lib.hid (setRow_heap _ _ _ (er su) _ _ Hg18.out)
              clear Hg18
              refine alone 9 rfl (by kernel_rfl) (by rfl) ?_
              intro K hK
              refine wp_store_row 38 (.tmp 19) (.tmp 58) rfl (b19) (er re) (by rfl) (by rfl) 38 _ Hg19.out (by rw [er_size]; kernel_rfl) (by rw [zr_size, er_size]) (er_one _) ?_
              refine hK.out _ _ trivial ?_
              clear hK K
              try simp only [Act.put]
              replace JH3 := Lib.hid (Whole.farRow JH3.out (g := b19) (by omega) (er re))
              replace JH6 := Lib.hid (Whole.farRow JH6.out (g := b19) (by omega) (er re))
              replace JH7 := Lib.hid (Whole.farRow JH7.out (g := b19) (by omega) (er re))
              replace JH8 := Lib.hid (Whole.farRow JH8.out (g := b19) (by omega) (er re))
              replace JH9 := Lib.hid (Whole.farRow JH9.out (g := b19) (by omega) (er re))
              replace JH10 := Lib.hid (Whole.farRow JH10.out (g := b19) (by omega) (er re))
              replace JH11 := Lib.hid (Whole.farRow JH11.out (g := b19) (by omega) (er re))
              replace JH12 := Lib.hid (Whole.farRow JH12.out (g := b19) (by omega) (er re))
              replace JH13 := Lib.hid (Whole.farRow JH13.out (g := b19) (by omega) (er re))
              replace SH18 := Lib.hid (Whole.farRow SH18.out (g := b19) (by omega) (er re))
              replace JB := Lib.hid (below_setRow JB.out (by omega) (g := b19) (er re))
              have SH19 := Lib.hid (setRow_heap _ _ _ (er re) _ _ Hg19.out)
              clear Hg19
              refine region_end (by kernel_rfl) ?_
              refine cut_post (F := Exit.then _ _) (fun X => Whole X (B) 38 (er x) ∧ Whole X (B + 1 + 1 + 1) 78 (pw2 (fun _ => 0) (fun _ => 0)) ∧ Whole X (B + 1 + 1 + 1 + 1) 78 (pw2 (fun _ => 0) (fun _ => 0)) ∧ Whole X (b8) 38 (er x2) ∧ Whole X (b9) 38 (er z2) ∧ Whole X (b10) 38 (er x3) ∧ Whole X (b11) 38 (er z3) ∧ Whole X (b12) 38 (er a) ∧ Whole X (b13) 38 (er b) ∧ Whole X (b18) 38 (er su) ∧ Whole X (b19) 38 (er re) ∧ Below B w X) ⟨JH3.out, JH6.out, JH7.out, JH8.out, JH9.out, JH10.out, JH11.out, JH12.out, JH13.out, SH18.out, SH19.out, JB.out⟩ ?_
              clear JB hS KB JH3 JH6 JH7 JH8 JH9 JH10 JH11 JH12 JH13 JH16 JH17 SH18 SH19 H3 H6 H7 H8 H9 H10 H11 H12 H13 H16 H17 lt_H3 lt_H6 lt_H7 lt_H8 lt_H9 lt_H10 lt_H11 lt_H12 lt_H13 lt_H16 lt_H17 hge18 hge19
              rintro X6 ⟨kH3, kH6, kH7, kH8, kH9, kH10, kH11, kH12, kH13, kH18, kH19, kb⟩
              have H3 := Lib.hid kH3
              have H6 := Lib.hid kH6
              have H7 := Lib.hid kH7
              have H8 := Lib.hid kH8
              have H9 := Lib.hid kH9
              have H10 := Lib.hid kH10
              have H11 := Lib.hid kH11
              have H12 := Lib.hid kH12
              have H13 := Lib.hid kH13
              have H18 := Lib.hid kH18
              have H19 := Lib.hid kH19
              have KB := Lib.hid kb
              clear kb kH3 kH6 kH7 kH8 kH9 kH10 kH11 kH12 kH13 kH18 kH19
              go_wp2_with fail
              refine region_drew (fun _ => True) (by kernel_rfl) trivial ?_
              intro _
              have hS : Below X6.heap.size X6 X6.drew := below_drewN (Below.refl _ _) 1
              refine Float.float (W := X6) [(0, 59, .is (.agg (er su))), (1, 60, .is (.agg (er su))), (2, 61, .is (.agg (er nx3))), (3, 62, .is (.agg (er x))), (4, 63, .is (.agg (er re))), (5, 64, .is (.agg (er re))), (6, 65, .is (.agg (er rr))), (7, 66, .is (.agg (er nz3)))] [0, 1, 2, 3, 4, 5, 6, 7] 2 rfl (by rfl) (by kernel_rfl) (by kernel_rfl) (by kernel_rfl) (by kernel_rfl) (by kernel_rfl) (fun γ => rfl) hS (fun _ _ => trivial) ?_ ?_
              · intro γ
                simp only [Float.puts, Act.put, List.setIfInBounds_toArray, List.set_cons_zero, List.set_cons_succ]
                refine ⟨?_, ?_, ?_, ?_, ?_, ?_, ?_, ?_, trivial⟩
                · exact ⟨_, _, rfl, Float.does_take (fun w hw => run_load_op 38 (.tmp 18) rfl (b18) rfl (H18.out.below hw H18.out.lt) rfl rfl (by rw [er_size]; kernel_rfl))⟩
                · exact ⟨_, _, rfl, Float.does_take (fun w hw => run_load_op 38 (.tmp 18) rfl (b18) rfl (H18.out.below hw H18.out.lt) rfl rfl (by rw [er_size]; kernel_rfl))⟩
                · exact ⟨_, _, rfl, Float.does_call 22 (#[.agg (er su), .agg (er su)]) (by intro w; go_simp; try with_reducible rfl) (fun w hw => CX3.out w)⟩
                · exact ⟨_, _, rfl, Float.does_take (fun w hw => run_load_op 38 (.tmp 3) rfl (B) rfl (H3.out.below hw H3.out.lt) rfl rfl (by rw [er_size]; kernel_rfl))⟩
                · exact ⟨_, _, rfl, Float.does_take (fun w hw => run_load_op 38 (.tmp 19) rfl (b19) rfl (H19.out.below hw H19.out.lt) rfl rfl (by rw [er_size]; kernel_rfl))⟩
                · exact ⟨_, _, rfl, Float.does_take (fun w hw => run_load_op 38 (.tmp 19) rfl (b19) rfl (H19.out.below hw H19.out.lt) rfl rfl (by rw [er_size]; kernel_rfl))⟩
                · exact ⟨_, _, rfl, Float.does_call 22 (#[.agg (er re), .agg (er re)]) (by intro w; go_simp; try with_reducible rfl) (fun w hw => CRR.out w)⟩
                · exact ⟨_, _, rfl, Float.does_call 22 (#[.agg (er x), .agg (er rr)]) (by intro w; go_simp; try with_reducible rfl) (fun w hw => CZ3.out w)⟩
              · intro γ v hS hrows hne
                simp only [Float.puts, Act.put, List.setIfInBounds_toArray, List.set_cons_zero, List.set_cons_succ]
                clear hne hrows
                clear γ
                have JH3 := Lib.hid (H3.out.below hS H3.out.lt)
                have lt_H3 := H3.out.lt
                have JH6 := Lib.hid (H6.out.below hS H6.out.lt)
                have lt_H6 := H6.out.lt
                have JH7 := Lib.hid (H7.out.below hS H7.out.lt)
                have lt_H7 := H7.out.lt
                have JH8 := Lib.hid (H8.out.below hS H8.out.lt)
                have lt_H8 := H8.out.lt
                have JH9 := Lib.hid (H9.out.below hS H9.out.lt)
                have lt_H9 := H9.out.lt
                have JH10 := Lib.hid (H10.out.below hS H10.out.lt)
                have lt_H10 := H10.out.lt
                have JH11 := Lib.hid (H11.out.below hS H11.out.lt)
                have lt_H11 := H11.out.lt
                have JH12 := Lib.hid (H12.out.below hS H12.out.lt)
                have lt_H12 := H12.out.lt
                have JH13 := Lib.hid (H13.out.below hS H13.out.lt)
                have lt_H13 := H13.out.lt
                have JH18 := Lib.hid (H18.out.below hS H18.out.lt)
                have lt_H18 := H18.out.lt
                have JH19 := Lib.hid (H19.out.below hS H19.out.lt)
                have lt_H19 := H19.out.lt
                have JB := Lib.hid (KB.out.trans (hS.mono (by omega)))
                refine alone 8 rfl (by kernel_rfl) (by rfl) ?_
                intro K hK
                refine wp_store_row 38 (.tmp 10) (.tmp 61) rfl (b10) (er nx3) (by rfl) (by rfl) 38 _ JH10.out (by rw [er_size]; kernel_rfl) (by rw [er_size, er_size]) (er_one _) ?_
                refine hK.out _ _ trivial ?_
                clear hK K
                try simp only [Act.put]
                replace JH6 := Lib.hid (Whole.farRow JH6.out (g := b10) (by omega) (er nx3))
                replace JH7 := Lib.hid (Whole.farRow JH7.out (g := b10) (by omega) (er nx3))
                replace JH8 := Lib.hid (Whole.farRow JH8.out (g := b10) (by omega) (er nx3))
                replace JH9 := Lib.hid (Whole.farRow JH9.out (g := b10) (by omega) (er nx3))
                replace JH11 := Lib.hid (Whole.farRow JH11.out (g := b10) (by omega) (er nx3))
                replace JH12 := Lib.hid (Whole.farRow JH12.out (g := b10) (by omega) (er nx3))
                replace JH13 := Lib.hid (Whole.farRow JH13.out (g := b10) (by omega) (er nx3))
                replace JB := Lib.hid (below_setRow JB.out (by omega) (g := b10) (er nx3))
                have SH10 := Lib.hid (setRow_heap _ _ _ (er nx3) _ _ JH10.out)
                clear JH10
                refine alone 9 rfl (by kernel_rfl) (by rfl) ?_
                intro K hK
                refine wp_store_row 38 (.tmp 11) (.tmp 66) rfl (b11) (er nz3) (by rfl) (by rfl) 38 _ JH11.out (by rw [er_size]; kernel_rfl) (by rw [er_size, er_size]) (er_one _) ?_
                refine hK.out _ _ trivial ?_
                clear hK K
                try simp only [Act.put]
                replace JH6 := Lib.hid (Whole.farRow JH6.out (g := b11) (by omega) (er nz3))
                replace JH7 := Lib.hid (Whole.farRow JH7.out (g := b11) (by omega) (er nz3))
                replace JH8 := Lib.hid (Whole.farRow JH8.out (g := b11) (by omega) (er nz3))
                replace JH9 := Lib.hid (Whole.farRow JH9.out (g := b11) (by omega) (er nz3))
                replace JH12 := Lib.hid (Whole.farRow JH12.out (g := b11) (by omega) (er nz3))
                replace JH13 := Lib.hid (Whole.farRow JH13.out (g := b11) (by omega) (er nz3))
                replace SH10 := Lib.hid (Whole.farRow SH10.out (g := b11) (by omega) (er nz3))
                replace JB := Lib.hid (below_setRow JB.out (by omega) (g := b11) (er nz3))
                have SH11 := Lib.hid (setRow_heap _ _ _ (er nz3) _ _ JH11.out)
                clear JH11
                refine region_end (by kernel_rfl) ?_
                refine cut_post (F := Exit.then _ _) (fun X => Whole X (B + 1 + 1 + 1) 78 (pw2 (fun _ => 0) (fun _ => 0)) ∧ Whole X (B + 1 + 1 + 1 + 1) 78 (pw2 (fun _ => 0) (fun _ => 0)) ∧ Whole X (b8) 38 (er x2) ∧ Whole X (b9) 38 (er z2) ∧ Whole X (b12) 38 (er a) ∧ Whole X (b13) 38 (er b) ∧ Whole X (b10) 38 (er nx3) ∧ Whole X (b11) 38 (er nz3) ∧ Below B w X) ⟨JH6.out, JH7.out, JH8.out, JH9.out, JH12.out, JH13.out, SH10.out, SH11.out, JB.out⟩ ?_
                clear JB hS KB JH3 JH6 JH7 JH8 JH9 JH12 JH13 JH18 JH19 SH10 SH11 H3 H6 H7 H8 H9 H10 H11 H12 H13 H18 H19 lt_H3 lt_H6 lt_H7 lt_H8 lt_H9 lt_H10 lt_H11 lt_H12 lt_H13 lt_H18 lt_H19
                rintro X7 ⟨kH6, kH7, kH8, kH9, kH12, kH13, kH10, kH11, kb⟩
                have H6 := Lib.hid kH6
                have H7 := Lib.hid kH7
                have H8 := Lib.hid kH8
                have H9 := Lib.hid kH9
                have H12 := Lib.hid kH12
                have H13 := Lib.hid kH13
                have H10 := Lib.hid kH10
                have H11 := Lib.hid kH11
                have KB := Lib.hid kb
                clear kb kH6 kH7 kH8 kH9 kH12 kH13 kH10 kH11
                go_wp2_with fail
                refine region_drew (fun _ => True) (by kernel_rfl) trivial ?_
                intro _
                have hS : Below X7.heap.size X7 X7.drew := below_drewN (Below.refl _ _) 1
                refine Float.float (W := X7) [(0, 67, .is (.agg (er a))), (1, 68, .is (.agg (er a))), (2, 69, .is (.agg (er aa))), (3, 70, .is (.agg (er b))), (4, 71, .is (.agg (er b))), (5, 72, .is (.agg (er bb))), (6, 20, .row 38 zr), (7, 21, .row 38 zr)] [0, 1, 2, 3, 4, 5, 6, 7] 2 rfl (by rfl) (by kernel_rfl) (by kernel_rfl) (by kernel_rfl) (by kernel_rfl) (by kernel_rfl) (fun γ => rfl) hS (fun _ _ => trivial) ?_ ?_
                · intro γ
                  simp only [Float.puts, Act.put, List.setIfInBounds_toArray, List.set_cons_zero, List.set_cons_succ]
                  refine ⟨?_, ?_, ?_, ?_, ?_, ?_, ?_, ?_, trivial⟩
                  · exact ⟨_, _, rfl, Float.does_take (fun w hw => run_load_op 38 (.tmp 12) rfl (b12) rfl (H12.out.below hw H12.out.lt) rfl rfl (by rw [er_size]; kernel_rfl))⟩
                  · exact ⟨_, _, rfl, Float.does_take (fun w hw => run_load_op 38 (.tmp 12) rfl (b12) rfl (H12.out.below hw H12.out.lt) rfl rfl (by rw [er_size]; kernel_rfl))⟩
                  · exact ⟨_, _, rfl, Float.does_call 22 (#[.agg (er a), .agg (er a)]) (by intro w; go_simp; try with_reducible rfl) (fun w hw => CAA.out w)⟩
                  · exact ⟨_, _, rfl, Float.does_take (fun w hw => run_load_op 38 (.tmp 13) rfl (b13) rfl (H13.out.below hw H13.out.lt) rfl rfl (by rw [er_size]; kernel_rfl))⟩
                  · exact ⟨_, _, rfl, Float.does_take (fun w hw => run_load_op 38 (.tmp 13) rfl (b13) rfl (H13.out.below hw H13.out.lt) rfl rfl (by rw [er_size]; kernel_rfl))⟩
                  · exact ⟨_, _, rfl, Float.does_call 22 (#[.agg (er b), .agg (er b)]) (by intro w; go_simp; try with_reducible rfl) (fun w hw => CBB.out w)⟩
                  · exact ⟨_, _, rfl, fun w => by go_simp; try rfl⟩
                  · exact ⟨_, _, rfl, fun w => by go_simp; try rfl⟩
                · intro γ v hS hrows hne
                  simp only [Float.puts, Act.put, List.setIfInBounds_toArray, List.set_cons_zero, List.set_cons_succ]
                  obtain ⟨⟨hge20, hg20⟩, ⟨hge21, hg21⟩, -⟩ := hrows
                  have hne20_21 := hne 6 7 rfl rfl (by decide) (by decide) (by decide)
                  clear hne
                  generalize γ 6 = b20 at *
                  have Hg20 := Lib.hid hg20
                  clear hg20
                  generalize γ 7 = b21 at *
                  have Hg21 := Lib.hid hg21
                  clear hg21
                  clear γ
                  have JH6 := Lib.hid (H6.out.below hS H6.out.lt)
                  have lt_H6 := H6.out.lt
                  have JH7 := Lib.hid (H7.out.below hS H7.out.lt)
                  have lt_H7 := H7.out.lt
                  have JH8 := Lib.hid (H8.out.below hS H8.out.lt)
                  have lt_H8 := H8.out.lt
                  have JH9 := Lib.hid (H9.out.below hS H9.out.lt)
                  have lt_H9 := H9.out.lt
                  have JH12 := Lib.hid (H12.out.below hS H12.out.lt)
                  have lt_H12 := H12.out.lt
                  have JH13 := Lib.hid (H13.out.below hS H13.out.lt)
                  have lt_H13 := H13.out.lt
                  have JH10 := Lib.hid (H10.out.below hS H10.out.lt)
                  have lt_H10 := H10.out.lt
                  have JH11 := Lib.hid (H11.out.below hS H11.out.lt)
                  have lt_H11 := H11.out.lt
                  have o_b8_b20 : b8 < b20 := by omega
                  have o_b9_b20 : b9 < b20 := by omega
                  have o_b8_b21 : b8 < b21 := by omega
                  have o_b9_b21 : b9 < b21 := by omega
                  have JB := Lib.hid (KB.out.trans (hS.mono (by omega)))
                  refine alone 8 rfl (by kernel_rfl) (by rfl) ?_
                  intro K hK
                  refine wp_store_row 38 (.tmp 20) (.tmp 69) rfl (b20) (er aa) (by rfl) (by rfl) 38 _ Hg20.out (by rw [er_size]; kernel_rfl) (by rw [zr_size, er_size]) (er_one _) ?_
                  refine hK.out _ _ trivial ?_
                  clear hK K
                  try simp only [Act.put]
                  replace JH6 := Lib.hid (Whole.farRow JH6.out (g := b20) (by omega) (er aa))
                  replace JH7 := Lib.hid (Whole.farRow JH7.out (g := b20) (by omega) (er aa))
                  replace JH8 := Lib.hid (Whole.farRow JH8.out (g := b20) (by omega) (er aa))
                  replace JH9 := Lib.hid (Whole.farRow JH9.out (g := b20) (by omega) (er aa))
                  replace JH10 := Lib.hid (Whole.farRow JH10.out (g := b20) (by omega) (er aa))
                  replace JH11 := Lib.hid (Whole.farRow JH11.out (g := b20) (by omega) (er aa))
                  replace Hg21 := Lib.hid (Whole.farRow Hg21.out (g := b20) (by omega) (er aa))
                  replace JB := Lib.hid (below_setRow JB.out (by omega) (g := b20) (er aa))
                  have SH20 := Lib.hid (setRow_heap _ _ _ (er aa) _ _ Hg20.out)
                  clear Hg20
                  refine alone 9 rfl (by kernel_rfl) (by rfl) ?_
                  intro K hK
                  refine wp_store_row 38 (.tmp 21) (.tmp 72) rfl (b21) (er bb) (by rfl) (by rfl) 38 _ Hg21.out (by rw [er_size]; kernel_rfl) (by rw [zr_size, er_size]) (er_one _) ?_
                  refine hK.out _ _ trivial ?_
                  clear hK K
                  try simp only [Act.put]
                  replace JH6 := Lib.hid (Whole.farRow JH6.out (g := b21) (by omega) (er bb))
                  replace JH7 := Lib.hid (Whole.farRow JH7.out (g := b21) (by omega) (er bb))
                  replace JH8 := Lib.hid (Whole.farRow JH8.out (g := b21) (by omega) (er bb))
                  replace JH9 := Lib.hid (Whole.farRow JH9.out (g := b21) (by omega) (er bb))
                  replace JH10 := Lib.hid (Whole.farRow JH10.out (g := b21) (by omega) (er bb))
                  replace JH11 := Lib.hid (Whole.farRow JH11.out (g := b21) (by omega) (er bb))
                  replace SH20 := Lib.hid (Whole.farRow SH20.out (g := b21) (by omega) (er bb))
                  replace JB := Lib.hid (below_setRow JB.out (by omega) (g := b21) (er bb))
                  have SH21 := Lib.hid (setRow_heap _ _ _ (er bb) _ _ Hg21.out)
                  clear Hg21
                  refine region_end (by kernel_rfl) ?_
                  refine cut_post (F := Exit.then _ _) (fun X => Whole X (B + 1 + 1 + 1) 78 (pw2 (fun _ => 0) (fun _ => 0)) ∧ Whole X (B + 1 + 1 + 1 + 1) 78 (pw2 (fun _ => 0) (fun _ => 0)) ∧ Whole X (b8) 38 (er x2) ∧ Whole X (b9) 38 (er z2) ∧ Whole X (b10) 38 (er nx3) ∧ Whole X (b11) 38 (er nz3) ∧ Whole X (b20) 38 (er aa) ∧ Whole X (b21) 38 (er bb) ∧ Below B w X) ⟨JH6.out, JH7.out, JH8.out, JH9.out, JH10.out, JH11.out, SH20.out, SH21.out, JB.out⟩ ?_
                  clear JB hS KB JH6 JH7 JH8 JH9 JH12 JH13 JH10 JH11 SH20 SH21 H6 H7 H8 H9 H12 H13 H10 H11 lt_H6 lt_H7 lt_H8 lt_H9 lt_H12 lt_H13 lt_H10 lt_H11 hge20 hge21
                  rintro X8 ⟨kH6, kH7, kH8, kH9, kH10, kH11, kH20, kH21, kb⟩
                  have H6 := Lib.hid kH6
                  have H7 := Lib.hid kH7
                  have H8 := Lib.hid kH8
                  have H9 := Lib.hid kH9
                  have H10 := Lib.hid kH10
                  have H11 := Lib.hid kH11
                  have H20 := Lib.hid kH20
                  have H21 := Lib.hid kH21
                  have KB := Lib.hid kb
                  clear kb kH6 kH7 kH8 kH9 kH10 kH11 kH20 kH21
                  go_wp2_with (first | (refine wpList_load_row rfl 38 (.tmp 20) rfl b20 rfl 38 (er aa) (0, 0) _ H20.out rfl rfl (by rw [er_size]; kernel_rfl) ?_) | (refine wpList_load_row rfl 38 (.tmp 21) rfl b21 rfl 38 (er bb) (0, 0) _ H21.out rfl rfl (by rw [er_size]; kernel_rfl) ?_))
                  refine (CE.out _).mono ?_
                  rintro e' Y ⟨rfl, hb⟩
                  have lH6 := H6.out.lt
                  replace H6 := Lib.hid (H6.out.below hb lH6)
                  have lH7 := H7.out.lt
                  replace H7 := Lib.hid (H7.out.below hb lH7)
                  have lH8 := H8.out.lt
                  replace H8 := Lib.hid (H8.out.below hb lH8)
                  have lH9 := H9.out.lt
                  replace H9 := Lib.hid (H9.out.below hb lH9)
                  have lH10 := H10.out.lt
                  replace H10 := Lib.hid (H10.out.below hb lH10)
                  have lH11 := H11.out.lt
                  replace H11 := Lib.hid (H11.out.below hb lH11)
                  have lH20 := H20.out.lt
                  replace H20 := Lib.hid (H20.out.below hb lH20)
                  have lH21 := H21.out.lt
                  replace H21 := Lib.hid (H21.out.below hb lH21)
                  have hsz := hb.size
                  replace KB := Lib.hid (KB.out.trans (hb.mono (by omega)))
                  clear hb
                  go_upto_region 10 with (refine wpList_store_row rfl 38 (.tmp 22) (.tmp 75) rfl Y.heap.size (er e) rfl rfl 38 _ (Whole.new _ _ _) (by rw [er_size]; kernel_rfl) (by rw [er_size]; rfl) (er_one _) ?_)
                  refine cut_world (fun X => Whole X (B + 1 + 1 + 1) 78 (pw2 (fun _ => 0) (fun _ => 0)) ∧ Whole X (B + 1 + 1 + 1 + 1) 78 (pw2 (fun _ => 0) (fun _ => 0)) ∧ Whole X (b8) 38 (er x2) ∧ Whole X (b9) 38 (er z2) ∧ Whole X (b10) 38 (er nx3) ∧ Whole X (b11) 38 (er nz3) ∧ Whole X (b20) 38 (er aa) ∧ Whole X (b21) 38 (er bb) ∧ Whole X Y.heap.size 38 (er e) ∧ Below B w X) ⟨Whole.farRow (H6.out.alloc _) (by omega) _, Whole.farRow (H7.out.alloc _) (by omega) _, Whole.farRow (H8.out.alloc _) (by omega) _, Whole.farRow (H9.out.alloc _) (by omega) _, Whole.farRow (H10.out.alloc _) (by omega) _, Whole.farRow (H11.out.alloc _) (by omega) _, Whole.farRow (H20.out.alloc _) (by omega) _, Whole.farRow (H21.out.alloc _) (by omega) _, setRow_heap _ _ _ _ _ _ (Whole.new _ _ _), below_setRow (KB.out.alloc (by omega) _) (by omega) _⟩ ?_
                  clear KB hsz lH6 lH7 lH8 lH9 lH10 lH11 lH20 lH21 H6 H7 H8 H9 H10 H11 H20 H21
                  generalize Y.heap.size = b22
                  rintro X9 ⟨kH6, kH7, kH8, kH9, kH10, kH11, kH20, kH21, k22, kb⟩
                  have H6 := Lib.hid kH6
                  have H7 := Lib.hid kH7
                  have H8 := Lib.hid kH8
                  have H9 := Lib.hid kH9
                  have H10 := Lib.hid kH10
                  have H11 := Lib.hid kH11
                  have H20 := Lib.hid kH20
                  have H21 := Lib.hid kH21
                  have H22 := Lib.hid k22
                  have KB := Lib.hid kb
                  clear kb k22 kH6 kH7 kH8 kH9 kH10 kH11 kH20 kH21
                  refine region_drew (fun _ => True) (by kernel_rfl) trivial ?_
                  intro _
                  have hS : Below X9.heap.size X9 X9.drew := below_drewN (Below.refl _ _) 1
                  refine Float.float (W := X9) [(0, 76, .is (.agg (er aa))), (1, 77, .is (.agg (er bb))), (2, 78, .is (.agg (er nx2))), (3, 79, .is (.agg (er e))), (4, 80, .is (.agg (er aa))), (5, 81, .is (.agg (er e))), (6, 82, .is (.agg (er ke))), (7, 83, .is (.agg (er ak))), (8, 84, .is (.agg (er nz2)))] [0, 1, 2, 3, 4, 5, 6, 7, 8] 2 rfl (by rfl) (by kernel_rfl) (by kernel_rfl) (by kernel_rfl) (by kernel_rfl) (by kernel_rfl) (fun γ => rfl) hS (fun _ _ => trivial) ?_ ?_
                  · intro γ
                    simp only [Float.puts, Act.put, List.setIfInBounds_toArray, List.set_cons_zero, List.set_cons_succ]
                    refine ⟨?_, ?_, ?_, ?_, ?_, ?_, ?_, ?_, ?_, trivial⟩
                    · exact ⟨_, _, rfl, Float.does_take (fun w hw => run_load_op 38 (.tmp 20) rfl (b20) rfl (H20.out.below hw H20.out.lt) rfl rfl (by rw [er_size]; kernel_rfl))⟩
                    · exact ⟨_, _, rfl, Float.does_take (fun w hw => run_load_op 38 (.tmp 21) rfl (b21) rfl (H21.out.below hw H21.out.lt) rfl rfl (by rw [er_size]; kernel_rfl))⟩
                    · exact ⟨_, _, rfl, Float.does_call 22 (#[.agg (er aa), .agg (er bb)]) (by intro w; go_simp; try with_reducible rfl) (fun w hw => CX2.out w)⟩
                    · exact ⟨_, _, rfl, Float.does_take (fun w hw => run_load_op 38 (.tmp 22) rfl (b22) rfl (H22.out.below hw H22.out.lt) rfl rfl (by rw [er_size]; kernel_rfl))⟩
                    · exact ⟨_, _, rfl, Float.does_take (fun w hw => run_load_op 38 (.tmp 20) rfl (b20) rfl (H20.out.below hw H20.out.lt) rfl rfl (by rw [er_size]; kernel_rfl))⟩
                    · exact ⟨_, _, rfl, Float.does_take (fun w hw => run_load_op 38 (.tmp 22) rfl (b22) rfl (H22.out.below hw H22.out.lt) rfl rfl (by rw [er_size]; kernel_rfl))⟩
                    · exact ⟨_, _, rfl, Float.does_call 24 (#[.agg (er e), .int .u32 121665]) (by intro w; go_simp; try with_reducible rfl) (fun w hw => CKE.out w)⟩
                    · exact ⟨_, _, rfl, Float.does_call 20 (#[.agg (er aa), .agg (er ke)]) (by intro w; go_simp; try with_reducible rfl) (fun w hw => CAK.out w)⟩
                    · exact ⟨_, _, rfl, Float.does_call 22 (#[.agg (er e), .agg (er ak)]) (by intro w; go_simp; try with_reducible rfl) (fun w hw => CZ2.out w)⟩
                  · intro γ v hS hrows hne
                    simp only [Float.puts, Act.put, List.setIfInBounds_toArray, List.set_cons_zero, List.set_cons_succ]
                    clear hne hrows
                    clear γ
                    have JH6 := Lib.hid (H6.out.below hS H6.out.lt)
                    have lt_H6 := H6.out.lt
                    have JH7 := Lib.hid (H7.out.below hS H7.out.lt)
                    have lt_H7 := H7.out.lt
                    have JH8 := Lib.hid (H8.out.below hS H8.out.lt)
                    have lt_H8 := H8.out.lt
                    have JH9 := Lib.hid (H9.out.below hS H9.out.lt)
                    have lt_H9 := H9.out.lt
                    have JH10 := Lib.hid (H10.out.below hS H10.out.lt)
                    have lt_H10 := H10.out.lt
                    have JH11 := Lib.hid (H11.out.below hS H11.out.lt)
                    have lt_H11 := H11.out.lt
                    have JH20 := Lib.hid (H20.out.below hS H20.out.lt)
                    have lt_H20 := H20.out.lt
                    have JH21 := Lib.hid (H21.out.below hS H21.out.lt)
                    have lt_H21 := H21.out.lt
                    have JH22 := Lib.hid (H22.out.below hS H22.out.lt)
                    have lt_H22 := H22.out.lt
                    have JB := Lib.hid (KB.out.trans (hS.mono (by omega)))
                    refine alone 9 rfl (by kernel_rfl) (by rfl) ?_
                    intro K hK
                    refine wp_store_row 38 (.tmp 8) (.tmp 78) rfl (b8) (er nx2) (by rfl) (by rfl) 38 _ JH8.out (by rw [er_size]; kernel_rfl) (by rw [er_size, er_size]) (er_one _) ?_
                    refine hK.out _ _ trivial ?_
                    clear hK K
                    try simp only [Act.put]
                    replace JH6 := Lib.hid (Whole.farRow JH6.out (g := b8) (by omega) (er nx2))
                    replace JH7 := Lib.hid (Whole.farRow JH7.out (g := b8) (by omega) (er nx2))
                    replace JH9 := Lib.hid (Whole.farRow JH9.out (g := b8) (by omega) (er nx2))
                    replace JH10 := Lib.hid (Whole.farRow JH10.out (g := b8) (by omega) (er nx2))
                    replace JH11 := Lib.hid (Whole.farRow JH11.out (g := b8) (by omega) (er nx2))
                    replace JB := Lib.hid (below_setRow JB.out (by omega) (g := b8) (er nx2))
                    have SH8 := Lib.hid (setRow_heap _ _ _ (er nx2) _ _ JH8.out)
                    clear JH8
                    refine alone 10 rfl (by kernel_rfl) (by rfl) ?_
                    intro K hK
                    refine wp_store_row 38 (.tmp 9) (.tmp 84) rfl (b9) (er nz2) (by rfl) (by rfl) 38 _ JH9.out (by rw [er_size]; kernel_rfl) (by rw [er_size, er_size]) (er_one _) ?_
                    refine hK.out _ _ trivial ?_
                    clear hK K
                    try simp only [Act.put]
                    replace JH6 := Lib.hid (Whole.farRow JH6.out (g := b9) (by omega) (er nz2))
                    replace JH7 := Lib.hid (Whole.farRow JH7.out (g := b9) (by omega) (er nz2))
                    replace JH10 := Lib.hid (Whole.farRow JH10.out (g := b9) (by omega) (er nz2))
                    replace JH11 := Lib.hid (Whole.farRow JH11.out (g := b9) (by omega) (er nz2))
                    replace SH8 := Lib.hid (Whole.farRow SH8.out (g := b9) (by omega) (er nz2))
                    replace JB := Lib.hid (below_setRow JB.out (by omega) (g := b9) (er nz2))
                    have SH9 := Lib.hid (setRow_heap _ _ _ (er nz2) _ _ JH9.out)
                    clear JH9
                    refine region_end (by kernel_rfl) ?_
                    refine cut_post (F := Exit.then _ _) (fun X => Whole X (B + 1 + 1 + 1) 78 (pw2 (fun _ => 0) (fun _ => 0)) ∧ Whole X (B + 1 + 1 + 1 + 1) 78 (pw2 (fun _ => 0) (fun _ => 0)) ∧ Whole X (b10) 38 (er nx3) ∧ Whole X (b11) 38 (er nz3) ∧ Whole X (b8) 38 (er nx2) ∧ Whole X (b9) 38 (er nz2) ∧ Below B w X) ⟨JH6.out, JH7.out, JH10.out, JH11.out, SH8.out, SH9.out, JB.out⟩ ?_
                    clear JB hS KB JH6 JH7 JH10 JH11 JH20 JH21 JH22 SH8 SH9 H6 H7 H8 H9 H10 H11 H20 H21 H22 lt_H6 lt_H7 lt_H8 lt_H9 lt_H10 lt_H11 lt_H20 lt_H21 lt_H22
                    rintro X10 ⟨kH6, kH7, kH10, kH11, kH8, kH9, kb⟩
                    have H6 := Lib.hid kH6
                    have H7 := Lib.hid kH7
                    have H10 := Lib.hid kH10
                    have H11 := Lib.hid kH11
                    have H8 := Lib.hid kH8
                    have H9 := Lib.hid kH9
                    have KB := Lib.hid kb
                    clear kb kH6 kH7 kH10 kH11 kH8 kH9
                    go_wp2_with fail
                    have lt6 := H6.out.lt
                    refine region_drew (SL b8 b9 b10 b11 (er nx2) (er nz2) (er nx3) (er nz3)) (by kernel_rfl) ⟨H8.out.drew, H9.out.drew, H10.out.drew, H11.out.drew⟩ ?_
                    intro hS
                    replace H6 := Lib.hid H6.out.drew
                    replace H7 := Lib.hid H7.out.drew
                    replace KB := Lib.hid (Below.drew KB.out)
                    clear H8 H9 H10 H11
                    generalize hY0 : X10.drew = Y0 at hS H6 H7 KB ⊢
                    clear hY0 lt6
                    have o_6_8 : B + 1 + 1 + 1 + 1 < b8 := by omega
                    refine take 0 _ rfl (by kernel_rfl) (by kernel_rfl) (by kernel_rfl) (fun _ _ _ h => h) (by rfl) hS (fun w hw => run_load_op 38 (.tmp 8) rfl b8 rfl hw.1 rfl rfl (by rw [er_size]; kernel_rfl)) ?_
                    try simp only [Act.put, List.setIfInBounds_toArray, List.set_cons_zero, List.set_cons_succ]
                    refine take 2 _ rfl (by kernel_rfl) (by kernel_rfl) (by kernel_rfl) (fun _ _ _ h => h) (by rfl) hS (fun w hw => run_load_op 38 (.tmp 9) rfl b9 rfl hw.2.1 rfl rfl (by rw [er_size]; kernel_rfl)) ?_
                    try simp only [Act.put, List.setIfInBounds_toArray, List.set_cons_zero, List.set_cons_succ]
                    refine take 5 _ rfl (by kernel_rfl) (by kernel_rfl) (by kernel_rfl) (fun _ _ _ h => h) (by rfl) hS (fun w hw => run_load_op 38 (.tmp 10) rfl b10 rfl hw.2.2.1 rfl rfl (by rw [er_size]; kernel_rfl)) ?_
                    try simp only [Act.put, List.setIfInBounds_toArray, List.set_cons_zero, List.set_cons_succ]
                    refine take 7 _ rfl (by kernel_rfl) (by kernel_rfl) (by kernel_rfl) (fun _ _ _ h => h) (by rfl) hS (fun w hw => run_load_op 38 (.tmp 11) rfl b11 rfl hw.2.2.2 rfl rfl (by rw [er_size]; kernel_rfl)) ?_
                    try simp only [Act.put, List.setIfInBounds_toArray, List.set_cons_zero, List.set_cons_succ]
                    refine alone 1 rfl (by kernel_rfl) (by rfl) ?_
                    intro K hK
                    go_simp
                    refine (CB8.out _).mono ?_
                    rintro e' Y1 ⟨rfl, hb⟩
                    go_simp
                    replace KB := Lib.hid (KB.out.trans (hb.mono (by have := H6.out.lt; omega)))
                    have l7 := H7.out.lt
                    replace H6 := Lib.hid (H6.out.below hb H6.out.lt)
                    replace H7 := Lib.hid (H7.out.below hb l7)
                    replace hS := sl_below hS hb
                    refine hK.out _ _ hS ?_
                    clear hK hb K l7
                    try simp only [Act.put, List.setIfInBounds_toArray, List.set_cons_zero, List.set_cons_succ]
                    refine alone 3 rfl (by kernel_rfl) (by rfl) ?_
                    intro K hK
                    go_simp
                    refine (CB9.out _).mono ?_
                    rintro e' Y2 ⟨rfl, hb⟩
                    go_simp
                    replace KB := Lib.hid (KB.out.trans (hb.mono (by have := H6.out.lt; omega)))
                    have l7 := H7.out.lt
                    replace H6 := Lib.hid (H6.out.below hb H6.out.lt)
                    replace H7 := Lib.hid (H7.out.below hb l7)
                    replace hS := sl_below hS hb
                    refine hK.out _ _ hS ?_
                    clear hK hb K l7
                    try simp only [Act.put, List.setIfInBounds_toArray, List.set_cons_zero, List.set_cons_succ]
                    refine take 4 _ rfl (by kernel_rfl) (by kernel_rfl) (by kernel_rfl) (fun _ _ _ h => h) (by rfl) hS (fun w _ => run_pair (.tmp 86) (.tmp 88) rfl (byteAt (nx2).val) (byteAt (nz2).val) rfl rfl) ?_
                    try simp only [Act.put, List.setIfInBounds_toArray, List.set_cons_zero, List.set_cons_succ]
                    refine alone 6 rfl (by kernel_rfl) (by rfl) ?_
                    intro K hK
                    go_simp
                    refine (CB10.out _).mono ?_
                    rintro e' Y3 ⟨rfl, hb⟩
                    go_simp
                    replace KB := Lib.hid (KB.out.trans (hb.mono (by have := H6.out.lt; omega)))
                    have l7 := H7.out.lt
                    replace H6 := Lib.hid (H6.out.below hb H6.out.lt)
                    replace H7 := Lib.hid (H7.out.below hb l7)
                    replace hS := sl_below hS hb
                    refine hK.out _ _ hS ?_
                    clear hK hb K l7
                    try simp only [Act.put, List.setIfInBounds_toArray, List.set_cons_zero, List.set_cons_succ]
                    refine alone 8 rfl (by kernel_rfl) (by rfl) ?_
                    intro K hK
                    go_simp
                    refine (CB11.out _).mono ?_
                    rintro e' Y4 ⟨rfl, hb⟩
                    go_simp
                    replace KB := Lib.hid (KB.out.trans (hb.mono (by have := H6.out.lt; omega)))
                    have l7 := H7.out.lt
                    replace H6 := Lib.hid (H6.out.below hb H6.out.lt)
                    replace H7 := Lib.hid (H7.out.below hb l7)
                    replace hS := sl_below hS hb
                    refine hK.out _ _ hS ?_
                    clear hK hb K l7
                    try simp only [Act.put, List.setIfInBounds_toArray, List.set_cons_zero, List.set_cons_succ]
                    refine take 9 _ rfl (by kernel_rfl) (by kernel_rfl) (by kernel_rfl) (fun _ _ _ h => h) (by rfl) hS (fun w _ => run_pair (.tmp 91) (.tmp 93) rfl (byteAt (nx3).val) (byteAt (nz3).val) rfl rfl) ?_
                    try simp only [Act.put, List.setIfInBounds_toArray, List.set_cons_zero, List.set_cons_succ]
                    refine alone 10 rfl (by kernel_rfl) (by rfl) ?_
                    intro K hK
                    refine wp_store_row 78 (.tmp 6) (.tmp 89) rfl (B + 1 + 1 + 1) (pw2 (byteAt (nx2).val) (byteAt (nz2).val)) (by rfl) (by rfl) 78 _ H6.out (by rw [pw2_size]; kernel_rfl) (by rw [pw2_size, pw2_size]) (pw2_one _ _) ?_
                    replace hS := sl_set (g := B + 1 + 1 + 1) hS (by omega) (by omega) (by omega) (by omega) (pw2 (byteAt (nx2).val) (byteAt (nz2).val))
                    refine hK.out _ _ hS ?_
                    clear hK K
                    try simp only [Act.put]
                    replace H7 := Lib.hid (Whole.farRow H7.out (g := B + 1 + 1 + 1) (by omega) (pw2 (byteAt (nx2).val) (byteAt (nz2).val)))
                    replace KB := Lib.hid (below_setRow KB.out (by omega) (g := B + 1 + 1 + 1) (pw2 (byteAt (nx2).val) (byteAt (nz2).val)))
                    replace H6 := Lib.hid (setRow_heap _ _ _ (pw2 (byteAt (nx2).val) (byteAt (nz2).val)) _ _ H6.out)
                    refine alone 11 rfl (by kernel_rfl) (by rfl) ?_
                    intro K hK
                    refine wp_store_row 78 (.tmp 7) (.tmp 94) rfl (B + 1 + 1 + 1 + 1) (pw2 (byteAt (nx3).val) (byteAt (nz3).val)) (by rfl) (by rfl) 78 _ H7.out (by rw [pw2_size]; kernel_rfl) (by rw [pw2_size, pw2_size]) (pw2_one _ _) ?_
                    replace hS := sl_set (g := B + 1 + 1 + 1 + 1) hS (by omega) (by omega) (by omega) (by omega) (pw2 (byteAt (nx3).val) (byteAt (nz3).val))
                    refine hK.out _ _ hS ?_
                    clear hK K
                    try simp only [Act.put]
                    replace H6 := Lib.hid (Whole.farRow H6.out (g := B + 1 + 1 + 1 + 1) (by omega) (pw2 (byteAt (nx3).val) (byteAt (nz3).val)))
                    replace KB := Lib.hid (below_setRow KB.out (by omega) (g := B + 1 + 1 + 1 + 1) (pw2 (byteAt (nx3).val) (byteAt (nz3).val)))
                    replace H7 := Lib.hid (setRow_heap _ _ _ (pw2 (byteAt (nx3).val) (byteAt (nz3).val)) _ _ H7.out)
                    refine region_end (by kernel_rfl) ?_
                    refine cut_post (F := Exit.then _ _) (fun X => Whole X (B + 1 + 1 + 1) 78 (pw2 (byteAt (nx2).val) (byteAt (nz2).val)) ∧ Whole X (B + 1 + 1 + 1 + 1) 78 (pw2 (byteAt (nx3).val) (byteAt (nz3).val)) ∧ Below B w X) ⟨H6.out, H7.out, KB.out⟩ ?_
                    clear hS H6 H7 KB
                    rintro X11 ⟨k6, k7, kb⟩
                    go_wp2_with fail
                    refine bodyPost_ret (results_two rfl _ _ (B + 1 + 1 + 1) 78 _ _ rfl k6 rfl rfl (by rw [pw2_size]; kernel_rfl) (B + 1 + 1 + 1 + 1) 78 _ _ rfl k7 rfl rfl (by rw [pw2_size]; kernel_rfl)) rfl ?_
                    exact ⟨rfl, by rw [hB]; exact kb⟩
end Curve
end Go.Proofs.Ytnopjjkijedpeaa
