/- The walk of 'FieldSums'. -/
import Derived.Test.YtnopjjkijedpeaaFieldAlive
import Derived.Test.YtnopjjkijedpeaaRefTake
import Derived.Test.YtnopjjkijedpeaaRefBytes
import Derived.Test.YtnopjjkijedpeaaTree
import Derived.Test.YtnopjjkijedpeaaFloat
import Derived.Deep.DeepCutAuto
namespace Go.Proofs.Ytnopjjkijedpeaa
namespace FieldSums
open Go.ChangeShapes Go.WideShapes Go.ChangeAt Go.RowKit
open Num Mem Words Radix FieldN Chacha Quiet Go.Proofs.Ytnopjjkijedpeaa.Field

theorem taken_lt (f : Nat → Nat) : le f 0 32 % T < RefF.M256 := Nat.lt_of_lt_of_le (Nat.mod_lt _ (by have := T_big; omega)) (by have := RefF.M_T; omega)
theorem cc2_lt {v : Nat} (h : v < 8 * RefF.M256) : RefF.cc2 v < RefF.M256 := RefF.cv_two (Nat.lt_of_lt_of_le (Nat.div_lt_of_lt_mul (by rw [Nat.mul_comm]; exact h)) (by omega))
theorem M_P3 : RefF.M256 < 3 * P := by have := RefF.M_P; have := P_big; omega
theorem sub_same (x y : Nat) (hy : y < 3 * P) : (x + 4 * P - y) % P = (x % P + (P - y % P)) % P := by
  have h1 := Nat.div_add_mod x P
  have h2 := Nat.div_add_mod y P
  have hq : y / P < 3 := Nat.div_lt_of_lt_mul (by rw [Nat.mul_comm]; exact hy)
  have hb := Nat.mod_lt y P_pos
  generalize x / P = q at h1
  generalize x % P = a at h1 ⊢
  generalize y / P = r at h2 hq
  generalize y % P = b at h2 hb ⊢
  have e : x + 4 * P - y = a + (P - b) + P * (q + (3 - r)) := by
    rw [Nat.mul_add, ← h1, ← h2]
    generalize P * q = Z
    rcases (show r = 0 ∨ r = 1 ∨ r = 2 by omega) with rfl | rfl | rfl <;> omega
  rw [e, Nat.add_mul_mod_self_left]
theorem run_mk32 (o : Oper) (a : Act) (w : World) (ho : o.op = .makeSlice 26 (.const (.int .i64 32)) (.const (.int .i64 32))) : (execOp a.eval o).run Try.prog w = .ok (.value (.slice (some ⟨w.heap.size, 0, none⟩) 32 32)) (w.alloc (.cells (byteCells (fun _ => 0) 32).toArray 5)) := by
  unfold execOp
  simp only [ho]
  kernel_rfl
theorem strings_beq (s t : ByteArray) : (s.toList == t.toList) = decide (s = t) := by
  rw [ByteArray.toList_eq, ByteArray.toList_eq]
  by_cases h : s = t
  · subst h
    simp
  · have : ¬ s.data.toList = t.data.toList := fun e => h (by
      rcases s with ⟨d⟩
      rcases t with ⟨e'⟩
      congr 1
      exact Array.toList_inj.1 e)
    rw [decide_eq_false h]
    simpa using this
theorem str_eq (p3 : Nat) (h3 : p3 < P) (r : Bool) (hr : r = decide (p3 = 0)) : decide (strOf (byteAt p3) 32 = strOf (fun _ => 0) 32) = r := by
  have hz : byteAt 0 = fun _ => 0 := funext fun i => by unfold byteAt; rw [Nat.zero_div]
  rw [hr, decide_eq_decide, strOf_eq_iff (byteAt_lt _) (fun _ => by omega)]
  constructor
  · rintro ⟨_, he⟩
    have h4 : tk (byteAt p3) = tk (byteAt 0) := by
      unfold tk
      rw [le_congr (g := byteAt 0) (q := 0) 32 fun i hi => by rw [Nat.zero_add, he i hi, hz]]
    rw [tk_byteAt P_pos, tk_byteAt h3] at h4
    exact h4
  · intro h5
    exact ⟨rfl, fun i _ => by rw [h5, hz]⟩

set_option maxRecDepth 100000 in
set_option maxHeartbeats 4000000 in
theorem walk (f g : Nat → Nat) (w : World) (hf : ∀ i, f i < 256) (hg : ∀ i, g i < 256) :
    Calls Try.prog 3 #[.agg (byteCells f 32).toArray, .agg (byteCells g 32).toArray] w fun e w' => e = .returned (.bool true) ∧ Below w.heap.size w w' := by
  obtain ⟨p1, h1⟩ : ∃ v, v = (tk f + tk g) % P := ⟨_, rfl⟩
  obtain ⟨p2, h2⟩ : ∃ v, v = (tk f + (P - tk g)) % P := ⟨_, rfl⟩
  obtain ⟨p3, h3⟩ : ∃ v, v = tk f := ⟨_, rfl⟩
  obtain ⟨x, hx⟩ : ∃ v, v = le f 0 32 % T := ⟨_, rfl⟩
  obtain ⟨y, hy⟩ : ∃ v, v = le g 0 32 % T := ⟨_, rfl⟩
  obtain ⟨XL, hXL⟩ : ∃ v, v = dg 65536 x := ⟨_, rfl⟩
  obtain ⟨YL, hYL⟩ : ∃ v, v = dg 65536 y := ⟨_, rfl⟩
  have lx : x < RefF.M256 := by rw [hx]; exact taken_lt f
  have ly : y < RefF.M256 := by rw [hy]; exact taken_lt g
  have HTF := Lib.hid (RefF.take_any (some ⟨w.heap.size, 0, none⟩) 32 f hf)
  have HTG := Lib.hid (RefF.take_any (some ⟨w.heap.size + 1, 0, none⟩) 32 g hg)
  have HP1 := Lib.hid (RefF.add_any x y lx ly)
  have HP2 := Lib.hid (RefF.sub_any x y lx ly)
  have HA1 := Lib.hid (addV hf hg rfl rfl h1)
  have HA2 := Lib.hid (subV hf hg rfl rfl h2)
  have HA3 := Lib.hid (redV hf h3.symm)
  have hb1 := RefF.bytes_any (RefF.cc2 (x + y)) (cc2_lt (by omega))
  have hb2 := RefF.bytes_any (RefF.cc2 (x + 4 * P - y)) (cc2_lt (by have := RefF.M_P; omega))
  have hbx := RefF.bytes_any x lx
  have e1 : RefF.cc2 (x + y) % P = p1 := by
    rw [RefF.cc2_mod, h1, hx, hy, Nat.add_mod]
    rfl
  have e2 : RefF.cc2 (x + 4 * P - y) % P = p2 := by
    rw [RefF.cc2_mod, h2]
    rw [sub_same x y (Nat.lt_trans ly M_P3), hx, hy]
    rfl
  have e3 : x % P = p3 := by rw [h3, hx]; rfl
  rw [e1] at hb1
  rw [e2] at hb2
  rw [e3] at hbx
  obtain ⟨r, hr⟩ : ∃ r : Bool, r = decide (p3 = 0) := ⟨_, rfl⟩
  have HZR := Lib.hid (zerV hf h3.symm r (by rw [hr]; simp))
  have HEQ := Lib.hid (str_eq p3 (by rw [h3]; exact tk_lt f) r hr)
  have HB1 := Lib.hid hb1
  have HB2 := Lib.hid hb2
  have HBX := Lib.hid hbx
  rw [← hx, RefF.nv, ← hXL] at HTF
  rw [← hy, RefF.nv, ← hYL] at HTG
  rw [RefF.nv, RefF.nv, ← hXL, ← hYL] at HP1 HP2
  rw [RefF.nv] at HB1 HB2 HBX
  rw [RefF.nv] at HP1 HP2
  rw [← hXL] at HBX
  generalize dg 65536 (RefF.cc2 (x + y)) = SL at HP1 HB1
  generalize dg 65536 (RefF.cc2 (x + 4 * P - y)) = DL at HP2 HB2
  have HZ := Lib.hid (show ∀ f, (byteCells f 32).toArray.size = 32 from fun f => by rw [List.size_toArray, byteCells_length])
  clear h1 h2 h3 hx hy hXL hYL lx ly hf hg hb1 hb2 hbx e1 e2 e3 hr
  go_enter Try.func3, Try.ntmps3
  go_upto_region 1 with fail
  refine cut_world (fun W => Whole W w.heap.size 22 (byteCells f 32).toArray ∧ Whole W (w.heap.size + 1) 22 (byteCells g 32).toArray ∧ Below w.heap.size w W) ⟨?_, ?_, ?_⟩ ?_
  · exact (whole_new _ _ (by simp)).alloc _
  · exact whole_new _ _ (by simp)
  · exact below_alloc (below_alloc (Below.refl _ _) _) _
  rintro W ⟨k1, k2, kb⟩
  have K1 := Lib.hid k1
  have K2 := Lib.hid k2
  have KB := Lib.hid kb
  have RF := Lib.hid (Rd.of_whole k1)
  have RG := Lib.hid (Rd.of_whole k2)
  clear k1 k2 kb
  generalize hB : w.heap.size = B at K1 K2 KB RF RG HTF HTG ⊢
  refine region_drew (fun _ => True) (by kernel_rfl) trivial ?_
  intro hT
  have hS : Below W.heap.size W W.drew := below_drewN (Below.refl _ _) 1
  refine Float.float (W := W) [(0, 11, .is (.slice (some ⟨B, 0, none⟩) 32 32)), (1, 12, .is (.agg (icells XL 16).toArray)), (2, 13, .is (.slice (some ⟨B + 1, 0, none⟩) 32 32)), (3, 14, .is (.agg (icells YL 16).toArray)), (4, 5, .row 24 (icells (fun _ => 0) 16).toArray), (5, 6, .row 24 (icells (fun _ => 0) 16).toArray)] [0, 1, 2, 3, 4, 5] 2 rfl (by rfl) (by kernel_rfl) (by kernel_rfl) (by kernel_rfl) (by kernel_rfl) (by kernel_rfl) (fun γ => rfl) hS (fun _ _ => trivial) ?_ ?_
  · intro γ
    simp only [Float.puts, Act.put, List.setIfInBounds_toArray, List.set_cons_zero, List.set_cons_succ]
    refine ⟨?_, ?_, ?_, ?_, ?_, ?_, trivial⟩
    · exact ⟨_, _, rfl, Float.does_take (by intro w _; go_simp; try with_reducible rfl)⟩
    · exact ⟨_, _, rfl, Float.does_call 10 (#[.slice (some ⟨B, 0, none⟩) 32 32]) (by intro w; go_simp; try with_reducible rfl) (fun w hw => HTF.out w (RF.out.below hw (Nat.le_refl _)))⟩
    · exact ⟨_, _, rfl, Float.does_take (by intro w _; go_simp; try with_reducible rfl)⟩
    · exact ⟨_, _, rfl, Float.does_call 10 (#[.slice (some ⟨B + 1, 0, none⟩) 32 32]) (by intro w; go_simp; try with_reducible rfl) (fun w hw => HTG.out w (RG.out.below hw (Nat.le_refl _)))⟩
    · exact ⟨_, _, rfl, fun w => by go_simp; try rfl⟩
    · exact ⟨_, _, rfl, fun w => by go_simp; try rfl⟩
  · intro γ v hS hrows hne
    simp only [Float.puts, Act.put, List.setIfInBounds_toArray, List.set_cons_zero, List.set_cons_succ]
    obtain ⟨⟨hge5, hg5⟩, ⟨hge6, hg6⟩, -⟩ := hrows
    have hne5_6 := hne 4 5 rfl rfl (by decide) (by decide) (by decide)
    clear hne
    generalize γ 4 = b5 at *
    have Hg5 := Lib.hid hg5
    clear hg5
    generalize γ 5 = b6 at *
    have Hg6 := Lib.hid hg6
    clear hg6
    clear γ
    have lt_K1 := K1.out.lt
    replace K1 := Lib.hid (K1.out.below hS lt_K1)
    have lt_K2 := K2.out.lt
    replace K2 := Lib.hid (K2.out.below hS lt_K2)
    replace KB := Lib.hid (KB.out.trans (hS.mono (by omega)))
    refine alone 6 rfl (by kernel_rfl) (by rfl) ?_
    intro K hK
    refine wp_store_row 24 (.tmp 5) (.tmp 12) rfl b5 (icells XL 16).toArray (by rfl) (by rfl) 24 _ Hg5.out (by rw [icells_size]; kernel_rfl) (by rw [icells_size, icells_size]) (icells_one _ _) ?_
    refine hK.out _ _ trivial ?_
    clear hK K
    try simp only [Act.put]
    replace K1 := Lib.hid (Whole.farRow K1.out (g := b5) (by omega) (icells XL 16).toArray)
    replace K2 := Lib.hid (Whole.farRow K2.out (g := b5) (by omega) (icells XL 16).toArray)
    replace Hg6 := Lib.hid (Whole.farRow Hg6.out (g := b5) (by omega) (icells XL 16).toArray)
    replace KB := Lib.hid (below_setRow KB.out (by omega) (g := b5) (icells XL 16).toArray)
    replace Hg5 := Lib.hid (setRow_heap _ _ _ (icells XL 16).toArray _ _ Hg5.out)
    refine alone 7 rfl (by kernel_rfl) (by rfl) ?_
    intro K hK
    refine wp_store_row 24 (.tmp 6) (.tmp 14) rfl b6 (icells YL 16).toArray (by rfl) (by rfl) 24 _ Hg6.out (by rw [icells_size]; kernel_rfl) (by rw [icells_size, icells_size]) (icells_one _ _) ?_
    refine hK.out _ _ trivial ?_
    clear hK K
    try simp only [Act.put]
    replace K1 := Lib.hid (Whole.farRow K1.out (g := b6) (by omega) (icells YL 16).toArray)
    replace K2 := Lib.hid (Whole.farRow K2.out (g := b6) (by omega) (icells YL 16).toArray)
    replace Hg5 := Lib.hid (Whole.farRow Hg5.out (g := b6) (by omega) (icells YL 16).toArray)
    replace KB := Lib.hid (below_setRow KB.out (by omega) (g := b6) (icells YL 16).toArray)
    replace Hg6 := Lib.hid (setRow_heap _ _ _ (icells YL 16).toArray _ _ Hg6.out)
    refine region_end (by kernel_rfl) ?_
    refine cut_post (F := Exit.then _ _) (fun X => Whole X (B) 22 (byteCells f 32).toArray ∧ Whole X (B + 1) 22 (byteCells g 32).toArray ∧ Whole X (b5) 24 (icells XL 16).toArray ∧ Whole X (b6) 24 (icells YL 16).toArray ∧ Below B w X ∧ B ≤ X.heap.size) ⟨K1.out, K2.out, Hg5.out, Hg6.out, KB.out, ?_⟩ ?_
    · have := Whole.lt Hg6.out
      omega
    clear KB hS hT K1 K2 lt_K1 lt_K2 Hg5 Hg6 hge5 hge6
    rintro U0 ⟨kK1, kK2, kN1, kN2, kb, hV⟩
    have K1 := Lib.hid kK1
    have K2 := Lib.hid kK2
    have N1 := Lib.hid kN1
    have N2 := Lib.hid kN2
    have KB := Lib.hid kb
    clear kb kK1 kK2 kN1 kN2
    clear RF RG HTF HTG
    go_wp2_with fail
    refine region_drew (fun _ => True) (by kernel_rfl) trivial ?_
    intro hT
    have hS : Below U0.heap.size U0 U0.drew := below_drewN (Below.refl _ _) 1
    refine Float.float (W := U0) [(0, 15, .is (B32 f)), (1, 16, .is (B32 g)), (2, 17, .is (B32 (byteAt p1))), (3, 18, .is (B32 f)), (4, 19, .is (B32 g)), (5, 20, .is (B32 (byteAt p2))), (6, 21, .is (B32 f)), (7, 22, .is (B32 (byteAt p3))), (8, 7, .row 22 (byteCells (fun _ => 0) 32).toArray), (9, 8, .row 22 (byteCells (fun _ => 0) 32).toArray), (10, 9, .row 22 (byteCells (fun _ => 0) 32).toArray)] [0, 1, 2, 3, 4, 5, 6, 7, 8, 9, 10] 3 rfl (by rfl) (by kernel_rfl) (by kernel_rfl) (by kernel_rfl) (by kernel_rfl) (by kernel_rfl) (fun γ => rfl) hS (fun _ _ => trivial) ?_ ?_
    · intro γ
      simp only [Float.puts, Act.put, List.setIfInBounds_toArray, List.set_cons_zero, List.set_cons_succ]
      refine ⟨?_, ?_, ?_, ?_, ?_, ?_, ?_, ?_, ?_, ?_, ?_, trivial⟩
      · exact ⟨_, _, rfl, Float.does_take (fun w hw => run_load_op 22 (.tmp 2) rfl (B) rfl (K1.out.below hw K1.out.lt) rfl rfl (by rw [HZ.out]; kernel_rfl))⟩
      · exact ⟨_, _, rfl, Float.does_take (fun w hw => run_load_op 22 (.tmp 3) rfl (B + 1) rfl (K2.out.below hw K2.out.lt) rfl rfl (by rw [HZ.out]; kernel_rfl))⟩
      · exact ⟨_, _, rfl, Float.does_call 11 (#[B32 f, B32 g]) (by intro w; go_simp; try with_reducible rfl) (fun w hw => HA1.out w)⟩
      · exact ⟨_, _, rfl, Float.does_take (fun w hw => run_load_op 22 (.tmp 2) rfl (B) rfl (K1.out.below hw K1.out.lt) rfl rfl (by rw [HZ.out]; kernel_rfl))⟩
      · exact ⟨_, _, rfl, Float.does_take (fun w hw => run_load_op 22 (.tmp 3) rfl (B + 1) rfl (K2.out.below hw K2.out.lt) rfl rfl (by rw [HZ.out]; kernel_rfl))⟩
      · exact ⟨_, _, rfl, Float.does_call 12 (#[B32 f, B32 g]) (by intro w; go_simp; try with_reducible rfl) (fun w hw => HA2.out w)⟩
      · exact ⟨_, _, rfl, Float.does_take (fun w hw => run_load_op 22 (.tmp 2) rfl (B) rfl (K1.out.below hw K1.out.lt) rfl rfl (by rw [HZ.out]; kernel_rfl))⟩
      · exact ⟨_, _, rfl, Float.does_call 13 (#[B32 f]) (by intro w; go_simp; try with_reducible rfl) (fun w hw => HA3.out w)⟩
      · exact ⟨_, _, rfl, fun w => by go_simp; try rfl⟩
      · exact ⟨_, _, rfl, fun w => by go_simp; try rfl⟩
      · exact ⟨_, _, rfl, fun w => by go_simp; try rfl⟩
    · intro γ v hS hrows hne
      simp only [Float.puts, Act.put, List.setIfInBounds_toArray, List.set_cons_zero, List.set_cons_succ]
      obtain ⟨⟨hge7, hg7⟩, ⟨hge8, hg8⟩, ⟨hge9, hg9⟩, -⟩ := hrows
      have hne7_8 := hne 8 9 rfl rfl (by decide) (by decide) (by decide)
      have hne7_9 := hne 8 10 rfl rfl (by decide) (by decide) (by decide)
      have hne8_9 := hne 9 10 rfl rfl (by decide) (by decide) (by decide)
      clear hne
      generalize γ 8 = b7 at *
      have Hg7 := Lib.hid hg7
      clear hg7
      generalize γ 9 = b8 at *
      have Hg8 := Lib.hid hg8
      clear hg8
      generalize γ 10 = b9 at *
      have Hg9 := Lib.hid hg9
      clear hg9
      clear γ
      have lt_K1 := K1.out.lt
      replace K1 := Lib.hid (K1.out.below hS lt_K1)
      have lt_K2 := K2.out.lt
      replace K2 := Lib.hid (K2.out.below hS lt_K2)
      have lt_N1 := N1.out.lt
      replace N1 := Lib.hid (N1.out.below hS lt_N1)
      have lt_N2 := N2.out.lt
      replace N2 := Lib.hid (N2.out.below hS lt_N2)
      replace KB := Lib.hid (KB.out.trans (hS.mono (by omega)))
      refine alone 11 rfl (by kernel_rfl) (by rfl) ?_
      intro K hK
      refine wp_store_row 22 (.tmp 7) (.tmp 17) rfl b7 (byteCells (byteAt p1) 32).toArray (by rfl) (by rfl) 22 _ Hg7.out (by rw [HZ.out]; kernel_rfl) (by rw [HZ.out, HZ.out]) (bytes_one _ _) ?_
      refine hK.out _ _ trivial ?_
      clear hK K
      try simp only [Act.put]
      replace K1 := Lib.hid (Whole.farRow K1.out (g := b7) (by omega) (byteCells (byteAt p1) 32).toArray)
      replace K2 := Lib.hid (Whole.farRow K2.out (g := b7) (by omega) (byteCells (byteAt p1) 32).toArray)
      replace N1 := Lib.hid (Whole.farRow N1.out (g := b7) (by omega) (byteCells (byteAt p1) 32).toArray)
      replace N2 := Lib.hid (Whole.farRow N2.out (g := b7) (by omega) (byteCells (byteAt p1) 32).toArray)
      replace Hg8 := Lib.hid (Whole.farRow Hg8.out (g := b7) (by omega) (byteCells (byteAt p1) 32).toArray)
      replace Hg9 := Lib.hid (Whole.farRow Hg9.out (g := b7) (by omega) (byteCells (byteAt p1) 32).toArray)
      replace KB := Lib.hid (below_setRow KB.out (by omega) (g := b7) (byteCells (byteAt p1) 32).toArray)
      replace Hg7 := Lib.hid (setRow_heap _ _ _ (byteCells (byteAt p1) 32).toArray _ _ Hg7.out)
      refine alone 12 rfl (by kernel_rfl) (by rfl) ?_
      intro K hK
      refine wp_store_row 22 (.tmp 8) (.tmp 20) rfl b8 (byteCells (byteAt p2) 32).toArray (by rfl) (by rfl) 22 _ Hg8.out (by rw [HZ.out]; kernel_rfl) (by rw [HZ.out, HZ.out]) (bytes_one _ _) ?_
      refine hK.out _ _ trivial ?_
      clear hK K
      try simp only [Act.put]
      replace K1 := Lib.hid (Whole.farRow K1.out (g := b8) (by omega) (byteCells (byteAt p2) 32).toArray)
      replace K2 := Lib.hid (Whole.farRow K2.out (g := b8) (by omega) (byteCells (byteAt p2) 32).toArray)
      replace N1 := Lib.hid (Whole.farRow N1.out (g := b8) (by omega) (byteCells (byteAt p2) 32).toArray)
      replace N2 := Lib.hid (Whole.farRow N2.out (g := b8) (by omega) (byteCells (byteAt p2) 32).toArray)
      replace Hg7 := Lib.hid (Whole.farRow Hg7.out (g := b8) (by omega) (byteCells (byteAt p2) 32).toArray)
      replace Hg9 := Lib.hid (Whole.farRow Hg9.out (g := b8) (by omega) (byteCells (byteAt p2) 32).toArray)
      replace KB := Lib.hid (below_setRow KB.out (by omega) (g := b8) (byteCells (byteAt p2) 32).toArray)
      replace Hg8 := Lib.hid (setRow_heap _ _ _ (byteCells (byteAt p2) 32).toArray _ _ Hg8.out)
      refine alone 13 rfl (by kernel_rfl) (by rfl) ?_
      intro K hK
      refine wp_store_row 22 (.tmp 9) (.tmp 22) rfl b9 (byteCells (byteAt p3) 32).toArray (by rfl) (by rfl) 22 _ Hg9.out (by rw [HZ.out]; kernel_rfl) (by rw [HZ.out, HZ.out]) (bytes_one _ _) ?_
      refine hK.out _ _ trivial ?_
      clear hK K
      try simp only [Act.put]
      replace K1 := Lib.hid (Whole.farRow K1.out (g := b9) (by omega) (byteCells (byteAt p3) 32).toArray)
      replace K2 := Lib.hid (Whole.farRow K2.out (g := b9) (by omega) (byteCells (byteAt p3) 32).toArray)
      replace N1 := Lib.hid (Whole.farRow N1.out (g := b9) (by omega) (byteCells (byteAt p3) 32).toArray)
      replace N2 := Lib.hid (Whole.farRow N2.out (g := b9) (by omega) (byteCells (byteAt p3) 32).toArray)
      replace Hg7 := Lib.hid (Whole.farRow Hg7.out (g := b9) (by omega) (byteCells (byteAt p3) 32).toArray)
      replace Hg8 := Lib.hid (Whole.farRow Hg8.out (g := b9) (by omega) (byteCells (byteAt p3) 32).toArray)
      replace KB := Lib.hid (below_setRow KB.out (by omega) (g := b9) (byteCells (byteAt p3) 32).toArray)
      replace Hg9 := Lib.hid (setRow_heap _ _ _ (byteCells (byteAt p3) 32).toArray _ _ Hg9.out)
      refine region_end (by kernel_rfl) ?_
      refine cut_post (F := Exit.then _ _) (fun X => Whole X (B) 22 (byteCells f 32).toArray ∧ Whole X (b5) 24 (icells XL 16).toArray ∧ Whole X (b6) 24 (icells YL 16).toArray ∧ Whole X (b7) 22 (byteCells (byteAt p1) 32).toArray ∧ Whole X (b8) 22 (byteCells (byteAt p2) 32).toArray ∧ Whole X (b9) 22 (byteCells (byteAt p3) 32).toArray ∧ Below B w X ∧ B ≤ X.heap.size) ⟨K1.out, N1.out, N2.out, Hg7.out, Hg8.out, Hg9.out, KB.out, ?_⟩ ?_
      · have := Whole.lt Hg9.out
        omega
      clear KB hS hT K1 K2 N1 N2 lt_K1 lt_K2 lt_N1 lt_N2 Hg7 Hg8 Hg9 hge7 hge8 hge9
      rintro V ⟨kK1, kN1, kN2, kM1, kM2, kM3, kb, hV⟩
      have K1 := Lib.hid kK1
      have N1 := Lib.hid kN1
      have N2 := Lib.hid kN2
      have M1 := Lib.hid kM1
      have M2 := Lib.hid kM2
      have M3 := Lib.hid kM3
      have KB := Lib.hid kb
      clear kb kK1 kN1 kN2 kM1 kM2 kM3
      go_wp2_with fail
      go_cut [10] (fun s5 wx => s5 = .bool r ∧ Below V.heap.size V wx)
      case first =>
        refine region_drew (fun x => Below V.heap.size V x) (by kernel_rfl) (Below.drew (Below.refl _ _)) ?_
        intro hS
        generalize hW0 : V.drew = W0 at hS ⊢
        clear hW0
        refine take 0 _ rfl (by kernel_rfl) (by kernel_rfl) (by kernel_rfl) (fun _ _ _ h => h) (by rfl) hS (fun w hw => run_load_op 24 (.tmp 5) rfl b5 rfl (N1.out.below hw N1.out.lt) rfl rfl (by rw [icells_size]; kernel_rfl)) ?_
        try simp only [Act.put, List.setIfInBounds_toArray, List.set_cons_zero, List.set_cons_succ]
        refine ready_two 1 3 rfl rfl (by kernel_rfl) (by rfl) (by rfl) ?_ ?_
        · intro K hK
          go_simp
          refine (HBX.out _).mono ?_
          rintro e W01 ⟨A1, cc1, rfl, oc, hb⟩
          go_simp
          have RR1 := Lib.hid oc.rd
          replace hS := below_trans hS hb
          refine hK.out _ _ hS ?_
          clear hK K hb oc
          try simp only [Act.put, List.setIfInBounds_toArray, List.set_cons_zero, List.set_cons_succ]
          refine ready_two 2 3 rfl rfl (by kernel_rfl) (by rfl) (by rfl) ?_ ?_
          · intro K hK
            unfold Oper.wp
            rw [run_string_op 26 9 5 _ rfl rfl Try.underlying26 Try.underlying5 Try.underlying9 RR1.out]
            refine hK.out _ _ hS ?_
            clear hK K
            try simp only [Act.put, List.setIfInBounds_toArray, List.set_cons_zero, List.set_cons_succ]
            refine alone 3 rfl (by kernel_rfl) (by rfl) ?_
            intro K hK
            unfold Oper.wp
            rw [run_mk32 _ _ _ rfl]
            have RR3 := Lib.hid (Rd.of_whole (f := fun _ => 0) (n := 32) (Whole.new W01 5 (byteCells (fun _ => 0) 32).toArray))
            have hb : Below W01.heap.size W01 (W01.alloc (.cells (byteCells (fun _ => 0) 32).toArray 5)) := below_alloc (Below.refl _ _) _
            replace RR1 := Lib.hid (RR1.out.below hb (Nat.le_refl _))
            replace hS := below_trans hS hb
            refine hK.out _ _ hS ?_
            clear hK K hb
            generalize W01.alloc (.cells (byteCells (fun _ => 0) 32).toArray 5) = W013 at *
            generalize W01.heap.size = gz at *
            try simp only [Act.put, List.setIfInBounds_toArray, List.set_cons_zero, List.set_cons_succ]
            refine alone 4 rfl (by kernel_rfl) (by rfl) ?_
            intro K hK
            unfold Oper.wp
            rw [run_string_op 26 9 5 _ rfl rfl Try.underlying26 Try.underlying5 Try.underlying9 RR3.out]
            refine hK.out _ _ hS ?_
            clear hK K
            try simp only [Act.put, List.setIfInBounds_toArray, List.set_cons_zero, List.set_cons_succ]
            refine take 5 _ rfl (by kernel_rfl) (by kernel_rfl) (by kernel_rfl) (fun _ _ _ h => h) (by rfl) hS (by intro w _; go_simp; try with_reducible rfl) ?_
            try simp only [Act.put, List.setIfInBounds_toArray, List.set_cons_zero, List.set_cons_succ]
            refine take 6 _ rfl (by kernel_rfl) (by kernel_rfl) (by kernel_rfl) (fun _ _ _ h => h) (by rfl) hS (by intro w _; go_simp; try with_reducible rfl) ?_
            try simp only [Act.put, List.setIfInBounds_toArray, List.set_cons_zero, List.set_cons_succ]
            refine region_end (by kernel_rfl) ?_
            go_wp2_with fail
            go_meet
            exact ⟨by rw [strings_beq, HEQ.out], hS⟩
          · intro K hK
            unfold Oper.wp
            rw [run_mk32 _ _ _ rfl]
            have RR3 := Lib.hid (Rd.of_whole (f := fun _ => 0) (n := 32) (Whole.new W01 5 (byteCells (fun _ => 0) 32).toArray))
            have hb : Below W01.heap.size W01 (W01.alloc (.cells (byteCells (fun _ => 0) 32).toArray 5)) := below_alloc (Below.refl _ _) _
            replace RR1 := Lib.hid (RR1.out.below hb (Nat.le_refl _))
            replace hS := below_trans hS hb
            refine hK.out _ _ hS ?_
            clear hK K hb
            generalize W01.alloc (.cells (byteCells (fun _ => 0) 32).toArray 5) = W013 at *
            generalize W01.heap.size = gz at *
            try simp only [Act.put, List.setIfInBounds_toArray, List.set_cons_zero, List.set_cons_succ]
            refine ready_two 2 4 rfl rfl (by kernel_rfl) (by rfl) (by rfl) ?_ ?_
            · intro K hK
              unfold Oper.wp
              rw [run_string_op 26 9 5 _ rfl rfl Try.underlying26 Try.underlying5 Try.underlying9 RR1.out]
              refine hK.out _ _ hS ?_
              clear hK K
              try simp only [Act.put, List.setIfInBounds_toArray, List.set_cons_zero, List.set_cons_succ]
              refine alone 4 rfl (by kernel_rfl) (by rfl) ?_
              intro K hK
              unfold Oper.wp
              rw [run_string_op 26 9 5 _ rfl rfl Try.underlying26 Try.underlying5 Try.underlying9 RR3.out]
              refine hK.out _ _ hS ?_
              clear hK K
              try simp only [Act.put, List.setIfInBounds_toArray, List.set_cons_zero, List.set_cons_succ]
              refine take 5 _ rfl (by kernel_rfl) (by kernel_rfl) (by kernel_rfl) (fun _ _ _ h => h) (by rfl) hS (by intro w _; go_simp; try with_reducible rfl) ?_
              try simp only [Act.put, List.setIfInBounds_toArray, List.set_cons_zero, List.set_cons_succ]
              refine take 6 _ rfl (by kernel_rfl) (by kernel_rfl) (by kernel_rfl) (fun _ _ _ h => h) (by rfl) hS (by intro w _; go_simp; try with_reducible rfl) ?_
              try simp only [Act.put, List.setIfInBounds_toArray, List.set_cons_zero, List.set_cons_succ]
              refine region_end (by kernel_rfl) ?_
              go_wp2_with fail
              go_meet
              exact ⟨by rw [strings_beq, HEQ.out], hS⟩
            · intro K hK
              unfold Oper.wp
              rw [run_string_op 26 9 5 _ rfl rfl Try.underlying26 Try.underlying5 Try.underlying9 RR3.out]
              refine hK.out _ _ hS ?_
              clear hK K
              try simp only [Act.put, List.setIfInBounds_toArray, List.set_cons_zero, List.set_cons_succ]
              refine alone 2 rfl (by kernel_rfl) (by rfl) ?_
              intro K hK
              unfold Oper.wp
              rw [run_string_op 26 9 5 _ rfl rfl Try.underlying26 Try.underlying5 Try.underlying9 RR1.out]
              refine hK.out _ _ hS ?_
              clear hK K
              try simp only [Act.put, List.setIfInBounds_toArray, List.set_cons_zero, List.set_cons_succ]
              refine take 5 _ rfl (by kernel_rfl) (by kernel_rfl) (by kernel_rfl) (fun _ _ _ h => h) (by rfl) hS (by intro w _; go_simp; try with_reducible rfl) ?_
              try simp only [Act.put, List.setIfInBounds_toArray, List.set_cons_zero, List.set_cons_succ]
              refine take 6 _ rfl (by kernel_rfl) (by kernel_rfl) (by kernel_rfl) (fun _ _ _ h => h) (by rfl) hS (by intro w _; go_simp; try with_reducible rfl) ?_
              try simp only [Act.put, List.setIfInBounds_toArray, List.set_cons_zero, List.set_cons_succ]
              refine region_end (by kernel_rfl) ?_
              go_wp2_with fail
              go_meet
              exact ⟨by rw [strings_beq, HEQ.out], hS⟩
        · intro K hK
          unfold Oper.wp
          rw [run_mk32 _ _ _ rfl]
          have RR3 := Lib.hid (Rd.of_whole (f := fun _ => 0) (n := 32) (Whole.new W0 5 (byteCells (fun _ => 0) 32).toArray))
          have hb : Below W0.heap.size W0 (W0.alloc (.cells (byteCells (fun _ => 0) 32).toArray 5)) := below_alloc (Below.refl _ _) _
          replace hS := below_trans hS hb
          refine hK.out _ _ hS ?_
          clear hK K hb
          generalize W0.alloc (.cells (byteCells (fun _ => 0) 32).toArray 5) = W03 at *
          generalize W0.heap.size = gz at *
          try simp only [Act.put, List.setIfInBounds_toArray, List.set_cons_zero, List.set_cons_succ]
          refine ready_two 1 4 rfl rfl (by kernel_rfl) (by rfl) (by rfl) ?_ ?_
          · intro K hK
            go_simp
            refine (HBX.out _).mono ?_
            rintro e W031 ⟨A1, cc1, rfl, oc, hb⟩
            go_simp
            have RR1 := Lib.hid oc.rd
            replace RR3 := Lib.hid (RR3.out.below hb (Nat.le_refl _))
            replace hS := below_trans hS hb
            refine hK.out _ _ hS ?_
            clear hK K hb oc
            try simp only [Act.put, List.setIfInBounds_toArray, List.set_cons_zero, List.set_cons_succ]
            refine ready_two 2 4 rfl rfl (by kernel_rfl) (by rfl) (by rfl) ?_ ?_
            · intro K hK
              unfold Oper.wp
              rw [run_string_op 26 9 5 _ rfl rfl Try.underlying26 Try.underlying5 Try.underlying9 RR1.out]
              refine hK.out _ _ hS ?_
              clear hK K
              try simp only [Act.put, List.setIfInBounds_toArray, List.set_cons_zero, List.set_cons_succ]
              refine alone 4 rfl (by kernel_rfl) (by rfl) ?_
              intro K hK
              unfold Oper.wp
              rw [run_string_op 26 9 5 _ rfl rfl Try.underlying26 Try.underlying5 Try.underlying9 RR3.out]
              refine hK.out _ _ hS ?_
              clear hK K
              try simp only [Act.put, List.setIfInBounds_toArray, List.set_cons_zero, List.set_cons_succ]
              refine take 5 _ rfl (by kernel_rfl) (by kernel_rfl) (by kernel_rfl) (fun _ _ _ h => h) (by rfl) hS (by intro w _; go_simp; try with_reducible rfl) ?_
              try simp only [Act.put, List.setIfInBounds_toArray, List.set_cons_zero, List.set_cons_succ]
              refine take 6 _ rfl (by kernel_rfl) (by kernel_rfl) (by kernel_rfl) (fun _ _ _ h => h) (by rfl) hS (by intro w _; go_simp; try with_reducible rfl) ?_
              try simp only [Act.put, List.setIfInBounds_toArray, List.set_cons_zero, List.set_cons_succ]
              refine region_end (by kernel_rfl) ?_
              go_wp2_with fail
              go_meet
              exact ⟨by rw [strings_beq, HEQ.out], hS⟩
            · intro K hK
              unfold Oper.wp
              rw [run_string_op 26 9 5 _ rfl rfl Try.underlying26 Try.underlying5 Try.underlying9 RR3.out]
              refine hK.out _ _ hS ?_
              clear hK K
              try simp only [Act.put, List.setIfInBounds_toArray, List.set_cons_zero, List.set_cons_succ]
              refine alone 2 rfl (by kernel_rfl) (by rfl) ?_
              intro K hK
              unfold Oper.wp
              rw [run_string_op 26 9 5 _ rfl rfl Try.underlying26 Try.underlying5 Try.underlying9 RR1.out]
              refine hK.out _ _ hS ?_
              clear hK K
              try simp only [Act.put, List.setIfInBounds_toArray, List.set_cons_zero, List.set_cons_succ]
              refine take 5 _ rfl (by kernel_rfl) (by kernel_rfl) (by kernel_rfl) (fun _ _ _ h => h) (by rfl) hS (by intro w _; go_simp; try with_reducible rfl) ?_
              try simp only [Act.put, List.setIfInBounds_toArray, List.set_cons_zero, List.set_cons_succ]
              refine take 6 _ rfl (by kernel_rfl) (by kernel_rfl) (by kernel_rfl) (fun _ _ _ h => h) (by rfl) hS (by intro w _; go_simp; try with_reducible rfl) ?_
              try simp only [Act.put, List.setIfInBounds_toArray, List.set_cons_zero, List.set_cons_succ]
              refine region_end (by kernel_rfl) ?_
              go_wp2_with fail
              go_meet
              exact ⟨by rw [strings_beq, HEQ.out], hS⟩
          · intro K hK
            unfold Oper.wp
            rw [run_string_op 26 9 5 _ rfl rfl Try.underlying26 Try.underlying5 Try.underlying9 RR3.out]
            refine hK.out _ _ hS ?_
            clear hK K
            try simp only [Act.put, List.setIfInBounds_toArray, List.set_cons_zero, List.set_cons_succ]
            refine alone 1 rfl (by kernel_rfl) (by rfl) ?_
            intro K hK
            go_simp
            refine (HBX.out _).mono ?_
            rintro e W031 ⟨A1, cc1, rfl, oc, hb⟩
            go_simp
            have RR1 := Lib.hid oc.rd
            replace RR3 := Lib.hid (RR3.out.below hb (Nat.le_refl _))
            replace hS := below_trans hS hb
            refine hK.out _ _ hS ?_
            clear hK K hb oc
            try simp only [Act.put, List.setIfInBounds_toArray, List.set_cons_zero, List.set_cons_succ]
            refine alone 2 rfl (by kernel_rfl) (by rfl) ?_
            intro K hK
            unfold Oper.wp
            rw [run_string_op 26 9 5 _ rfl rfl Try.underlying26 Try.underlying5 Try.underlying9 RR1.out]
            refine hK.out _ _ hS ?_
            clear hK K
            try simp only [Act.put, List.setIfInBounds_toArray, List.set_cons_zero, List.set_cons_succ]
            refine take 5 _ rfl (by kernel_rfl) (by kernel_rfl) (by kernel_rfl) (fun _ _ _ h => h) (by rfl) hS (by intro w _; go_simp; try with_reducible rfl) ?_
            try simp only [Act.put, List.setIfInBounds_toArray, List.set_cons_zero, List.set_cons_succ]
            refine take 6 _ rfl (by kernel_rfl) (by kernel_rfl) (by kernel_rfl) (fun _ _ _ h => h) (by rfl) hS (by intro w _; go_simp; try with_reducible rfl) ?_
            try simp only [Act.put, List.setIfInBounds_toArray, List.set_cons_zero, List.set_cons_succ]
            refine region_end (by kernel_rfl) ?_
            go_wp2_with fail
            go_meet
            exact ⟨by rw [strings_beq, HEQ.out], hS⟩
      case rest =>
        obtain ⟨rfl, hS⟩ := hcut
        replace KB := Lib.hid (KB.out.trans (hS.mono hV))
        have RD1 := Lib.hid ((Rd.of_whole M1.out).below hS (Nat.le_refl _))
        have RD2 := Lib.hid ((Rd.of_whole M2.out).below hS (Nat.le_refl _))
        have RD3 := Lib.hid ((Rd.of_whole M3.out).below hS (Nat.le_refl _))
        replace N1 := Lib.hid (N1.out.below hS N1.out.lt)
        replace N2 := Lib.hid (N2.out.below hS N2.out.lt)
        replace K1 := Lib.hid (K1.out.below hS K1.out.lt)
        have hlc : B ≤ wc.heap.size := by have := hS.size; omega
        clear M1 M2 M3 hS HEQ
        go_wp2_with fail
        refine region_drew (fun x => Below wc.heap.size wc x) (by kernel_rfl) (Below.drew (Below.refl _ _)) ?_
        intro hS
        refine alone 0 rfl (by kernel_rfl) (by rfl) ?_
        intro K hK
        go_simp
        refine (alive_any _).mono ?_
        rintro e q0 ⟨rfl, hb⟩
        go_simp
        replace hS := below_trans hS hb
        refine hK.out _ _ hS ?_
        clear hK hb K
        try simp only [Act.put, List.setIfInBounds_toArray, List.set_cons_zero, List.set_cons_succ]
        refine take 1 _ rfl (by kernel_rfl) (by kernel_rfl) (by kernel_rfl) (fun _ _ _ h => h) (by rfl) hS (by intro w _; go_simp; with_reducible rfl) ?_
        try simp only [Act.put, List.setIfInBounds_toArray, List.set_cons_zero, List.set_cons_succ]
        refine take 2 _ rfl (by kernel_rfl) (by kernel_rfl) (by kernel_rfl) (fun _ _ _ h => h) (by rfl) hS (by intro w _; go_simp; with_reducible rfl) ?_
        try simp only [Act.put, List.setIfInBounds_toArray, List.set_cons_zero, List.set_cons_succ]
        refine take 3 _ rfl (by kernel_rfl) (by kernel_rfl) (by kernel_rfl) (fun _ _ _ h => h) (by rfl) hS (fun w hw => run_string_op 26 9 5 _ rfl rfl Try.underlying26 Try.underlying5 Try.underlying9 (RD1.out.below hw (Nat.le_refl _))) ?_
        try simp only [Act.put, List.setIfInBounds_toArray, List.set_cons_zero, List.set_cons_succ]
        refine take 4 _ rfl (by kernel_rfl) (by kernel_rfl) (by kernel_rfl) (fun _ _ _ h => h) (by rfl) hS (fun w hw => run_load_op 24 (.tmp 5) rfl (b5) rfl (N1.out.below hw N1.out.lt) rfl rfl (by rw [icells_size]; kernel_rfl)) ?_
        try simp only [Act.put, List.setIfInBounds_toArray, List.set_cons_zero, List.set_cons_succ]
        refine take 5 _ rfl (by kernel_rfl) (by kernel_rfl) (by kernel_rfl) (fun _ _ _ h => h) (by rfl) hS (fun w hw => run_load_op 24 (.tmp 6) rfl (b6) rfl (N2.out.below hw N2.out.lt) rfl rfl (by rw [icells_size]; kernel_rfl)) ?_
        try simp only [Act.put, List.setIfInBounds_toArray, List.set_cons_zero, List.set_cons_succ]
        refine alone 6 rfl (by kernel_rfl) (by rfl) ?_
        intro K hK
        go_simp
        refine (HP1.out _).mono ?_
        rintro e q6 ⟨rfl, hb⟩
        go_simp
        replace hS := below_trans hS hb
        refine hK.out _ _ hS ?_
        clear hK hb K
        try simp only [Act.put, List.setIfInBounds_toArray, List.set_cons_zero, List.set_cons_succ]
        refine alone 7 rfl (by kernel_rfl) (by rfl) ?_
        intro K hK
        go_simp
        refine (HB1.out _).mono ?_
        rintro e q7 ⟨AC1, cc1, rfl, oc, hb⟩
        have OC1 := Lib.hid oc.rd
        clear oc
        go_simp
        replace hS := below_trans hS hb
        refine hK.out _ _ hS ?_
        clear hK hb K
        try simp only [Act.put, List.setIfInBounds_toArray, List.set_cons_zero, List.set_cons_succ]
        refine alone_run 8 _ rfl (by kernel_rfl) (by rfl) hS (run_string_op 26 9 5 _ rfl rfl Try.underlying26 Try.underlying5 Try.underlying9 (OC1.out)) ?_
        try simp only [Act.put, List.setIfInBounds_toArray, List.set_cons_zero, List.set_cons_succ]
        refine take 9 _ rfl (by kernel_rfl) (by kernel_rfl) (by kernel_rfl) (fun _ _ _ h => h) (by rfl) hS (by intro w _; go_simp; with_reducible rfl) ?_
        try simp only [Act.put, List.setIfInBounds_toArray, List.set_cons_zero, List.set_cons_succ]
        refine take 10 _ rfl (by kernel_rfl) (by kernel_rfl) (by kernel_rfl) (fun _ _ _ h => h) (by rfl) hS (by intro w _; go_simp; with_reducible rfl) ?_
        try simp only [Act.put, List.setIfInBounds_toArray, List.set_cons_zero, List.set_cons_succ]
        refine take 11 _ rfl (by kernel_rfl) (by kernel_rfl) (by kernel_rfl) (fun _ _ _ h => h) (by rfl) hS (by intro w _; go_simp; with_reducible rfl) ?_
        try simp only [Act.put, List.setIfInBounds_toArray, List.set_cons_zero, List.set_cons_succ]
        refine take 12 _ rfl (by kernel_rfl) (by kernel_rfl) (by kernel_rfl) (fun _ _ _ h => h) (by rfl) hS (by intro w _; go_simp; with_reducible rfl) ?_
        try simp only [Act.put, List.setIfInBounds_toArray, List.set_cons_zero, List.set_cons_succ]
        refine take 13 _ rfl (by kernel_rfl) (by kernel_rfl) (by kernel_rfl) (fun _ _ _ h => h) (by rfl) hS (fun w hw => run_string_op 26 9 5 _ rfl rfl Try.underlying26 Try.underlying5 Try.underlying9 (RD2.out.below hw (Nat.le_refl _))) ?_
        try simp only [Act.put, List.setIfInBounds_toArray, List.set_cons_zero, List.set_cons_succ]
        refine take 14 _ rfl (by kernel_rfl) (by kernel_rfl) (by kernel_rfl) (fun _ _ _ h => h) (by rfl) hS (fun w hw => run_load_op 24 (.tmp 5) rfl (b5) rfl (N1.out.below hw N1.out.lt) rfl rfl (by rw [icells_size]; kernel_rfl)) ?_
        try simp only [Act.put, List.setIfInBounds_toArray, List.set_cons_zero, List.set_cons_succ]
        refine take 15 _ rfl (by kernel_rfl) (by kernel_rfl) (by kernel_rfl) (fun _ _ _ h => h) (by rfl) hS (fun w hw => run_load_op 24 (.tmp 6) rfl (b6) rfl (N2.out.below hw N2.out.lt) rfl rfl (by rw [icells_size]; kernel_rfl)) ?_
        try simp only [Act.put, List.setIfInBounds_toArray, List.set_cons_zero, List.set_cons_succ]
        refine alone 16 rfl (by kernel_rfl) (by rfl) ?_
        intro K hK
        go_simp
        refine (HP2.out _).mono ?_
        rintro e q16 ⟨rfl, hb⟩
        go_simp
        replace hS := below_trans hS hb
        refine hK.out _ _ hS ?_
        clear hK hb K
        try simp only [Act.put, List.setIfInBounds_toArray, List.set_cons_zero, List.set_cons_succ]
        refine alone 17 rfl (by kernel_rfl) (by rfl) ?_
        intro K hK
        go_simp
        refine (HB2.out _).mono ?_
        rintro e q17 ⟨AC2, cc2, rfl, oc, hb⟩
        have OC2 := Lib.hid oc.rd
        clear oc
        go_simp
        replace hS := below_trans hS hb
        refine hK.out _ _ hS ?_
        clear hK hb K
        try simp only [Act.put, List.setIfInBounds_toArray, List.set_cons_zero, List.set_cons_succ]
        refine alone_run 18 _ rfl (by kernel_rfl) (by rfl) hS (run_string_op 26 9 5 _ rfl rfl Try.underlying26 Try.underlying5 Try.underlying9 (OC2.out)) ?_
        try simp only [Act.put, List.setIfInBounds_toArray, List.set_cons_zero, List.set_cons_succ]
        refine take 19 _ rfl (by kernel_rfl) (by kernel_rfl) (by kernel_rfl) (fun _ _ _ h => h) (by rfl) hS (by intro w _; go_simp; with_reducible rfl) ?_
        try simp only [Act.put, List.setIfInBounds_toArray, List.set_cons_zero, List.set_cons_succ]
        refine take 20 _ rfl (by kernel_rfl) (by kernel_rfl) (by kernel_rfl) (fun _ _ _ h => h) (by rfl) hS (by intro w _; go_simp; with_reducible rfl) ?_
        try simp only [Act.put, List.setIfInBounds_toArray, List.set_cons_zero, List.set_cons_succ]
        refine take 21 _ rfl (by kernel_rfl) (by kernel_rfl) (by kernel_rfl) (fun _ _ _ h => h) (by rfl) hS (by intro w _; go_simp; with_reducible rfl) ?_
        try simp only [Act.put, List.setIfInBounds_toArray, List.set_cons_zero, List.set_cons_succ]
        refine take 22 _ rfl (by kernel_rfl) (by kernel_rfl) (by kernel_rfl) (fun _ _ _ h => h) (by rfl) hS (by intro w _; go_simp; with_reducible rfl) ?_
        try simp only [Act.put, List.setIfInBounds_toArray, List.set_cons_zero, List.set_cons_succ]
        refine take 23 _ rfl (by kernel_rfl) (by kernel_rfl) (by kernel_rfl) (fun _ _ _ h => h) (by rfl) hS (fun w hw => run_string_op 26 9 5 _ rfl rfl Try.underlying26 Try.underlying5 Try.underlying9 (RD3.out.below hw (Nat.le_refl _))) ?_
        try simp only [Act.put, List.setIfInBounds_toArray, List.set_cons_zero, List.set_cons_succ]
        refine take 24 _ rfl (by kernel_rfl) (by kernel_rfl) (by kernel_rfl) (fun _ _ _ h => h) (by rfl) hS (fun w hw => run_load_op 24 (.tmp 5) rfl (b5) rfl (N1.out.below hw N1.out.lt) rfl rfl (by rw [icells_size]; kernel_rfl)) ?_
        try simp only [Act.put, List.setIfInBounds_toArray, List.set_cons_zero, List.set_cons_succ]
        refine alone 25 rfl (by kernel_rfl) (by rfl) ?_
        intro K hK
        go_simp
        refine (HBX.out _).mono ?_
        rintro e q25 ⟨AC3, cc3, rfl, oc, hb⟩
        have OC3 := Lib.hid oc.rd
        clear oc
        go_simp
        replace hS := below_trans hS hb
        refine hK.out _ _ hS ?_
        clear hK hb K
        try simp only [Act.put, List.setIfInBounds_toArray, List.set_cons_zero, List.set_cons_succ]
        refine alone_run 26 _ rfl (by kernel_rfl) (by rfl) hS (run_string_op 26 9 5 _ rfl rfl Try.underlying26 Try.underlying5 Try.underlying9 (OC3.out)) ?_
        try simp only [Act.put, List.setIfInBounds_toArray, List.set_cons_zero, List.set_cons_succ]
        refine take 27 _ rfl (by kernel_rfl) (by kernel_rfl) (by kernel_rfl) (fun _ _ _ h => h) (by rfl) hS (by intro w _; go_simp; with_reducible rfl) ?_
        try simp only [Act.put, List.setIfInBounds_toArray, List.set_cons_zero, List.set_cons_succ]
        refine take 28 _ rfl (by kernel_rfl) (by kernel_rfl) (by kernel_rfl) (fun _ _ _ h => h) (by rfl) hS (by intro w _; go_simp; with_reducible rfl) ?_
        try simp only [Act.put, List.setIfInBounds_toArray, List.set_cons_zero, List.set_cons_succ]
        refine take 29 _ rfl (by kernel_rfl) (by kernel_rfl) (by kernel_rfl) (fun _ _ _ h => h) (by rfl) hS (by intro w _; go_simp; with_reducible rfl) ?_
        try simp only [Act.put, List.setIfInBounds_toArray, List.set_cons_zero, List.set_cons_succ]
        refine take 30 _ rfl (by kernel_rfl) (by kernel_rfl) (by kernel_rfl) (fun _ _ _ h => h) (by rfl) hS (fun w hw => run_load_op 22 (.tmp 2) rfl (B) rfl (K1.out.below hw K1.out.lt) rfl rfl (by rw [HZ.out]; kernel_rfl)) ?_
        try simp only [Act.put, List.setIfInBounds_toArray, List.set_cons_zero, List.set_cons_succ]
        refine take 32 _ rfl (by kernel_rfl) (by kernel_rfl) (by kernel_rfl) (fun _ _ _ h => h) (by rfl) hS (by intro w _; go_simp; with_reducible rfl) ?_
        try simp only [Act.put, List.setIfInBounds_toArray, List.set_cons_zero, List.set_cons_succ]
        refine alone 31 rfl (by kernel_rfl) (by rfl) ?_
        intro K hK
        go_simp
        refine (HZR.out _).mono ?_
        rintro e q31 ⟨rfl, hb⟩
        go_simp
        replace hS := below_trans hS hb
        refine hK.out _ _ hS ?_
        clear hK hb K
        try simp only [Act.put, List.setIfInBounds_toArray, List.set_cons_zero, List.set_cons_succ]
        refine take 33 _ rfl (by kernel_rfl) (by kernel_rfl) (by kernel_rfl) (fun _ _ _ h => h) (by rfl) hS (by intro w _; go_simp; with_reducible rfl) ?_
        try simp only [Act.put, List.setIfInBounds_toArray, List.set_cons_zero, List.set_cons_succ]
        refine take 34 _ rfl (by kernel_rfl) (by kernel_rfl) (by kernel_rfl) (fun _ _ _ h => h) (by rfl) hS (by intro w _; go_simp; with_reducible rfl) ?_
        try simp only [Act.put, List.setIfInBounds_toArray, List.set_cons_zero, List.set_cons_succ]
        refine take 35 _ rfl (by kernel_rfl) (by kernel_rfl) (by kernel_rfl) (fun _ _ _ h => h) (by rfl) hS (by intro w _; go_simp; with_reducible rfl) ?_
        try simp only [Act.put, List.setIfInBounds_toArray, List.set_cons_zero, List.set_cons_succ]
        refine region_end (by kernel_rfl) ?_
        have HB9 := Lib.hid (KB.out.trans (hS.mono hlc))
        clear hS
        go_wp2_with fail
        go_ret
        exact ⟨by simp, by rw [hB]; exact HB9.out⟩

end FieldSums
end Go.Proofs.Ytnopjjkijedpeaa
