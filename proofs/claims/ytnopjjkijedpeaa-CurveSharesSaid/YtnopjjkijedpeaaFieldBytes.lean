/- The call Bytes of package field. -/
import Derived.Test.YtnopjjkijedpeaaFieldTimes
import Derived.Test.YtnopjjkijedpeaaWordsTwo
namespace Go.Proofs.Ytnopjjkijedpeaa
namespace Field
open Go.ChangeShapes Go.WideShapes Go.ChangeAt Go.RowKit
open Num Mem Words Radix FieldN Chacha Quiet

/-- eight bytes out of two limbs -/
theorem two_limbs (v k s1 s2 : Nat) (hv : v < T) (hk : k < 4) (h1 : s1 = 13 * k) (h2 : s2 = 51 - 13 * k) :
    bits .or .u64 ((dg 2251799813685248 v k : Nat) / 2 ^ s1 : Int) (IntKind.u64.wrap ((dg 2251799813685248 v (k + 1) : Nat) * 2 ^ s2 : Int)) = ((v / 2 ^ (64 * k) % 18446744073709551616 : Nat) : Int) := by
  obtain ⟨a, ha⟩ : ∃ a, a = v / 2 ^ (64 * k) := ⟨_, rfl⟩
  have e1 : dg 2251799813685248 v k / 2 ^ s1 = a % 2 ^ s2 := by
    rw [dg, show (2251799813685248 : Nat) = 2 ^ 51 from rfl, ← Nat.pow_mul, show (2 : Nat) ^ 51 = 2 ^ s1 * 2 ^ s2 by rw [← Nat.pow_add]; congr 1; omega, Nat.mod_mul_right_div_self, Nat.div_div_eq_div_mul, ← Nat.pow_add, ha]
    congr 3
    omega
  have e2 : dg 2251799813685248 v (k + 1) = a / 2 ^ s2 % 2 ^ 51 := by
    rw [dg, show (2251799813685248 : Nat) = 2 ^ 51 from rfl, ← Nat.pow_mul, ha, Nat.div_div_eq_div_mul, ← Nat.pow_add]
    congr 3
    omega
  have hs2 : s2 ≤ 51 ∧ 12 ≤ s2 := by omega
  have hsmall : k = 3 → a / 2 ^ s2 < 2 ^ 51 := fun e => by
    subst e
    rw [ha, Nat.div_div_eq_div_mul, ← Nat.pow_add]
    refine Nat.div_lt_of_lt_mul ?_
    rw [← Nat.pow_add, show 64 * 3 + s2 + 51 = 255 by omega, T_two]
    exact hv
  have e3 : a / 2 ^ s2 % 2 ^ 51 % 2 ^ (64 - s2) = a / 2 ^ s2 % 2 ^ (64 - s2) := by
    by_cases e : k = 3
    · rw [Nat.mod_eq_of_lt (hsmall e)]
    · rw [show (2 : Nat) ^ 51 = 2 ^ (64 - s2) * 2 ^ (s2 - 13) by rw [← Nat.pow_add]; congr 1; omega, Nat.mod_mul_right_mod]
  rw [show ((dg 2251799813685248 v k : Nat) : Int) / 2 ^ s1 = ((dg 2251799813685248 v k / 2 ^ s1 : Nat) : Int) by rw [Int.natCast_ediv, Int.natCast_pow]; rfl,
    show ((dg 2251799813685248 v (k + 1) : Nat) : Int) * 2 ^ s2 = ((dg 2251799813685248 v (k + 1) * 2 ^ s2 : Nat) : Int) by rw [Int.natCast_mul, Int.natCast_pow]; rfl, wrap64_nat, e1, e2]
  have e4 : (18446744073709551616 : Nat) = 2 ^ s2 * 2 ^ (64 - s2) := by rw [← Nat.pow_add, show s2 + (64 - s2) = 64 by omega]
  have e5 : a / 2 ^ s2 % 2 ^ 51 * 2 ^ s2 % 18446744073709551616 = 2 ^ s2 * (a / 2 ^ s2 % 2 ^ (64 - s2)) := by
    rw [e4, Nat.mul_comm _ (2 ^ s2), Nat.mul_mod_mul_left, e3]
  have hlt : a % 2 ^ s2 < 2 ^ s2 := Nat.mod_lt _ (Nat.two_pow_pos _)
  have hle : (2 : Nat) ^ s2 ≤ 2 ^ 51 := Nat.pow_le_pow_right (by omega) hs2.1
  rw [or_u64 _ _ s2 (by rw [e5, Nat.mul_mod_right]) hlt (Nat.mod_lt _ (by omega)) (by omega), e5, ← ha, e4, Nat.mod_mul]

theorem byteAt_part (v k i : Nat) (hi : i < 8) : byteAt (v / 2 ^ (64 * k) % 18446744073709551616) i = byteAt v (8 * k + i) := by
  unfold byteAt
  rw [show (18446744073709551616 : Nat) = 2 ^ (8 * i) * 2 ^ (64 - 8 * i) by rw [← Nat.pow_add, show 8 * i + (64 - 8 * i) = 64 by omega], Nat.mod_mul_right_div_self, Nat.div_div_eq_div_mul, ← Nat.pow_add, show (2 : Nat) ^ (64 - 8 * i) = 256 * 2 ^ (56 - 8 * i) by rw [show (256 : Nat) = 2 ^ 8 from rfl, ← Nat.pow_add]; congr 1; omega, Nat.mod_mul_right_mod]
  congr 3
  omega

theorem bytes_wraps (k : Nat) (hk : k < 4) : IntKind.i64.wrap (13 * (k : Int)) = ((13 * k : Nat) : Int) ∧ IntKind.i64.wrap (51 - ((13 * k : Nat) : Int)) = ((51 - 13 * k : Nat) : Int) ∧ IntKind.i64.wrap ((k : Int) + 1) = ((k + 1 : Nat) : Int) ∧ IntKind.i64.wrap (8 * (k : Int)) = 8 * (k : Int) := by
  rw [IntKind.wrap_i64, IntKind.wrap_i64, IntKind.wrap_i64, IntKind.wrap_i64]
  omega

set_option maxRecDepth 100000 in
theorem bytes_any (v : Nat) (hv : v < P) (w : World) :
    Calls Try.prog 28 #[el v] w fun e w' => e = .returned (.agg (byteCells (byteAt v) 32).toArray) ∧ Below w.heap.size w w' := by
  have HT := Lib.hid (two_limbs v)
  have HVT := Lib.hid (below_T hv)
  obtain ⟨x, hx⟩ : ∃ x, x = dg 2251799813685248 v := ⟨_, rfl⟩
  have HX := Lib.hid (show ∀ i, x i < 2251799813685248 from fun i => by rw [hx]; exact limb_lt v i)
  rw [← hx] at HT
  rw [el, ← hx, qcells_lit5]
  clear hx hv
  go_enter Try.func28, Try.ntmps28
  go_upto_region 2 with fail
  refine cut_world (fun W => Whole W w.heap.size 38 (qcells x 5).toArray ∧ Whole W (w.heap.size + 1) 22 (byteCells (fun _ => 0) 32).toArray ∧ Whole W (w.heap.size + 1 + 1) 22 (byteCells (fun _ => 0) 32).toArray ∧ Below w.heap.size w W) ⟨?_, ?_, ?_, ?_⟩ ?_
  · rw [qcells_lit5]
    exact ((whole_new _ _ rfl).alloc _).alloc _
  · rw [byteCells_lit32]
    exact (whole_new _ _ (by simp)).alloc _
  · rw [byteCells_lit32]
    exact whole_new _ _ (by simp)
  · exact below_alloc (below_alloc (below_alloc (Below.refl _ _) _) _) _
  rintro W ⟨k1, k2, k3, kb⟩
  have K1 := Lib.hid k1
  have K2 := Lib.hid k2
  have K3 := Lib.hid k3
  have KB := Lib.hid kb
  clear k1 k2 k3 kb
  generalize hB : w.heap.size = B at K1 K2 K3 KB ⊢
  go_wp2_with fail
  go_loopw [6] (fun i wr => ∃ k : Nat, k ≤ 4 ∧ i = .int .i64 k ∧ Whole wr B 38 (qcells x 5).toArray ∧ Whole wr (B + 1) 22 (byteCells (fun _ => 0) 32).toArray ∧ Whole wr (B + 1 + 1) 22 (byteCells (bpart (byteAt v) (8 * k)) 32).toArray ∧ Below B w wr) (fun i _ => 4 - (intOf i).toNat)
  case atStart => exact ⟨0, by omega, rfl, K1.out, K2.out, K3.out, KB.out⟩
  case round =>
    obtain ⟨k, hk, rfl, q1, q2, q3, qb⟩ := hrel
    by_cases hlt : k < 4
    · have C7 := Lib.hid (show ∀ X, Below wr.heap.size wr X → X.cell? ⟨B, k, none⟩ = some (.int .u64 (x k : Nat)) from fun X hX => (q1.below hX q1.lt).num k (by omega))
      obtain ⟨k1, hk1⟩ : ∃ k1, k1 = k + 1 := ⟨_, rfl⟩
      obtain ⟨s1, hs1⟩ : ∃ s1, s1 = 13 * k := ⟨_, rfl⟩
      obtain ⟨s2, hs2⟩ : ∃ s2, s2 = 51 - s1 := ⟨_, rfl⟩
      obtain ⟨e1, e2, e3, e4⟩ := bytes_wraps k hlt
      rw [← hs1] at e1 e2
      rw [← hs2] at e2
      rw [← hk1] at e3
      have C8 := Lib.hid (show ∀ X, Below wr.heap.size wr X → X.cell? ⟨B, k1, none⟩ = some (.int .u64 (x k1 : Nat)) from fun X hX => (q1.below hX q1.lt).num k1 (by omega))
      have hz := HT.out k s1 s2 HVT.out hlt hs1 (by rw [hs2, hs1])
      rw [← hk1, show (2 : Int) ^ s1 = 2 ^ min s1 64 by rw [Nat.min_eq_left (by omega)], show (2 : Int) ^ s2 = 2 ^ min s2 64 by rw [Nat.min_eq_left (by omega)]] at hz
      have hsum : ∀ i, i < 8 → byteAt v (8 * k + i) = byteAt (v / 2 ^ (64 * k) % 18446744073709551616) i := fun i hi => (byteAt_part v k i hi).symm
      have hz64 : v / 2 ^ (64 * k) % 18446744073709551616 < 18446744073709551616 := Nat.mod_lt _ (by omega)
      generalize v / 2 ^ (64 * k) % 18446744073709551616 = z at hz hsum hz64
      have i1 : (k1 : Int) < 5 := by omega
      have i2 : (k : Int) < 5 := by omega
      have HSUM := Lib.hid hsum
      have HZ := Lib.hid hz
      have HW1 := Lib.hid e1
      have HW2 := Lib.hid e2
      have HK1 := Lib.hid e3
      have m1 := e4
      have Q1 := Lib.hid q1
      have Q2 := Lib.hid q2
      have Q3 := Lib.hid q3
      have QB := Lib.hid qb
      clear q1 q2 q3 qb hsum hz hk1 hs1 hs2 e1 e2 e3 e4
      go_wp2_with fail
      refine region_start (fun w' => Below wr.heap.size wr w') (by kernel_rfl) (below_drewN (Below.refl _ _) 1) ?_
      intro w3 hS
      refine take 0 _ rfl (by kernel_rfl) (by kernel_rfl) (by kernel_rfl) (fun _ _ _ h => h) (by rfl) hS (by intro w _; go_simp; with_reducible rfl) ?_
      try simp only [Act.put, List.setIfInBounds_toArray, List.set_cons_zero, List.set_cons_succ]
      refine take 1 _ rfl (by kernel_rfl) (by kernel_rfl) (by kernel_rfl) (fun _ _ _ h => h) (by rfl) hS (by intro w _; go_simp; with_reducible rfl) ?_
      try simp only [Act.put, List.setIfInBounds_toArray, List.set_cons_zero, List.set_cons_succ]
      refine take 2 _ rfl (by kernel_rfl) (by kernel_rfl) (by kernel_rfl) (fun _ _ _ h => h) (by rfl) hS (by intro w _; go_simp; with_reducible rfl) ?_
      try simp only [Act.put, List.setIfInBounds_toArray, List.set_cons_zero, List.set_cons_succ]
      refine take 3 _ rfl (by kernel_rfl) (by kernel_rfl) (by kernel_rfl) (fun _ _ _ h => h) (by rfl) hS (by intro w hw; have hcl := C7.out _ hw; go_simp; with_reducible rfl) ?_
      try simp only [Act.put, List.setIfInBounds_toArray, List.set_cons_zero, List.set_cons_succ]
      refine take 4 _ rfl (by kernel_rfl) (by kernel_rfl) (by kernel_rfl) (fun _ _ _ h => h) (by rfl) hS (by intro w _; go_simp; with_reducible rfl) ?_
      try simp only [Act.put, List.setIfInBounds_toArray, List.set_cons_zero, List.set_cons_succ]
      refine take 5 _ rfl (by kernel_rfl) (by kernel_rfl) (by kernel_rfl) (fun _ _ _ h => h) (by rfl) hS (by intro w _; go_simp; with_reducible rfl) ?_
      try simp only [Act.put, List.setIfInBounds_toArray, List.set_cons_zero, List.set_cons_succ]
      rw [HW1.out]
      refine take 6 _ rfl (by kernel_rfl) (by kernel_rfl) (by kernel_rfl) (fun _ _ _ h => h) (by rfl) hS (by intro w _; go_simp; with_reducible rfl) ?_
      try simp only [Act.put, List.setIfInBounds_toArray, List.set_cons_zero, List.set_cons_succ]
      refine take 7 _ rfl (by kernel_rfl) (by kernel_rfl) (by kernel_rfl) (fun _ _ _ h => h) (by rfl) hS (by intro w _; go_simp; with_reducible rfl) ?_
      try simp only [Act.put, List.setIfInBounds_toArray, List.set_cons_zero, List.set_cons_succ]
      refine take 8 _ rfl (by kernel_rfl) (by kernel_rfl) (by kernel_rfl) (fun _ _ _ h => h) (by rfl) hS (by intro w _; go_simp; with_reducible rfl) ?_
      try simp only [Act.put, List.setIfInBounds_toArray, List.set_cons_zero, List.set_cons_succ]
      rw [HK1.out]
      refine take 9 _ rfl (by kernel_rfl) (by kernel_rfl) (by kernel_rfl) (fun _ _ _ h => h) (by rfl) hS (by intro w _; go_simp; with_reducible rfl) ?_
      try simp only [Act.put, List.setIfInBounds_toArray, List.set_cons_zero, List.set_cons_succ]
      refine take 10 _ rfl (by kernel_rfl) (by kernel_rfl) (by kernel_rfl) (fun _ _ _ h => h) (by rfl) hS (by intro w _; go_simp; with_reducible rfl) ?_
      try simp only [Act.put, List.setIfInBounds_toArray, List.set_cons_zero, List.set_cons_succ]
      refine take 11 _ rfl (by kernel_rfl) (by kernel_rfl) (by kernel_rfl) (fun _ _ _ h => h) (by rfl) hS (by intro w hw; have hcl := C8.out _ hw; go_simp; with_reducible rfl) ?_
      try simp only [Act.put, List.setIfInBounds_toArray, List.set_cons_zero, List.set_cons_succ]
      refine take 12 _ rfl (by kernel_rfl) (by kernel_rfl) (by kernel_rfl) (fun _ _ _ h => h) (by rfl) hS (by intro w _; go_simp; with_reducible rfl) ?_
      try simp only [Act.put, List.setIfInBounds_toArray, List.set_cons_zero, List.set_cons_succ]
      refine take 13 _ rfl (by kernel_rfl) (by kernel_rfl) (by kernel_rfl) (fun _ _ _ h => h) (by rfl) hS (by intro w _; go_simp; with_reducible rfl) ?_
      try simp only [Act.put, List.setIfInBounds_toArray, List.set_cons_zero, List.set_cons_succ]
      rw [HW1.out]
      refine take 14 _ rfl (by kernel_rfl) (by kernel_rfl) (by kernel_rfl) (fun _ _ _ h => h) (by rfl) hS (by intro w _; go_simp; with_reducible rfl) ?_
      try simp only [Act.put, List.setIfInBounds_toArray, List.set_cons_zero, List.set_cons_succ]
      rw [HW2.out]
      refine take 15 _ rfl (by kernel_rfl) (by kernel_rfl) (by kernel_rfl) (fun _ _ _ h => h) (by rfl) hS (by intro w _; go_simp; with_reducible rfl) ?_
      try simp only [Act.put, List.setIfInBounds_toArray, List.set_cons_zero, List.set_cons_succ]
      refine take 16 _ rfl (by kernel_rfl) (by kernel_rfl) (by kernel_rfl) (fun _ _ _ h => h) (by rfl) hS (by intro w _; go_simp; with_reducible rfl) ?_
      try simp only [Act.put, List.setIfInBounds_toArray, List.set_cons_zero, List.set_cons_succ]
      rw [HZ.out]
      refine call_alloc_store 17 18 19 49 _ 69 26 5 (byteCells (fun _ => 0) 8).toArray (byteCells (byteAt z) 8).toArray rfl rfl rfl (by kernel_rfl) (by kernel_rfl) (by kernel_rfl) (by kernel_rfl) (by kernel_rfl) (by decide) rfl rfl rfl rfl rfl rfl (by decide) (by simp) (by simp) rfl (by intro a w; go_simp; rfl) (by kernel_rfl) rfl (bytes_one _ _) (by intro w; go_simp) (by intro p w; go_simp) (fun w hw => put64_any z hz64 w) hS ?_
      intro g11 w4 hg11 h11 hb4
      simp only [Act.put, List.setIfInBounds_toArray, List.set_cons_zero, List.set_cons_succ]
      have l11 : B + 1 + 1 < g11 := Nat.lt_of_lt_of_le Q3.out.lt hg11
      have Q1' := Lib.hid (Q1.out.below hb4 Q1.out.lt)
      have Q2' := Lib.hid (Q2.out.below hb4 Q2.out.lt)
      have Q3' := Lib.hid (Q3.out.below hb4 Q3.out.lt)
      have H11 := Lib.hid (row_reads h11)
      have hs4 : B ≤ wr.heap.size := by have := Q1.out.lt; omega
      have QB' := Lib.hid (QB.out.trans (hb4.mono hs4))
      have hb0 := below_drewN (B := B + 1 + 1) (Below.refl (B + 1 + 1) w4) 1
      have m2 : (8 * (k : Int)).toNat = 8 * k := by omega
      have m3 : 8 * (k : Int) ≤ 32 := by omega
      have m4 : 0 ≤ 8 * (k : Int) := by omega
      have m5 : ¬ 32 = 8 * k := by omega
      clear h11 hb4 hS Q1 Q2 Q3 C7 C8 QB
      go_wp2_with fail
      go_region_law (refine step_copy_splice rfl (.tmp 29) (.tmp 30) 26 26 rfl 5 rfl (by kernel_rfl) (some ⟨B + 1 + 1, 8 * k, none⟩) (some ⟨g11, 0, none⟩) (32 - 8 * k) (32 - 8 * k) 8 8 rfl rfl (B + 1 + 1) (8 * k) (byteCells (bpart (byteAt v) (8 * k)) 32) 22 Q3'.out (byteCells (byteAt z) 8) (by rw [byteCells_length]; exact (Nat.min_eq_left (by omega)).symm) (fun _ => ⟨rfl, _, rfl, H11.out⟩) (by rw [byteCells_length, byteCells_length]; omega) (bytes_each _ _) (B + 1 + 1) w4 hb0 (Nat.le_refl _) ?_; intro w5 hg5 hb5)
      have hg5' : Whole w5 (B + 1 + 1) 22 (byteCells (bpart (byteAt v) (8 * (k + 1))) 32).toArray := by
        have h := hg5.out
        rw [byteCells_splice (bpart (byteAt v) (8 * k)) (byteAt z) (bpart (byteAt v) (8 * (k + 1))) 32 (8 * k) 8 (by omega) (fun i hi => by
          unfold bpart
          by_cases c1 : 8 * k ≤ i ∧ i < 8 * k + 8
          · rw [if_pos c1, if_pos (by omega), ← HSUM.out (i - 8 * k) (by omega), show 8 * k + (i - 8 * k) = i by omega]
          · rw [if_neg c1]
            by_cases c2 : i < 8 * k
            · rw [if_pos c2, if_pos (by omega)]
            · rw [if_neg c2, if_neg (by omega)])] at h
        exact h
      have R1 := Lib.hid (Q1'.out.below hb5 (by omega))
      have R2 := Lib.hid (Q2'.out.below hb5 (by omega))
      have R3 := Lib.hid hg5'
      have RB := Lib.hid (QB'.out.trans (hb5.mono (by omega)))
      clear hg5 hg5' hb5 hb0
      go_wp2_with fail
      go_roundw
      case rel => exact ⟨k + 1, by omega, by go_num, R1.out, R2.out, R3.out, RB.out⟩
      case measure => simp [intOf]; omega
    · obtain rfl : k = 4 := by omega
      have hG : byteCells (bpart (byteAt v) (8 * 4)) 32 = byteCells (byteAt v) 32 := byteCells_congr fun i hi => by
        unfold bpart
        rw [if_pos hi]
      rw [hG] at q3
      generalize hF : byteAt v = F at q3
      have HF := Lib.hid hF
      clear hF
      have hz32 : (byteCells F 32).toArray.size = 32 := by simp [byteCells_length]
      have Q2 := Lib.hid q2
      have Q3 := Lib.hid q3
      have QB := Lib.hid (below_setRow qb (show B ≤ B + 1 by omega) (byteCells F 32).toArray)
      have HZ := Lib.hid hz32
      clear q1 q2 q3 qb hG hz32
      go_wp2_with (first | (refine wpList_load_row rfl 22 (.tmp 3) rfl (B + 1 + 1) rfl 22 (byteCells F 32).toArray (0, 0) _ Q3.out rfl rfl (by rw [HZ.out]; kernel_rfl) ?_) | (refine wpList_store_row rfl 22 (.tmp 2) (.tmp 33) rfl (B + 1) (byteCells F 32).toArray rfl rfl 22 _ Q2.out (by rw [HZ.out]; kernel_rfl) (by rw [HZ.out]; rfl) (bytes_one _ _) ?_))
      have hret : Whole (wr.setRow (B + 1) (byteCells F 32).toArray) (B + 1) 22 (byteCells F 32).toArray := setRow_heap wr _ _ _ _ _ Q2.out
      refine bodyPost_ret (results_cell_row rfl _ _ (B + 1) 22 _ (0, 0) _ rfl hret rfl rfl (by rw [HZ.out]; kernel_rfl)) rfl ?_
      exact ⟨by rw [HF.out], by rw [hB]; exact QB.out⟩

end Field
end Go.Proofs.Ytnopjjkijedpeaa
