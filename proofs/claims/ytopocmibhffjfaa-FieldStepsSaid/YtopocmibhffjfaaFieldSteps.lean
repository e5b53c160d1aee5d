/- The walk of 'FieldSteps'. -/
import Derived.Test.YtopocmibhffjfaaFieldAlive
import Derived.Test.YtopocmibhffjfaaFieldSmall
namespace Go.Proofs.Ytopocmibhffjfaa
namespace FieldSteps
open Go.ChangeShapes Go.WideShapes Go.ChangeAt Go.RowKit
open Num Mem Words Radix FieldN Chacha Quiet Go.Proofs.Ytopocmibhffjfaa.Field

/-- half of a number of bytes -/
def hal (e : Nat → Nat) (i : Nat) : Nat := if i < 31 then e i / 2 + e (i + 1) % 2 * 128 else e i / 2
theorem hal_lt {e : Nat → Nat} (he : ∀ i, e i < 256) (i : Nat) : hal e i < 256 := by
  have := he i
  unfold hal
  split <;> omega
theorem hal_part (e : Nat → Nat) : ∀ k, k ≤ 31 → 2 * le (hal e) 0 k + e 0 % 2 = le e 0 k + e k % 2 * 2 ^ (8 * k)
  | 0, _ => by simp [le]
  | k + 1, hk => by
    have ih := hal_part e k (by omega)
    rw [le, le, Nat.zero_add, pow8_succ, show hal e k = e k / 2 + e (k + 1) % 2 * 128 from if_pos (by omega)]
    generalize 2 ^ (8 * k) = M at ih
    have h1 := Nat.div_add_mod (e k) 2
    rw [show e k * M = 2 * (e k / 2) * M + e k % 2 * M by rw [← Nat.add_mul, h1], Nat.mul_add, Nat.add_mul, Nat.mul_add, show 2 * (e (k + 1) % 2 * 128 * M) = e (k + 1) % 2 * (256 * M) by rw [show (256 : Nat) = 2 * 128 from rfl]; ac_rfl, ← Nat.mul_assoc]
    omega
theorem hal_le (e : Nat → Nat) : 2 * le (hal e) 0 32 + e 0 % 2 = le e 0 32 := by
  have ih := hal_part e 31 (by omega)
  rw [show (32 : Nat) = 31 + 1 from rfl, FieldSmall.le_succ (hal e) 0 31, FieldSmall.le_succ e 0 31, show (0 + 31 : Nat) = 31 from rfl, show hal e 31 = e 31 / 2 from if_neg (by omega)]
  generalize (2 : Nat) ^ (8 * 31) = M at ih ⊢
  have h1 := Nat.div_add_mod (e 31) 2
  rw [show e 31 * M = 2 * (e 31 / 2) * M + e 31 % 2 * M by rw [← Nat.add_mul, h1], Nat.mul_add, ← Nat.mul_assoc]
  omega
theorem hal_or (e : Nat → Nat) (he : ∀ i, e i < 256) (k : Nat) (hk : k < 31) : bits .or .u8 ((e k / 2 : Nat) : Int) (IntKind.u8.wrap ((e (k + 1) : Nat) * 128)) = ((hal e k : Nat) : Int) := by
  have h1 := he k
  rw [show IntKind.u8.wrap (((e (k + 1) : Nat) : Int) * 128) = ((e (k + 1) % 2 * 128 : Nat) : Int) by rw [IntKind.wrap_u8]; omega, u8_or_nat _ _ (by omega) (by omega), Nat.or_comm, nat_join 7 _ _ (by omega) (by omega), show hal e k = e k / 2 + e (k + 1) % 2 * 128 from if_pos hk]
  congr 1
  omega
theorem hal_next {h : Nat → Nat} {k : Nat} (v : Nat) (hv : v = h k) : byteCells (fun i => if i = k then v else if i < k then h i else 0) 32 = byteCells (fun i => if i < k + 1 then h i else 0) 32 := by
  refine byteCells_congr fun i _ => ?_
  subst hv
  by_cases e : i = k
  · subst e
    rw [if_pos rfl, if_pos (by omega)]
  · rw [if_neg e]
    by_cases l : i < k
    · rw [if_pos l, if_pos (by omega)]
    · rw [if_neg l, if_neg (by omega)]
theorem steps_even (a E H : Nat) (h : E = 2 * H + 0) : a ^ E % P = (a ^ H % P) * (a ^ H % P) % P := by
  rw [h, Nat.add_zero, ← Nat.mul_mod, ← Nat.pow_add, Nat.two_mul]
theorem steps_odd (a E H : Nat) (h : E = 2 * H + 1) : a ^ E % P = (a ^ H % P) * (a ^ H % P) % P * a % P := by
  rw [h, Nat.mod_mul_mod, Nat.mul_assoc, Nat.mod_mul_mod, Nat.mul_left_comm, Nat.mod_mul_mod, Nat.pow_succ, Nat.two_mul, Nat.pow_add, Nat.mul_assoc]

set_option maxRecDepth 100000 in
theorem even (f e : Nat → Nat) (w : World) (hf : ∀ i, f i < 256) (he : ∀ i, e i < 256) (ho : e 0 % 2 = 0) :
    Calls Try.prog 9 #[.agg (byteCells f 32).toArray, .agg (byteCells e 32).toArray] w fun e w' => e = .returned (.bool true) ∧ Below w.heap.size w w' := by
  obtain ⟨h, hhd⟩ : ∃ h, h = hal e := ⟨_, rfl⟩
  have hh : ∀ i, h i < 256 := by rw [hhd]; exact hal_lt he
  obtain ⟨a, ta⟩ : ∃ v, tk f = v := ⟨_, rfl⟩
  obtain ⟨E, tE⟩ : ∃ v, le e 0 32 = v := ⟨_, rfl⟩
  obtain ⟨H, tH⟩ : ∃ v, le h 0 32 = v := ⟨_, rfl⟩
  have l_a : a < P := ta ▸ tk_lt f
  have hEH : E = 2 * H + 0 := by
    have h1 := hal_le e
    rw [ho] at h1
    rw [← tE, ← tH, hhd]
    exact h1.symm
  have hc1 : (bits .and .u8 ((e 0 : Nat) : Int) 1 == 1) = false := by rw [and1 _ (he 0), ho]; rfl
  have HHN := Lib.hid (fun i (_ : i < 32) => congrFun hhd i)
  have HHA := Lib.hid he
  obtain ⟨v1, h_v1⟩ : ∃ v, v = a ^ H % P := ⟨_, rfl⟩
  have l_v1 : v1 < P := by rw [h_v1]; exact Nat.mod_lt _ P_pos
  have c1 := Lib.hid (powV hf hh ta tH h_v1)
  obtain ⟨v2, h_v2⟩ : ∃ v, v = v1 * v1 % P := ⟨_, rfl⟩
  have l_v2 : v2 < P := by rw [h_v2]; exact Nat.mod_lt _ P_pos
  have c2 := Lib.hid (mulV (byteAt_lt v1) (byteAt_lt v1) (tk_byteAt l_v1) (tk_byteAt l_v1) h_v2)
  obtain ⟨v3, h_v3⟩ : ∃ v, v = a ^ E % P := ⟨_, rfl⟩
  have l_v3 : v3 < P := by rw [h_v3]; exact Nat.mod_lt _ P_pos
  have c3 := Lib.hid (powV hf he ta tE h_v3)
  have c_r_v2 := Lib.hid (redV (byteAt_lt v2) (tk_byteAt l_v2))
  obtain ⟨v4, h_v4⟩ : ∃ v, v = a ^ 0 % P := ⟨_, rfl⟩
  have l_v4 : v4 < P := by rw [h_v4]; exact Nat.mod_lt _ P_pos
  have c4 := Lib.hid (powV hf (byteAt_lt 0) ta (le_byteAt32 0 (show 0 < T by have := P_big; have := P_T; omega)) h_v4)
  obtain ⟨v5, h_v5⟩ : ∃ v, v = a ^ 1 % P := ⟨_, rfl⟩
  have l_v5 : v5 < P := by rw [h_v5]; exact Nat.mod_lt _ P_pos
  have c5 := Lib.hid (powV hf (byteAt_lt 1) ta (le_byteAt32 1 (show 1 < T by have := P_big; have := P_T; omega)) h_v5)
  have c_r_f := Lib.hid (redV hf ta)
  have e_v3_v2 := Lib.hid (show ∀ w, (Op.equalIn 10000 22 (.agg (byteCells (byteAt v3) 32).toArray) (.agg (byteCells (byteAt v2) 32).toArray)).run Try.prog w = .ok true w from same_of (by rw [h_v3, h_v2, h_v1]; exact steps_even a E H hEH))
  have e_r_v2_v2 := Lib.hid (show ∀ w, (Op.equalIn 10000 22 (.agg (byteCells (byteAt v2) 32).toArray) (.agg (byteCells (byteAt v2) 32).toArray)).run Try.prog w = .ok true w from same_of rfl)
  have e_v4_k1 := Lib.hid (show ∀ w, (Op.equalIn 10000 22 (.agg (byteCells (byteAt v4) 32).toArray) (.agg (byteCells (byteAt 1) 32).toArray)).run Try.prog w = .ok true w from same_of (by rw [h_v4, Nat.pow_zero, Nat.mod_eq_of_lt (by have := P_big; omega)]))
  have e_v5_r_f := Lib.hid (show ∀ w, (Op.equalIn 10000 22 (.agg (byteCells (byteAt v5) 32).toArray) (.agg (byteCells (byteAt a) 32).toArray)).run Try.prog w = .ok true w from same_of (by rw [h_v5, Nat.pow_one, Nat.mod_eq_of_lt l_a]))
  clear h_v1 l_v1 h_v2 l_v2 h_v3 l_v3 h_v4 l_v4 h_v5 l_v5 tE tH ta l_a hEH hf hh ho hhd
  have HZ := Lib.hid (show ∀ f, (byteCells f 32).toArray.size = 32 from fun f => by rw [List.size_toArray, byteCells_length])
  rw [byteCells_lit32 f, byteCells_lit32 e]
  go_enter Try.func9, Try.ntmps9
  go_upto_region 2 with fail
  rw [← byteCells_lit32 f, ← byteCells_lit32 e]
  refine cut_world (fun W => Whole W w.heap.size 22 (byteCells f 32).toArray ∧ Whole W (w.heap.size + 1) 22 (byteCells e 32).toArray ∧ Whole W (w.heap.size + 1 + 1) 22 (byteCells (fun _ => 0) 32).toArray ∧ Below w.heap.size w W) ⟨?_, ?_, ?_, ?_⟩ ?_
  · exact ((whole_new _ _ rfl).alloc _).alloc _
  · exact (whole_new _ _ (by simp)).alloc _
  · rw [byteCells_lit32 fun _ => 0]
    exact whole_new _ _ (by simp)
  · exact below_alloc (below_alloc (below_alloc (Below.refl _ _) _) _) _
  rintro W ⟨k1, k2, k3, kb⟩
  have K1 := Lib.hid k1
  have K2 := Lib.hid k2
  have K3 := Lib.hid k3
  have KB := Lib.hid kb
  clear k1 k2 k3 kb
  generalize hB : w.heap.size = B at K1 K2 K3 KB ⊢
  go_wp2_with fail
  go_loopw [6] (fun i wr => ∃ k : Nat, k ≤ 32 ∧ i = .int .i64 k ∧ Whole wr B 22 (byteCells f 32).toArray ∧ Whole wr (B + 1) 22 (byteCells e 32).toArray ∧ Whole wr (B + 1 + 1) 22 (byteCells (fun i => if i < k then h i else 0) 32).toArray ∧ Below B w wr) (fun i _ => 32 - (intOf i).toNat)
  case atStart => exact ⟨0, by omega, rfl, K1.out, K2.out, K3.out, KB.out⟩
  case round =>
    obtain ⟨k, hk, rfl, q1, q2, q3, qb⟩ := hrel
    by_cases hlt : k < 32
    · have c2 := q2.bytes k hlt
      have c3 := q3.bytes k hlt
      have f3 := q3.free k
      rw [Nat.zero_add] at c2 c3
      have ek := HHA.out k
      have HSH := Lib.hid (show ((e k : Nat) : Int) / 2 = ((e k / 2 : Nat) : Int) by omega)
      have hnext : ∀ v, v = h k → byteCells (fun i => if i = k then v else if i < k then h i else 0) 32 = byteCells (fun i => if i < k + 1 then h i else 0) 32 := fun v hv => hal_next v hv
      by_cases h31 : k < 31
      · have c4 := q2.bytes (k + 1) (by omega)
        rw [Nat.zero_add] at c4
        have hd31 : decide ((k : Int) < 31) = true := decide_eq_true (by omega)
        have HOR := Lib.hid (show bits .or .u8 ((e k : Nat) / 2 : Int) (IntKind.u8.wrap ((e (k + 1) : Nat) * 128)) = ((h k : Nat) : Int) by rw [HHN.out k hlt, HSH.out]; exact hal_or e HHA.out k h31)
        have HN := Lib.hid (hnext (h k) rfl)
        have i1 : IntKind.i64.wrap ((k : Int) + 1) = ((k + 1 : Nat) : Int) := by rw [IntKind.wrap_i64]; omega
        obtain ⟨m, hm⟩ : ∃ m, m = k + 1 := ⟨_, rfl⟩
        rw [← hm] at c4 HOR i1
        have im : (m : Int) < 32 := by omega
        have HI1 := Lib.hid i1
        have h1 := q3.put k (.int .u8 (e k / 2 : Nat))
        rw [byteCells_set] at h1
        have Q1 := Lib.hid (q1.far (p := ⟨B + 1 + 1, k, none⟩) (by simp; omega) (.int .u8 (e k / 2 : Nat)))
        have Q2 := Lib.hid (q2.far (p := ⟨B + 1 + 1, k, none⟩) (by simp) (.int .u8 (e k / 2 : Nat)))
        have Q3 := Lib.hid h1
        have QB := Lib.hid (qb.setCell (p := ⟨B + 1 + 1, k, none⟩) (by simp; omega) (.int .u8 (e k / 2 : Nat)))
        clear q1 q2 q3 qb h1 hm i1 hnext
        go_upto_region 6 with fail
        rw [HSH.out]
        refine cut_world (fun X => Whole X B 22 (byteCells f 32).toArray ∧ Whole X (B + 1) 22 (byteCells e 32).toArray ∧ Whole X (B + 1 + 1) 22 (byteCells (fun i => if i = k then e k / 2 else if i < k then h i else 0) 32).toArray ∧ Below B w X) ⟨Q1.out, Q2.out, Q3.out, QB.out⟩ ?_
        clear Q1 Q2 Q3 QB c2 c3 c4 f3
        rintro X ⟨q1, q2, q3, qb⟩
        have c3 := q3.bytes k hlt
        rw [Nat.zero_add, if_pos rfl] at c3
        have f3 := q3.free k
        have c4 := q2.bytes m (by omega)
        rw [Nat.zero_add] at c4
        have Q1 := Lib.hid q1
        have Q2 := Lib.hid q2
        have Q3 := Lib.hid q3
        have QB := Lib.hid qb
        clear q1 q2 q3 qb
        go_wp2_with fail
        refine wp_region_still_tail 11 (by kernel_rfl) (by kernel_rfl) ?_
        simp only [List.take_succ_cons, List.take_zero, List.drop_succ_cons, List.drop_zero]
        repeat still_step
        rw [HI1.out]
        repeat still_step
        refine wpStill_nil ?_
        change wpList _ _ _ _ _ X.drew
        rw [HOR.out]
        go_wp2_with fail
        go_roundw
        case rel =>
          refine ⟨k + 1, by omega, by go_num, Q1.out.drew.far (by simp; omega) _, Q2.out.drew.far (by simp) _, ?_, (below_drewN QB.out 1).setCell (by simp; omega) _⟩
          have h2 := Q3.out.drew.put k (.int .u8 (h k : Nat))
          rw [byteCells_set, byteCells_congr (g := fun i => if i = k then h k else if i < k then h i else 0) (fun i _ => by by_cases l : i = k <;> simp [l]), HN.out] at h2
          exact h2
        case measure => simp [intOf]; omega
      · obtain rfl : k = 31 := by omega
        rw [show ((31 : Nat) : Int) = 31 from rfl]
        have HN := Lib.hid (hnext (e 31 / 2) (by rw [HHN.out 31 (by omega)]; exact (if_neg (by omega)).symm))
        have Q1 := Lib.hid q1
        have Q2 := Lib.hid q2
        have Q3 := Lib.hid q3
        have QB := Lib.hid qb
        clear q1 q2 q3 qb hnext
        go_wp2_with fail
        go_roundw
        case rel =>
          rw [HSH.out]
          refine ⟨31 + 1, by omega, by go_num, Q1.out.far (by simp; omega) _, Q2.out.far (by simp) _, ?_, QB.out.setCell (by simp; omega) _⟩
          have h2 := Q3.out.put 31 (.int .u8 (e 31 / 2 : Nat))
          rw [byteCells_set, HN.out] at h2
          exact h2
        case measure => simp [intOf]
    · obtain rfl : k = 32 := by omega
      rw [byteCells_congr (g := h) (fun i hi => if_pos hi)] at q3
      rw [show ((32 : Nat) : Int) = 32 from rfl]
      have hb2 := q3.lt
      have Q1 := Lib.hid q1
      have Q2 := Lib.hid q2
      have Q3 := Lib.hid q3
      have QB := Lib.hid qb
      clear q1 q2 q3 qb
      go_wp2_with (first | (refine wpList_load_row rfl 22 (.tmp 2) rfl B rfl 22 (byteCells (f) 32).toArray (0, 0) _ Q1.out rfl rfl (by rw [HZ.out]; kernel_rfl) ?_) | (refine wpList_load_row rfl 22 (.tmp 5) rfl (B + 1 + 1) rfl 22 (byteCells (h) 32).toArray (0, 0) _ Q3.out rfl rfl (by rw [HZ.out]; kernel_rfl) ?_))
      refine (c1.out _).mono ?_
      rintro e1 w1 ⟨rfl, hb⟩
      have R1 := Lib.hid (Q1.out.below hb Q1.out.lt)
      have R2 := Lib.hid (Q2.out.below hb Q2.out.lt)
      have RB := Lib.hid (QB.out.trans (hb.mono (by omega)))
      have hs1 := hb.size
      clear hb Q1 Q2 Q3 QB
      go_upto_region 9 with (refine wpList_store_row rfl 22 (.tmp 7) (.tmp 33) rfl w1.heap.size (byteCells (byteAt v1) 32).toArray rfl rfl 22 _ (Whole.new _ _ _) (by rw [HZ.out]; kernel_rfl) (by rw [HZ.out]; rfl) (bytes_one _ _) ?_)
      refine cut_world (fun X => Whole X B 22 (byteCells f 32).toArray ∧ Whole X (B + 1) 22 (byteCells e 32).toArray ∧ Whole X w1.heap.size 22 (byteCells (byteAt v1) 32).toArray ∧ Below B w X) ⟨Whole.farRow (R1.out.alloc _) (by omega) _, Whole.farRow (R2.out.alloc _) (by omega) _, setRow_heap _ _ _ _ _ _ (Whole.new _ _ _), below_setRow (RB.out.alloc (by omega) _) (by omega) _⟩ ?_
      clear R1 R2 RB
      rintro X2 ⟨k1, k2, k4, kb⟩
      have K1 := Lib.hid k1
      have K2 := Lib.hid k2
      have K4 := Lib.hid k4
      have KB := Lib.hid kb
      have hG2 : B + 1 < w1.heap.size := by omega
      clear k1 k2 k4 kb hs1 hb2
      generalize w1.heap.size = G2 at K4 hG2 ⊢
      go_wp2_with (refine wpList_load_row rfl 22 (.tmp 7) rfl G2 rfl 22 (byteCells (byteAt v1) 32).toArray (0, 0) _ K4.out rfl rfl (by rw [HZ.out]; kernel_rfl) ?_)
      refine (c2.out _).mono ?_
      rintro e1 w2 ⟨rfl, hb⟩
      have hl := K4.out.lt
      have R1 := Lib.hid (K1.out.below hb K1.out.lt)
      have R2 := Lib.hid (K2.out.below hb K2.out.lt)
      have R4 := Lib.hid (K4.out.below hb K4.out.lt)
      have RB := Lib.hid (KB.out.trans (hb.mono (by omega)))
      clear hb K1 K2 K4 KB hl
      go_upto_region 10 with (refine wpList_store_row rfl 22 (.tmp 7) (.tmp 36) rfl G2 (byteCells (byteAt v2) 32).toArray rfl rfl 22 _ R4.out (by rw [HZ.out]; kernel_rfl) (by rw [HZ.out, HZ.out]) (bytes_one _ _) ?_)
      refine cut_world (fun X => Whole X B 22 (byteCells f 32).toArray ∧ Whole X (B + 1) 22 (byteCells e 32).toArray ∧ Whole X G2 22 (byteCells (byteAt v2) 32).toArray ∧ Below B w X) ⟨Whole.farRow R1.out (by omega) _, Whole.farRow R2.out (by omega) _, setRow_heap _ _ _ _ _ _ R4.out, below_setRow RB.out (by omega) _⟩ ?_
      clear R1 R2 R4 RB
      rintro X3 ⟨k1, k2, k4, kb⟩
      have d0 := k2.bytes 0 (by omega)
      rw [Nat.zero_add] at d0
      have hB1 := k1.lt
      have K1 := Lib.hid k1
      have K2 := Lib.hid k2
      have K4 := Lib.hid k4
      have KB := Lib.hid kb
      clear k1 k2 k4 kb
      go_upto_region 12 with fail
      refine q_start (by kernel_rfl) (by kernel_rfl) ?_
      refine q_call (.bool true) 21 (#[]) (by rfl) (by intro w; go_simp; try with_reducible rfl) (fun x hx => (alive_any x).mono fun e w' ⟨he, hb⟩ => ⟨he, below_trans hx hb⟩) ?_
      try simp only [Act.put, List.setIfInBounds_toArray, List.set_cons_zero, List.set_cons_succ]
      refine q_take _ (by rfl) (by intro w _; go_simp; with_reducible rfl) ?_
      try simp only [Act.put, List.setIfInBounds_toArray, List.set_cons_zero, List.set_cons_succ]
      refine q_take _ (by rfl) (fun x hx => run_load_in 22 (.tmp 2) rfl (B) rfl (byteCells (f) 32).toArray 32 (by rw [List.size_toArray, byteCells_length]) ((K1.out).below hx (K1.out).lt) rfl rfl (by kernel_rfl)) ?_
      try simp only [Act.put, List.setIfInBounds_toArray, List.set_cons_zero, List.set_cons_succ]
      refine q_take _ (by rfl) (fun x hx => run_load_in 22 (.tmp 3) rfl (B+1) rfl (byteCells (e) 32).toArray 32 (by rw [List.size_toArray, byteCells_length]) ((K2.out).below hx (K2.out).lt) rfl rfl (by kernel_rfl)) ?_
      try simp only [Act.put, List.setIfInBounds_toArray, List.set_cons_zero, List.set_cons_succ]
      refine q_call (B32 (byteAt v3)) 29 (#[B32 (f), B32 (e)]) (by rfl) (by intro w; go_simp; try with_reducible rfl) (fun x hx => (c3.out x).mono fun e w' ⟨he, hb⟩ => ⟨he, below_trans hx hb⟩) ?_
      try simp only [Act.put, List.setIfInBounds_toArray, List.set_cons_zero, List.set_cons_succ]
      refine q_take _ (by rfl) (fun x hx => run_load_in 22 (.tmp 7) rfl (G2) rfl (byteCells (byteAt v2) 32).toArray 32 (by rw [List.size_toArray, byteCells_length]) ((K4.out).below hx (K4.out).lt) rfl rfl (by kernel_rfl)) ?_
      try simp only [Act.put, List.setIfInBounds_toArray, List.set_cons_zero, List.set_cons_succ]
      refine q_take _ (by rfl) (by intro w _; go_simp; simp only [e_v3_v2.out, Result.andThen_ok]; with_reducible rfl) ?_
      try simp only [Act.put, List.setIfInBounds_toArray, List.set_cons_zero, List.set_cons_succ]
      refine q_take _ (by rfl) (by intro w _; go_simp; with_reducible rfl) ?_
      try simp only [Act.put, List.setIfInBounds_toArray, List.set_cons_zero, List.set_cons_succ]
      refine q_take _ (by rfl) (by intro w _; go_simp; with_reducible rfl) ?_
      try simp only [Act.put, List.setIfInBounds_toArray, List.set_cons_zero, List.set_cons_succ]
      refine q_take _ (by rfl) (fun x hx => run_load_in 22 (.tmp 7) rfl (G2) rfl (byteCells (byteAt v2) 32).toArray 32 (by rw [List.size_toArray, byteCells_length]) ((K4.out).below hx (K4.out).lt) rfl rfl (by kernel_rfl)) ?_
      try simp only [Act.put, List.setIfInBounds_toArray, List.set_cons_zero, List.set_cons_succ]
      refine q_call (B32 (byteAt v2)) 19 (#[B32 (byteAt v2)]) (by rfl) (by intro w; go_simp; try with_reducible rfl) (fun x hx => (c_r_v2.out x).mono fun e w' ⟨he, hb⟩ => ⟨he, below_trans hx hb⟩) ?_
      try simp only [Act.put, List.setIfInBounds_toArray, List.set_cons_zero, List.set_cons_succ]
      refine q_take _ (by rfl) (fun x hx => run_load_in 22 (.tmp 7) rfl (G2) rfl (byteCells (byteAt v2) 32).toArray 32 (by rw [List.size_toArray, byteCells_length]) ((K4.out).below hx (K4.out).lt) rfl rfl (by kernel_rfl)) ?_
      try simp only [Act.put, List.setIfInBounds_toArray, List.set_cons_zero, List.set_cons_succ]
      refine q_take _ (by rfl) (by intro w _; go_simp; simp only [e_r_v2_v2.out, Result.andThen_ok]; with_reducible rfl) ?_
      try simp only [Act.put, List.setIfInBounds_toArray, List.set_cons_zero, List.set_cons_succ]
      refine q_take _ (by rfl) (by intro w _; go_simp; with_reducible rfl) ?_
      try simp only [Act.put, List.setIfInBounds_toArray, List.set_cons_zero, List.set_cons_succ]
      refine q_take _ (by rfl) (by intro w _; go_simp; with_reducible rfl) ?_
      try simp only [Act.put, List.setIfInBounds_toArray, List.set_cons_zero, List.set_cons_succ]
      refine q_take _ (by rfl) (fun x hx => run_load_in 22 (.tmp 2) rfl (B) rfl (byteCells (f) 32).toArray 32 (by rw [List.size_toArray, byteCells_length]) ((K1.out).below hx (K1.out).lt) rfl rfl (by kernel_rfl)) ?_
      try simp only [Act.put, List.setIfInBounds_toArray, List.set_cons_zero, List.set_cons_succ]
      refine q_take (B32 (byteAt 0)) (by rfl) (fun w _ => run_built0 22 rfl (byteCells (byteAt 0) 32).toArray none_built) ?_
      try simp only [Act.put, List.setIfInBounds_toArray, List.set_cons_zero, List.set_cons_succ]
      refine q_call (B32 (byteAt v4)) 29 (#[B32 (f), B32 (byteAt 0)]) (by rfl) (by intro w; go_simp; try with_reducible rfl) (fun x hx => (c4.out x).mono fun e w' ⟨he, hb⟩ => ⟨he, below_trans hx hb⟩) ?_
      try simp only [Act.put, List.setIfInBounds_toArray, List.set_cons_zero, List.set_cons_succ]
      refine q_take (B32 (byteAt 1)) (by rfl) (fun w _ => run_built1 22 0 (.const (.int .u8 1)) rfl (.int .u8 1) rfl (byteCells (byteAt 1) 32).toArray one_built) ?_
      try simp only [Act.put, List.setIfInBounds_toArray, List.set_cons_zero, List.set_cons_succ]
      refine q_take _ (by rfl) (by intro w _; go_simp; simp only [e_v4_k1.out, Result.andThen_ok]; with_reducible rfl) ?_
      try simp only [Act.put, List.setIfInBounds_toArray, List.set_cons_zero, List.set_cons_succ]
      refine q_take _ (by rfl) (by intro w _; go_simp; with_reducible rfl) ?_
      try simp only [Act.put, List.setIfInBounds_toArray, List.set_cons_zero, List.set_cons_succ]
      refine q_take _ (by rfl) (by intro w _; go_simp; with_reducible rfl) ?_
      try simp only [Act.put, List.setIfInBounds_toArray, List.set_cons_zero, List.set_cons_succ]
      refine q_take _ (by rfl) (fun x hx => run_load_in 22 (.tmp 2) rfl (B) rfl (byteCells (f) 32).toArray 32 (by rw [List.size_toArray, byteCells_length]) ((K1.out).below hx (K1.out).lt) rfl rfl (by kernel_rfl)) ?_
      try simp only [Act.put, List.setIfInBounds_toArray, List.set_cons_zero, List.set_cons_succ]
      refine q_take (B32 (byteAt 1)) (by rfl) (fun w _ => run_built1 22 0 (.const (.int .u8 1)) rfl (.int .u8 1) rfl (byteCells (byteAt 1) 32).toArray one_built) ?_
      try simp only [Act.put, List.setIfInBounds_toArray, List.set_cons_zero, List.set_cons_succ]
      refine q_call (B32 (byteAt v5)) 29 (#[B32 (f), B32 (byteAt 1)]) (by rfl) (by intro w; go_simp; try with_reducible rfl) (fun x hx => (c5.out x).mono fun e w' ⟨he, hb⟩ => ⟨he, below_trans hx hb⟩) ?_
      try simp only [Act.put, List.setIfInBounds_toArray, List.set_cons_zero, List.set_cons_succ]
      refine q_take _ (by rfl) (fun x hx => run_load_in 22 (.tmp 2) rfl (B) rfl (byteCells (f) 32).toArray 32 (by rw [List.size_toArray, byteCells_length]) ((K1.out).below hx (K1.out).lt) rfl rfl (by kernel_rfl)) ?_
      try simp only [Act.put, List.setIfInBounds_toArray, List.set_cons_zero, List.set_cons_succ]
      refine q_call (B32 (byteAt a)) 19 (#[B32 (f)]) (by rfl) (by intro w; go_simp; try with_reducible rfl) (fun x hx => (c_r_f.out x).mono fun e w' ⟨he, hb⟩ => ⟨he, below_trans hx hb⟩) ?_
      try simp only [Act.put, List.setIfInBounds_toArray, List.set_cons_zero, List.set_cons_succ]
      refine q_take _ (by rfl) (by intro w _; go_simp; simp only [e_v5_r_f.out, Result.andThen_ok]; with_reducible rfl) ?_
      try simp only [Act.put, List.setIfInBounds_toArray, List.set_cons_zero, List.set_cons_succ]
      refine q_take _ (by rfl) (by intro w _; go_simp; with_reducible rfl) ?_
      try simp only [Act.put, List.setIfInBounds_toArray, List.set_cons_zero, List.set_cons_succ]
      refine q_take _ (by rfl) (by intro w _; go_simp; with_reducible rfl) ?_
      try simp only [Act.put, List.setIfInBounds_toArray, List.set_cons_zero, List.set_cons_succ]
      refine wpQuiet_nil ?_
      intro w' hw'
      go_wp2_with fail
      go_ret
      exact ⟨rfl, by rw [hB]; exact KB.out.trans (hw'.mono (by omega))⟩


set_option maxRecDepth 100000 in
theorem odd (f e : Nat → Nat) (w : World) (hf : ∀ i, f i < 256) (he : ∀ i, e i < 256) (ho : e 0 % 2 = 1) :
    Calls Try.prog 9 #[.agg (byteCells f 32).toArray, .agg (byteCells e 32).toArray] w fun e w' => e = .returned (.bool true) ∧ Below w.heap.size w w' := by
  obtain ⟨h, hhd⟩ : ∃ h, h = hal e := ⟨_, rfl⟩
  have hh : ∀ i, h i < 256 := by rw [hhd]; exact hal_lt he
  obtain ⟨a, ta⟩ : ∃ v, tk f = v := ⟨_, rfl⟩
  obtain ⟨E, tE⟩ : ∃ v, le e 0 32 = v := ⟨_, rfl⟩
  obtain ⟨H, tH⟩ : ∃ v, le h 0 32 = v := ⟨_, rfl⟩
  have l_a : a < P := ta ▸ tk_lt f
  have hEH : E = 2 * H + 1 := by
    have h1 := hal_le e
    rw [ho] at h1
    rw [← tE, ← tH, hhd]
    exact h1.symm
  have hc1 : (bits .and .u8 ((e 0 : Nat) : Int) 1 == 1) = true := by rw [and1 _ (he 0), ho]; rfl
  have HHN := Lib.hid (fun i (_ : i < 32) => congrFun hhd i)
  have HHA := Lib.hid he
  obtain ⟨v1, h_v1⟩ : ∃ v, v = a ^ H % P := ⟨_, rfl⟩
  have l_v1 : v1 < P := by rw [h_v1]; exact Nat.mod_lt _ P_pos
  have c1 := Lib.hid (powV hf hh ta tH h_v1)
  obtain ⟨v2, h_v2⟩ : ∃ v, v = v1 * v1 % P := ⟨_, rfl⟩
  have l_v2 : v2 < P := by rw [h_v2]; exact Nat.mod_lt _ P_pos
  have c2 := Lib.hid (mulV (byteAt_lt v1) (byteAt_lt v1) (tk_byteAt l_v1) (tk_byteAt l_v1) h_v2)
  obtain ⟨v3, h_v3⟩ : ∃ v, v = v2 * a % P := ⟨_, rfl⟩
  have l_v3 : v3 < P := by rw [h_v3]; exact Nat.mod_lt _ P_pos
  have c3 := Lib.hid (mulV (byteAt_lt v2) hf (tk_byteAt l_v2) ta h_v3)
  obtain ⟨v4, h_v4⟩ : ∃ v, v = a ^ E % P := ⟨_, rfl⟩
  have l_v4 : v4 < P := by rw [h_v4]; exact Nat.mod_lt _ P_pos
  have c4 := Lib.hid (powV hf he ta tE h_v4)
  have c_r_v3 := Lib.hid (redV (byteAt_lt v3) (tk_byteAt l_v3))
  obtain ⟨v5, h_v5⟩ : ∃ v, v = a ^ 0 % P := ⟨_, rfl⟩
  have l_v5 : v5 < P := by rw [h_v5]; exact Nat.mod_lt _ P_pos
  have c5 := Lib.hid (powV hf (byteAt_lt 0) ta (le_byteAt32 0 (show 0 < T by have := P_big; have := P_T; omega)) h_v5)
  obtain ⟨v6, h_v6⟩ : ∃ v, v = a ^ 1 % P := ⟨_, rfl⟩
  have l_v6 : v6 < P := by rw [h_v6]; exact Nat.mod_lt _ P_pos
  have c6 := Lib.hid (powV hf (byteAt_lt 1) ta (le_byteAt32 1 (show 1 < T by have := P_big; have := P_T; omega)) h_v6)
  have c_r_f := Lib.hid (redV hf ta)
  have e_v4_v3 := Lib.hid (show ∀ w, (Op.equalIn 10000 22 (.agg (byteCells (byteAt v4) 32).toArray) (.agg (byteCells (byteAt v3) 32).toArray)).run Try.prog w = .ok true w from same_of (by rw [h_v4, h_v3, h_v2, h_v1]; exact steps_odd a E H hEH))
  have e_r_v3_v3 := Lib.hid (show ∀ w, (Op.equalIn 10000 22 (.agg (byteCells (byteAt v3) 32).toArray) (.agg (byteCells (byteAt v3) 32).toArray)).run Try.prog w = .ok true w from same_of rfl)
  have e_v5_k1 := Lib.hid (show ∀ w, (Op.equalIn 10000 22 (.agg (byteCells (byteAt v5) 32).toArray) (.agg (byteCells (byteAt 1) 32).toArray)).run Try.prog w = .ok true w from same_of (by rw [h_v5, Nat.pow_zero, Nat.mod_eq_of_lt (by have := P_big; omega)]))
  have e_v6_r_f := Lib.hid (show ∀ w, (Op.equalIn 10000 22 (.agg (byteCells (byteAt v6) 32).toArray) (.agg (byteCells (byteAt a) 32).toArray)).run Try.prog w = .ok true w from same_of (by rw [h_v6, Nat.pow_one, Nat.mod_eq_of_lt l_a]))
  clear h_v1 l_v1 h_v2 l_v2 h_v3 l_v3 h_v4 l_v4 h_v5 l_v5 h_v6 l_v6 tE tH ta l_a hEH hf hh ho hhd
  have HZ := Lib.hid (show ∀ f, (byteCells f 32).toArray.size = 32 from fun f => by rw [List.size_toArray, byteCells_length])
  rw [byteCells_lit32 f, byteCells_lit32 e]
  go_enter Try.func9, Try.ntmps9
  go_upto_region 2 with fail
  rw [← byteCells_lit32 f, ← byteCells_lit32 e]
  refine cut_world (fun W => Whole W w.heap.size 22 (byteCells f 32).toArray ∧ Whole W (w.heap.size + 1) 22 (byteCells e 32).toArray ∧ Whole W (w.heap.size + 1 + 1) 22 (byteCells (fun _ => 0) 32).toArray ∧ Below w.heap.size w W) ⟨?_, ?_, ?_, ?_⟩ ?_
  · exact ((whole_new _ _ rfl).alloc _).alloc _
  · exact (whole_new _ _ (by simp)).alloc _
  · rw [byteCells_lit32 fun _ => 0]
    exact whole_new _ _ (by simp)
  · exact below_alloc (below_alloc (below_alloc (Below.refl _ _) _) _) _
  rintro W ⟨k1, k2, k3, kb⟩
  have K1 := Lib.hid k1
  have K2 := Lib.hid k2
  have K3 := Lib.hid k3
  have KB := Lib.hid kb
  clear k1 k2 k3 kb
  generalize hB : w.heap.size = B at K1 K2 K3 KB ⊢
  go_wp2_with fail
  go_loopw [6] (fun i wr => ∃ k : Nat, k ≤ 32 ∧ i = .int .i64 k ∧ Whole wr B 22 (byteCells f 32).toArray ∧ Whole wr (B + 1) 22 (byteCells e 32).toArray ∧ Whole wr (B + 1 + 1) 22 (byteCells (fun i => if i < k then h i else 0) 32).toArray ∧ Below B w wr) (fun i _ => 32 - (intOf i).toNat)
  case atStart => exact ⟨0, by omega, rfl, K1.out, K2.out, K3.out, KB.out⟩
  case round =>
    obtain ⟨k, hk, rfl, q1, q2, q3, qb⟩ := hrel
    by_cases hlt : k < 32
    · have c2 := q2.bytes k hlt
      have c3 := q3.bytes k hlt
      have f3 := q3.free k
      rw [Nat.zero_add] at c2 c3
      have ek := HHA.out k
      have HSH := Lib.hid (show ((e k : Nat) : Int) / 2 = ((e k / 2 : Nat) : Int) by omega)
      have hnext : ∀ v, v = h k → byteCells (fun i => if i = k then v else if i < k then h i else 0) 32 = byteCells (fun i => if i < k + 1 then h i else 0) 32 := fun v hv => hal_next v hv
      by_cases h31 : k < 31
      · have c4 := q2.bytes (k + 1) (by omega)
        rw [Nat.zero_add] at c4
        have hd31 : decide ((k : Int) < 31) = true := decide_eq_true (by omega)
        have HOR := Lib.hid (show bits .or .u8 ((e k : Nat) / 2 : Int) (IntKind.u8.wrap ((e (k + 1) : Nat) * 128)) = ((h k : Nat) : Int) by rw [HHN.out k hlt, HSH.out]; exact hal_or e HHA.out k h31)
        have HN := Lib.hid (hnext (h k) rfl)
        have i1 : IntKind.i64.wrap ((k : Int) + 1) = ((k + 1 : Nat) : Int) := by rw [IntKind.wrap_i64]; omega
        obtain ⟨m, hm⟩ : ∃ m, m = k + 1 := ⟨_, rfl⟩
        rw [← hm] at c4 HOR i1
        have im : (m : Int) < 32 := by omega
        have HI1 := Lib.hid i1
        have h1 := q3.put k (.int .u8 (e k / 2 : Nat))
        rw [byteCells_set] at h1
        have Q1 := Lib.hid (q1.far (p := ⟨B + 1 + 1, k, none⟩) (by simp; omega) (.int .u8 (e k / 2 : Nat)))
        have Q2 := Lib.hid (q2.far (p := ⟨B + 1 + 1, k, none⟩) (by simp) (.int .u8 (e k / 2 : Nat)))
        have Q3 := Lib.hid h1
        have QB := Lib.hid (qb.setCell (p := ⟨B + 1 + 1, k, none⟩) (by simp; omega) (.int .u8 (e k / 2 : Nat)))
        clear q1 q2 q3 qb h1 hm i1 hnext
        go_upto_region 6 with fail
        rw [HSH.out]
        refine cut_world (fun X => Whole X B 22 (byteCells f 32).toArray ∧ Whole X (B + 1) 22 (byteCells e 32).toArray ∧ Whole X (B + 1 + 1) 22 (byteCells (fun i => if i = k then e k / 2 else if i < k then h i else 0) 32).toArray ∧ Below B w X) ⟨Q1.out, Q2.out, Q3.out, QB.out⟩ ?_
        clear Q1 Q2 Q3 QB c2 c3 c4 f3
        rintro X ⟨q1, q2, q3, qb⟩
        have c3 := q3.bytes k hlt
        rw [Nat.zero_add, if_pos rfl] at c3
        have f3 := q3.free k
        have c4 := q2.bytes m (by omega)
        rw [Nat.zero_add] at c4
        have Q1 := Lib.hid q1
        have Q2 := Lib.hid q2
        have Q3 := Lib.hid q3
        have QB := Lib.hid qb
        clear q1 q2 q3 qb
        go_wp2_with fail
        refine wp_region_still_tail 11 (by kernel_rfl) (by kernel_rfl) ?_
        simp only [List.take_succ_cons, List.take_zero, List.drop_succ_cons, List.drop_zero]
        repeat still_step
        rw [HI1.out]
        repeat still_step
        refine wpStill_nil ?_
        change wpList _ _ _ _ _ X.drew
        rw [HOR.out]
        go_wp2_with fail
        go_roundw
        case rel =>
          refine ⟨k + 1, by omega, by go_num, Q1.out.drew.far (by simp; omega) _, Q2.out.drew.far (by simp) _, ?_, (below_drewN QB.out 1).setCell (by simp; omega) _⟩
          have h2 := Q3.out.drew.put k (.int .u8 (h k : Nat))
          rw [byteCells_set, byteCells_congr (g := fun i => if i = k then h k else if i < k then h i else 0) (fun i _ => by by_cases l : i = k <;> simp [l]), HN.out] at h2
          exact h2
        case measure => simp [intOf]; omega
      · obtain rfl : k = 31 := by omega
        rw [show ((31 : Nat) : Int) = 31 from rfl]
        have HN := Lib.hid (hnext (e 31 / 2) (by rw [HHN.out 31 (by omega)]; exact (if_neg (by omega)).symm))
        have Q1 := Lib.hid q1
        have Q2 := Lib.hid q2
        have Q3 := Lib.hid q3
        have QB := Lib.hid qb
        clear q1 q2 q3 qb hnext
        go_wp2_with fail
        go_roundw
        case rel =>
          rw [HSH.out]
          refine ⟨31 + 1, by omega, by go_num, Q1.out.far (by simp; omega) _, Q2.out.far (by simp) _, ?_, QB.out.setCell (by simp; omega) _⟩
          have h2 := Q3.out.put 31 (.int .u8 (e 31 / 2 : Nat))
          rw [byteCells_set, HN.out] at h2
          exact h2
        case measure => simp [intOf]
    · obtain rfl : k = 32 := by omega
      rw [byteCells_congr (g := h) (fun i hi => if_pos hi)] at q3
      rw [show ((32 : Nat) : Int) = 32 from rfl]
      have hb2 := q3.lt
      have Q1 := Lib.hid q1
      have Q2 := Lib.hid q2
      have Q3 := Lib.hid q3
      have QB := Lib.hid qb
      clear q1 q2 q3 qb
      go_wp2_with (first | (refine wpList_load_row rfl 22 (.tmp 2) rfl B rfl 22 (byteCells (f) 32).toArray (0, 0) _ Q1.out rfl rfl (by rw [HZ.out]; kernel_rfl) ?_) | (refine wpList_load_row rfl 22 (.tmp 5) rfl (B + 1 + 1) rfl 22 (byteCells (h) 32).toArray (0, 0) _ Q3.out rfl rfl (by rw [HZ.out]; kernel_rfl) ?_))
      refine (c1.out _).mono ?_
      rintro e1 w1 ⟨rfl, hb⟩
      have R1 := Lib.hid (Q1.out.below hb Q1.out.lt)
      have R2 := Lib.hid (Q2.out.below hb Q2.out.lt)
      have RB := Lib.hid (QB.out.trans (hb.mono (by omega)))
      have hs1 := hb.size
      clear hb Q1 Q2 Q3 QB
      go_upto_region 9 with (refine wpList_store_row rfl 22 (.tmp 7) (.tmp 33) rfl w1.heap.size (byteCells (byteAt v1) 32).toArray rfl rfl 22 _ (Whole.new _ _ _) (by rw [HZ.out]; kernel_rfl) (by rw [HZ.out]; rfl) (bytes_one _ _) ?_)
      refine cut_world (fun X => Whole X B 22 (byteCells f 32).toArray ∧ Whole X (B + 1) 22 (byteCells e 32).toArray ∧ Whole X w1.heap.size 22 (byteCells (byteAt v1) 32).toArray ∧ Below B w X) ⟨Whole.farRow (R1.out.alloc _) (by omega) _, Whole.farRow (R2.out.alloc _) (by omega) _, setRow_heap _ _ _ _ _ _ (Whole.new _ _ _), below_setRow (RB.out.alloc (by omega) _) (by omega) _⟩ ?_
      clear R1 R2 RB
      rintro X2 ⟨k1, k2, k4, kb⟩
      have K1 := Lib.hid k1
      have K2 := Lib.hid k2
      have K4 := Lib.hid k4
      have KB := Lib.hid kb
      have hG2 : B + 1 < w1.heap.size := by omega
      clear k1 k2 k4 kb hs1 hb2
      generalize w1.heap.size = G2 at K4 hG2 ⊢
      go_wp2_with (refine wpList_load_row rfl 22 (.tmp 7) rfl G2 rfl 22 (byteCells (byteAt v1) 32).toArray (0, 0) _ K4.out rfl rfl (by rw [HZ.out]; kernel_rfl) ?_)
      refine (c2.out _).mono ?_
      rintro e1 w2 ⟨rfl, hb⟩
      have hl := K4.out.lt
      have R1 := Lib.hid (K1.out.below hb K1.out.lt)
      have R2 := Lib.hid (K2.out.below hb K2.out.lt)
      have R4 := Lib.hid (K4.out.below hb K4.out.lt)
      have RB := Lib.hid (KB.out.trans (hb.mono (by omega)))
      clear hb K1 K2 K4 KB hl
      go_upto_region 10 with (refine wpList_store_row rfl 22 (.tmp 7) (.tmp 36) rfl G2 (byteCells (byteAt v2) 32).toArray rfl rfl 22 _ R4.out (by rw [HZ.out]; kernel_rfl) (by rw [HZ.out, HZ.out]) (bytes_one _ _) ?_)
      refine cut_world (fun X => Whole X B 22 (byteCells f 32).toArray ∧ Whole X (B + 1) 22 (byteCells e 32).toArray ∧ Whole X G2 22 (byteCells (byteAt v2) 32).toArray ∧ Below B w X) ⟨Whole.farRow R1.out (by omega) _, Whole.farRow R2.out (by omega) _, setRow_heap _ _ _ _ _ _ R4.out, below_setRow RB.out (by omega) _⟩ ?_
      clear R1 R2 R4 RB
      rintro X3 ⟨k1, k2, k4, kb⟩
      have d0 := k2.bytes 0 (by omega)
      rw [Nat.zero_add] at d0
      have hB1 := k1.lt
      have K1 := Lib.hid k1
      have K2 := Lib.hid k2
      have K4 := Lib.hid k4
      have KB := Lib.hid kb
      clear k1 k2 k4 kb
      go_wp2_with (first | (refine wpList_load_row rfl 22 (.tmp 7) rfl G2 rfl 22 (byteCells (byteAt v2) 32).toArray (0, 0) _ K4.out rfl rfl (by rw [HZ.out]; kernel_rfl) ?_) | (refine wpList_load_row rfl 22 (.tmp 2) rfl B rfl 22 (byteCells (f) 32).toArray (0, 0) _ K1.out rfl rfl (by rw [HZ.out]; kernel_rfl) ?_))
      refine (c3.out _).mono ?_
      rintro e1 w3 ⟨rfl, hb⟩
      have hl := K4.out.lt
      replace K1 := Lib.hid (K1.out.below hb K1.out.lt)
      replace K2 := Lib.hid (K2.out.below hb K2.out.lt)
      replace K4 := Lib.hid (K4.out.below hb hl)
      replace KB := Lib.hid (KB.out.trans (hb.mono (by omega)))
      clear hb hl d0
      go_upto_region 12 with (refine wpList_store_row rfl 22 (.tmp 7) (.tmp 43) rfl G2 (byteCells (byteAt v3) 32).toArray rfl rfl 22 _ K4.out (by rw [HZ.out]; kernel_rfl) (by rw [HZ.out, HZ.out]) (bytes_one _ _) ?_)
      refine cut_world (fun X => Whole X B 22 (byteCells f 32).toArray ∧ Whole X (B + 1) 22 (byteCells e 32).toArray ∧ Whole X G2 22 (byteCells (byteAt v3) 32).toArray ∧ Below B w X) ⟨Whole.farRow K1.out (by omega) _, Whole.farRow K2.out (by omega) _, setRow_heap _ _ _ _ _ _ K4.out, below_setRow KB.out (by omega) _⟩ ?_
      clear K1 K2 K4 KB hB1
      rintro X4 ⟨k1, k2, k4, kb⟩
      have hB1 := k1.lt
      have K1 := Lib.hid k1
      have K2 := Lib.hid k2
      have K4 := Lib.hid k4
      have KB := Lib.hid kb
      clear k1 k2 k4 kb
      refine q_start (by kernel_rfl) (by kernel_rfl) ?_
      refine q_call (.bool true) 21 (#[]) (by rfl) (by intro w; go_simp; try with_reducible rfl) (fun x hx => (alive_any x).mono fun e w' ⟨he, hb⟩ => ⟨he, below_trans hx hb⟩) ?_
      try simp only [Act.put, List.setIfInBounds_toArray, List.set_cons_zero, List.set_cons_succ]
      refine q_take _ (by rfl) (by intro w _; go_simp; with_reducible rfl) ?_
      try simp only [Act.put, List.setIfInBounds_toArray, List.set_cons_zero, List.set_cons_succ]
      refine q_take _ (by rfl) (fun x hx => run_load_in 22 (.tmp 2) rfl (B) rfl (byteCells (f) 32).toArray 32 (by rw [List.size_toArray, byteCells_length]) ((K1.out).below hx (K1.out).lt) rfl rfl (by kernel_rfl)) ?_
      try simp only [Act.put, List.setIfInBounds_toArray, List.set_cons_zero, List.set_cons_succ]
      refine q_take _ (by rfl) (fun x hx => run_load_in 22 (.tmp 3) rfl (B+1) rfl (byteCells (e) 32).toArray 32 (by rw [List.size_toArray, byteCells_length]) ((K2.out).below hx (K2.out).lt) rfl rfl (by kernel_rfl)) ?_
      try simp only [Act.put, List.setIfInBounds_toArray, List.set_cons_zero, List.set_cons_succ]
      refine q_call (B32 (byteAt v4)) 29 (#[B32 (f), B32 (e)]) (by rfl) (by intro w; go_simp; try with_reducible rfl) (fun x hx => (c4.out x).mono fun e w' ⟨he, hb⟩ => ⟨he, below_trans hx hb⟩) ?_
      try simp only [Act.put, List.setIfInBounds_toArray, List.set_cons_zero, List.set_cons_succ]
      refine q_take _ (by rfl) (fun x hx => run_load_in 22 (.tmp 7) rfl (G2) rfl (byteCells (byteAt v3) 32).toArray 32 (by rw [List.size_toArray, byteCells_length]) ((K4.out).below hx (K4.out).lt) rfl rfl (by kernel_rfl)) ?_
      try simp only [Act.put, List.setIfInBounds_toArray, List.set_cons_zero, List.set_cons_succ]
      refine q_take _ (by rfl) (by intro w _; go_simp; simp only [e_v4_v3.out, Result.andThen_ok]; with_reducible rfl) ?_
      try simp only [Act.put, List.setIfInBounds_toArray, List.set_cons_zero, List.set_cons_succ]
      refine q_take _ (by rfl) (by intro w _; go_simp; with_reducible rfl) ?_
      try simp only [Act.put, List.setIfInBounds_toArray, List.set_cons_zero, List.set_cons_succ]
      refine q_take _ (by rfl) (by intro w _; go_simp; with_reducible rfl) ?_
      try simp only [Act.put, List.setIfInBounds_toArray, List.set_cons_zero, List.set_cons_succ]
      refine q_take _ (by rfl) (fun x hx => run_load_in 22 (.tmp 7) rfl (G2) rfl (byteCells (byteAt v3) 32).toArray 32 (by rw [List.size_toArray, byteCells_length]) ((K4.out).below hx (K4.out).lt) rfl rfl (by kernel_rfl)) ?_
      try simp only [Act.put, List.setIfInBounds_toArray, List.set_cons_zero, List.set_cons_succ]
      refine q_call (B32 (byteAt v3)) 19 (#[B32 (byteAt v3)]) (by rfl) (by intro w; go_simp; try with_reducible rfl) (fun x hx => (c_r_v3.out x).mono fun e w' ⟨he, hb⟩ => ⟨he, below_trans hx hb⟩) ?_
      try simp only [Act.put, List.setIfInBounds_toArray, List.set_cons_zero, List.set_cons_succ]
      refine q_take _ (by rfl) (fun x hx => run_load_in 22 (.tmp 7) rfl (G2) rfl (byteCells (byteAt v3) 32).toArray 32 (by rw [List.size_toArray, byteCells_length]) ((K4.out).below hx (K4.out).lt) rfl rfl (by kernel_rfl)) ?_
      try simp only [Act.put, List.setIfInBounds_toArray, List.set_cons_zero, List.set_cons_succ]
      refine q_take _ (by rfl) (by intro w _; go_simp; simp only [e_r_v3_v3.out, Result.andThen_ok]; with_reducible rfl) ?_
      try simp only [Act.put, List.setIfInBounds_toArray, List.set_cons_zero, List.set_cons_succ]
      refine q_take _ (by rfl) (by intro w _; go_simp; with_reducible rfl) ?_
      try simp only [Act.put, List.setIfInBounds_toArray, List.set_cons_zero, List.set_cons_succ]
      refine q_take _ (by rfl) (by intro w _; go_simp; with_reducible rfl) ?_
      try simp only [Act.put, List.setIfInBounds_toArray, List.set_cons_zero, List.set_cons_succ]
      refine q_take _ (by rfl) (fun x hx => run_load_in 22 (.tmp 2) rfl (B) rfl (byteCells (f) 32).toArray 32 (by rw [List.size_toArray, byteCells_length]) ((K1.out).below hx (K1.out).lt) rfl rfl (by kernel_rfl)) ?_
      try simp only [Act.put, List.setIfInBounds_toArray, List.set_cons_zero, List.set_cons_succ]
      refine q_take (B32 (byteAt 0)) (by rfl) (fun w _ => run_built0 22 rfl (byteCells (byteAt 0) 32).toArray none_built) ?_
      try simp only [Act.put, List.setIfInBounds_toArray, List.set_cons_zero, List.set_cons_succ]
      refine q_call (B32 (byteAt v5)) 29 (#[B32 (f), B32 (byteAt 0)]) (by rfl) (by intro w; go_simp; try with_reducible rfl) (fun x hx => (c5.out x).mono fun e w' ⟨he, hb⟩ => ⟨he, below_trans hx hb⟩) ?_
      try simp only [Act.put, List.setIfInBounds_toArray, List.set_cons_zero, List.set_cons_succ]
      refine q_take (B32 (byteAt 1)) (by rfl) (fun w _ => run_built1 22 0 (.const (.int .u8 1)) rfl (.int .u8 1) rfl (byteCells (byteAt 1) 32).toArray one_built) ?_
      try simp only [Act.put, List.setIfInBounds_toArray, List.set_cons_zero, List.set_cons_succ]
      refine q_take _ (by rfl) (by intro w _; go_simp; simp only [e_v5_k1.out, Result.andThen_ok]; with_reducible rfl) ?_
      try simp only [Act.put, List.setIfInBounds_toArray, List.set_cons_zero, List.set_cons_succ]
      refine q_take _ (by rfl) (by intro w _; go_simp; with_reducible rfl) ?_
      try simp only [Act.put, List.setIfInBounds_toArray, List.set_cons_zero, List.set_cons_succ]
      refine q_take _ (by rfl) (by intro w _; go_simp; with_reducible rfl) ?_
      try simp only [Act.put, List.setIfInBounds_toArray, List.set_cons_zero, List.set_cons_succ]
      refine q_take _ (by rfl) (fun x hx => run_load_in 22 (.tmp 2) rfl (B) rfl (byteCells (f) 32).toArray 32 (by rw [List.size_toArray, byteCells_length]) ((K1.out).below hx (K1.out).lt) rfl rfl (by kernel_rfl)) ?_
      try simp only [Act.put, List.setIfInBounds_toArray, List.set_cons_zero, List.set_cons_succ]
      refine q_take (B32 (byteAt 1)) (by rfl) (fun w _ => run_built1 22 0 (.const (.int .u8 1)) rfl (.int .u8 1) rfl (byteCells (byteAt 1) 32).toArray one_built) ?_
      try simp only [Act.put, List.setIfInBounds_toArray, List.set_cons_zero, List.set_cons_succ]
      refine q_call (B32 (byteAt v6)) 29 (#[B32 (f), B32 (byteAt 1)]) (by rfl) (by intro w; go_simp; try with_reducible rfl) (fun x hx => (c6.out x).mono fun e w' ⟨he, hb⟩ => ⟨he, below_trans hx hb⟩) ?_
      try simp only [Act.put, List.setIfInBounds_toArray, List.set_cons_zero, List.set_cons_succ]
      refine q_take _ (by rfl) (fun x hx => run_load_in 22 (.tmp 2) rfl (B) rfl (byteCells (f) 32).toArray 32 (by rw [List.size_toArray, byteCells_length]) ((K1.out).below hx (K1.out).lt) rfl rfl (by kernel_rfl)) ?_
      try simp only [Act.put, List.setIfInBounds_toArray, List.set_cons_zero, List.set_cons_succ]
      refine q_call (B32 (byteAt a)) 19 (#[B32 (f)]) (by rfl) (by intro w; go_simp; try with_reducible rfl) (fun x hx => (c_r_f.out x).mono fun e w' ⟨he, hb⟩ => ⟨he, below_trans hx hb⟩) ?_
      try simp only [Act.put, List.setIfInBounds_toArray, List.set_cons_zero, List.set_cons_succ]
      refine q_take _ (by rfl) (by intro w _; go_simp; simp only [e_v6_r_f.out, Result.andThen_ok]; with_reducible rfl) ?_
      try simp only [Act.put, List.setIfInBounds_toArray, List.set_cons_zero, List.set_cons_succ]
      refine q_take _ (by rfl) (by intro w _; go_simp; with_reducible rfl) ?_
      try simp only [Act.put, List.setIfInBounds_toArray, List.set_cons_zero, List.set_cons_succ]
      refine q_take _ (by rfl) (by intro w _; go_simp; with_reducible rfl) ?_
      try simp only [Act.put, List.setIfInBounds_toArray, List.set_cons_zero, List.set_cons_succ]
      refine wpQuiet_nil ?_
      intro w' hw'
      go_wp2_with fail
      go_ret
      exact ⟨rfl, by rw [hB]; exact KB.out.trans (hw'.mono (by omega))⟩


theorem walk (f e : Nat → Nat) (w : World) (hf : ∀ i, f i < 256) (he : ∀ i, e i < 256) :
    Calls Try.prog 9 #[.agg (byteCells f 32).toArray, .agg (byteCells e 32).toArray] w fun e w' => e = .returned (.bool true) ∧ Below w.heap.size w w' := by
  by_cases h : e 0 % 2 = 0
  · exact even f e w hf he h
  · exact odd f e w hf he (by omega)

end FieldSteps
end Go.Proofs.Ytopocmibhffjfaa
