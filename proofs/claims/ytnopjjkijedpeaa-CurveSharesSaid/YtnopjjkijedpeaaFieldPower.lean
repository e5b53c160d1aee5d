/- The call power of package field. -/
import Derived.Test.YtnopjjkijedpeaaFieldBytes
namespace Go.Proofs.Ytnopjjkijedpeaa
namespace Field
open Go.ChangeShapes Go.WideShapes Go.ChangeAt Go.RowKit
open Num Mem Words Radix FieldN Chacha

/-- digit n of a number of bytes -/
theorem le_bit (f : Nat → Nat) (hf : ∀ i, f i < 256) (n : Nat) (hn : n < 256) : f (n / 8) / 2 ^ (n % 8) % 2 = le f 0 32 / 2 ^ n % 2 := by
  have h := le_part f hf (n / 8) 1 32 (by omega)
  have e : le f (n / 8) 1 = f (n / 8) := by simp [le]
  rw [e] at h
  rw [h, show (2 : Nat) ^ (8 * 1) = 2 ^ (n % 8) * 2 ^ (8 - n % 8) by rw [← Nat.pow_add]; congr 1; omega, Nat.mod_mul_right_div_self, show (2 : Nat) ^ (8 - n % 8) = 2 * 2 ^ (7 - n % 8) by rw [Nat.mul_comm, ← Nat.pow_succ]; congr 1; omega, Nat.mod_mul_right_mod, Nat.div_div_eq_div_mul, ← Nat.pow_add]
  congr 3
  omega

theorem and1 (v : Nat) (hv : v < 256) : bits .and .u8 (v : Int) 1 = ((v % 2 : Nat) : Int) := by
  have h := u8_and_nat v 1 hv (by omega)
  rw [show (1 : Nat) = 2 ^ 1 - 1 from rfl, Nat.and_two_pow_sub_one_eq_mod] at h
  exact h

/-- what stands after the first i digits -/
def pw (a E i : Nat) : Nat := a ^ (E / 2 ^ (256 - i)) % P
theorem pw_lt (a E i : Nat) : pw a E i < P := Nat.mod_lt _ P_pos
theorem pw_zero (a E : Nat) (hE : E < 2 ^ 256) : pw a E 0 = 1 := by
  unfold pw
  rw [Nat.sub_zero, Nat.div_eq_of_lt hE, Nat.pow_zero, Nat.mod_eq_of_lt (by have := P_big; omega)]
theorem half_step (E i : Nat) (hi : i < 256) : E / 2 ^ (256 - (i + 1)) = 2 * (E / 2 ^ (256 - i)) + E / 2 ^ (255 - i) % 2 := by
  rw [show 256 - (i + 1) = 255 - i by omega, show 256 - i = 255 - i + 1 by omega, Nat.pow_succ, ← Nat.div_div_eq_div_mul]
  omega
theorem pw_even (a E i : Nat) (hi : i < 256) (h : E / 2 ^ (255 - i) % 2 = 0) : pw a E i * pw a E i % P = pw a E (i + 1) := by
  unfold pw
  rw [half_step E i hi, h, Nat.add_zero, ← Nat.mul_mod, ← Nat.pow_add, Nat.two_mul]
theorem pw_odd (a E i : Nat) (hi : i < 256) (h : E / 2 ^ (255 - i) % 2 = 1) : pw a E i * pw a E i % P * a % P = pw a E (i + 1) := by
  unfold pw
  rw [half_step E i hi, h, Nat.mod_mul_mod, Nat.mul_assoc, Nat.mod_mul_mod, Nat.mul_left_comm, Nat.mod_mul_mod, Nat.pow_succ, Nat.two_mul, Nat.pow_add, Nat.mul_assoc]
theorem pw_all (a E : Nat) : pw a E 256 = a ^ E % P := by
  unfold pw
  rw [Nat.sub_self, Nat.pow_zero, Nat.div_one]

theorem one_limbs : (#[.int .u64 1, .int .u64 0, .int .u64 0, .int .u64 0, .int .u64 0] : Array Value) = (qcells (dg 2251799813685248 1) 5).toArray := by
  rw [qcells_lit5]
  rfl

set_option maxRecDepth 100000 in
theorem power_any (a : Nat) (e : Nat → Nat) (ha : a < P) (he : ∀ i, e i < 256) (w : World) :
    Calls Try.prog 47 #[el a, .agg (byteCells e 32).toArray] w fun x w' => x = .returned (el (a ^ le e 0 32 % P)) ∧ Below w.heap.size w w' := by
  obtain ⟨E, hE⟩ : ∃ E, E = le e 0 32 := ⟨_, rfl⟩
  have hlt : E < 2 ^ 256 := by rw [hE]; exact le_lt he 0 32
  have HZ := Lib.hid (pw_zero a E hlt)
  have HBIT := Lib.hid (le_bit e he)
  have HA := Lib.hid ha
  have HE := Lib.hid he
  rw [← hE] at HBIT ⊢
  obtain ⟨x, hx⟩ : ∃ x, x = dg 2251799813685248 a := ⟨_, rfl⟩
  have HX := Lib.hid hx
  rw [el, ← hx, qcells_lit5, byteCells_lit32]
  clear hx hE hlt ha he
  go_enter Try.func47, Try.ntmps47
  go_upto_region 1 with fail
  rw [← byteCells_lit32, ← qcells_lit5]
  refine cut_world (fun W => Whole W w.heap.size 38 (qcells x 5).toArray ∧ Whole W (w.heap.size + 1) 22 (byteCells e 32).toArray ∧ Whole W (w.heap.size + 1 + 1) 38 (qcells (fun _ => 0) 5).toArray ∧ Below w.heap.size w W) ⟨?_, ?_, ?_, ?_⟩ ?_
  · exact ((whole_new _ _ rfl).alloc _).alloc _
  · exact (whole_new _ _ (by simp)).alloc _
  · exact whole_new _ _ (by simp)
  · exact below_alloc (below_alloc (below_alloc (Below.refl _ _) _) _) _
  rintro W ⟨k1, k2, k3, kb⟩
  have K1 := Lib.hid k1
  have K2 := Lib.hid k2
  have K3 := Lib.hid k3
  have KB := Lib.hid kb
  have hb3 := k3.lt
  clear k1 k2 k3 kb
  generalize hB : w.heap.size = B at K1 K2 K3 KB hb3 ⊢
  go_upto_region 2 with fail
  refine cut_world (fun X => Whole X B 38 (qcells x 5).toArray ∧ Whole X (B + 1) 22 (byteCells e 32).toArray ∧ Whole X (B + 1 + 1) 38 (qcells (fun _ => 0) 5).toArray ∧ Whole X W.heap.size 38 (qcells (dg 2251799813685248 (pw a E 0)) 5).toArray ∧ Below B w X) ⟨K1.out.alloc _, K2.out.alloc _, K3.out.alloc _, ?_, KB.out.alloc (by omega) _⟩ ?_
  · rw [HZ.out, ← one_limbs]
    exact Whole.new _ _ _
  rintro X ⟨k1, k2, k3, k4, kb⟩
  have L1 := Lib.hid k1
  have L2 := Lib.hid k2
  have L3 := Lib.hid k3
  have L4 := Lib.hid k4
  have LB := Lib.hid kb
  clear k1 k2 k3 k4 kb K1 K2 K3 KB
  generalize W.heap.size = G at L4 hb3 ⊢
  have hcells : ∀ n : Nat, n < 32 → ((n : Int) < 32) := fun n h => by omega
  go_wp2_with fail
  go_loopw [10] (fun i wr => ∃ k : Nat, k ≤ 256 ∧ i = .int .i64 k ∧ Whole wr B 38 (qcells x 5).toArray ∧ Whole wr (B + 1) 22 (byteCells e 32).toArray ∧ Whole wr (B + 1 + 1) 38 (qcells (fun _ => 0) 5).toArray ∧ Whole wr G 38 (qcells (dg 2251799813685248 (pw a E k)) 5).toArray ∧ Below B w wr) (fun i _ => 256 - (intOf i).toNat)
  case atStart => exact ⟨0, by omega, rfl, L1.out, L2.out, L3.out, L4.out, LB.out⟩
  case round =>
    obtain ⟨k, hk, rfl, q1, q2, q3, q4, qb⟩ := hrel
    have hg4 := q4.lt
    have Q1 := Lib.hid q1
    have Q2 := Lib.hid q2
    have Q3 := Lib.hid q3
    have Q4 := Lib.hid q4
    have QB := Lib.hid qb
    clear q1 q2 q3 q4 qb
    by_cases hlt : k < 256
    · obtain ⟨n, hn⟩ : ∃ n, n = 255 - k := ⟨_, rfl⟩
      have HN := Lib.hid (show (255 : Int) - (k : Int) = (n : Int) by omega)
      have hp := pw_lt a E k
      have HEV := Lib.hid (pw_even a E k hlt)
      have HOD := Lib.hid (pw_odd a E k hlt)
      rw [← hn] at HEV HOD
      have HTM := Lib.hid (times_any (pw a E k) (pw a E k) hp hp)
      obtain ⟨b, hb⟩ : ∃ b, b = pw a E k * pw a E k % P := ⟨_, rfl⟩
      have hbP : b < P := by rw [hb]; exact Nat.mod_lt _ P_pos
      have HTA := Lib.hid (times_any b a hbP HA.out)
      rw [← hb] at HEV HOD HTM
      rw [el, el, ← HX.out] at HTA
      rw [el, el] at HTM
      generalize dg 2251799813685248 (pw a E k) = y at HTM Q4
      generalize hz : dg 2251799813685248 b = z at HTM HTA
      have HZB := Lib.hid hz
      have HB := Lib.hid hb
      have hbit := HBIT.out n (by omega)
      have hn255 : n < 256 := by omega
      have hp32 : n / 8 < 32 := by omega
      have ep := HE.out (n / 8)
      have HAND := Lib.hid (show bits .and .u8 ((e (n / 8) : Int) / 2 ^ (n % 8)) 1 = ((E / 2 ^ n % 2 : Nat) : Int) by
        rw [show ((e (n / 8) : Nat) : Int) / 2 ^ (n % 8) = ((e (n / 8) / 2 ^ (n % 8) : Nat) : Int) by rw [Int.natCast_ediv, Int.natCast_pow]; rfl, and1 _ (Nat.lt_of_le_of_lt (Nat.div_le_self _ _) ep), hbit])
      have hd2 : E / 2 ^ n % 2 = 0 ∨ E / 2 ^ n % 2 = 1 := by omega
      generalize E / 2 ^ n % 2 = d at HAND HEV HOD hd2
      have HNN := Lib.hid hn
      clear hn hz hb hp hbit
      go_upto_region 6 with fail
      rw [HN.out]
      go_wp2_with (refine wpList_load_row rfl 38 (.tmp 5) rfl G rfl 38 (qcells y 5).toArray (0, 0) _ Q4.out rfl rfl (by rw [qcells_size]; kernel_rfl) ?_)
      refine (HTM.out _).mono ?_
      rintro e w5 ⟨rfl, hb⟩
      have R1 := Lib.hid (Q1.out.below hb Q1.out.lt)
      have R2 := Lib.hid (Q2.out.below hb Q2.out.lt)
      have R3 := Lib.hid (Q3.out.below hb Q3.out.lt)
      have R4 := Lib.hid (Q4.out.below hb Q4.out.lt)
      have RB := Lib.hid (QB.out.trans (hb.mono (by omega)))
      clear hb Q1 Q2 Q3 Q4 QB
      go_upto_region 7 with (refine wpList_store_row rfl 38 (.tmp 5) (.tmp 17) rfl G (qcells z 5).toArray rfl rfl 38 _ R4.out (by rw [qcells_size]; kernel_rfl) (by rw [qcells_size, qcells_size]) (qcells_one _ _) ?_)
      refine cut_world (fun X => Whole X B 38 (qcells x 5).toArray ∧ Whole X (B + 1) 22 (byteCells e 32).toArray ∧ Whole X (B + 1 + 1) 38 (qcells (fun _ => 0) 5).toArray ∧ Whole X G 38 (qcells z 5).toArray ∧ Below B w X) ⟨Whole.farRow R1.out (by omega) _, Whole.farRow R2.out (by omega) _, Whole.farRow R3.out (by omega) _, setRow_heap _ _ _ _ _ _ R4.out, below_setRow RB.out (by omega) _⟩ ?_
      rintro X ⟨k1, k2, k3, k4, kb⟩
      have c2 := k2.bytes (n / 8) hp32
      rw [Nat.zero_add] at c2
      have Q1 := Lib.hid k1
      have Q2 := Lib.hid k2
      have Q3 := Lib.hid k3
      have Q4 := Lib.hid k4
      have QB := Lib.hid kb
      clear k1 k2 k3 k4 kb R1 R2 R3 R4 RB
      rcases hd2 with rfl | rfl
      · have hc := HAND.out
        have hc1 : (bits .and .u8 ((e (n / 8) : Int) / 2 ^ (n % 8)) 1 == 1) = false := by rw [hc]; rfl
        clear hc
        have he := HEV.out rfl
        have HZB2 := Lib.hid (show dg 2251799813685248 (pw a E (k + 1)) = z by rw [← HZB.out, ← he])
        clear he
        go_wp2_with fail
        go_roundw
        case rel => exact ⟨k + 1, by omega, by go_num, Q1.out, Q2.out, Q3.out, by rw [HZB2.out]; exact Q4.out, QB.out⟩
        case measure => simp [intOf]; omega
      · have hc := HAND.out
        have hc1 : (bits .and .u8 ((e (n / 8) : Int) / 2 ^ (n % 8)) 1 == 1) = true := by rw [hc]; rfl
        clear hc
        have ho := HOD.out rfl
        rw [el, ho] at HTA
        generalize hz2 : dg 2251799813685248 (pw a E (k + 1)) = z2 at HTA
        have HZB2 := Lib.hid hz2
        clear ho hz2
        go_wp2_with (first | (refine wpList_load_row rfl 38 (.tmp 5) rfl G rfl 38 (qcells z 5).toArray (0, 0) _ Q4.out rfl rfl (by rw [qcells_size]; kernel_rfl) ?_) | (refine wpList_load_row rfl 38 (.tmp 2) rfl B rfl 38 (qcells x 5).toArray (0, 0) _ Q1.out rfl rfl (by rw [qcells_size]; kernel_rfl) ?_))
        refine (HTA.out _).mono ?_
        rintro e w6 ⟨rfl, hb⟩
        have R1 := Lib.hid (Q1.out.below hb Q1.out.lt)
        have R2 := Lib.hid (Q2.out.below hb Q2.out.lt)
        have R3 := Lib.hid (Q3.out.below hb Q3.out.lt)
        have R4 := Lib.hid (Q4.out.below hb Q4.out.lt)
        have RB := Lib.hid (QB.out.trans (hb.mono (by have := Q1.out.lt; omega)))
        clear hb Q1 Q2 Q3 Q4 QB
        go_wp2_with (refine wpList_store_row rfl 38 (.tmp 5) (.tmp 29) rfl G (qcells z2 5).toArray rfl rfl 38 _ R4.out (by rw [qcells_size]; kernel_rfl) (by rw [qcells_size, qcells_size]) (qcells_one _ _) ?_)
        go_roundw
        case rel => exact ⟨k + 1, by omega, by go_num, Whole.farRow R1.out (by omega) _, Whole.farRow R2.out (by omega) _, Whole.farRow R3.out (by omega) _, by rw [HZB2.out]; exact setRow_heap _ _ _ _ _ _ R4.out, below_setRow RB.out (by omega) _⟩
        case measure => simp [intOf]; omega
    · obtain rfl : k = 256 := by omega
      rw [pw_all] at Q4
      generalize hL : dg 2251799813685248 (a ^ E % P) = L at Q4
      have HL := Lib.hid hL
      clear hL
      go_wp2_with (first | (refine wpList_load_row rfl 38 (.tmp 5) rfl G rfl 38 (qcells L 5).toArray (0, 0) _ Q4.out rfl rfl (by rw [qcells_size]; kernel_rfl) ?_) | (refine wpList_store_row rfl 38 (.tmp 4) (.tmp 31) rfl (B + 1 + 1) (qcells L 5).toArray rfl rfl 38 _ Q3.out (by rw [qcells_size]; kernel_rfl) (by rw [qcells_size, qcells_size]) (qcells_one _ _) ?_))
      have hret : Whole (wr.setRow (B + 1 + 1) (qcells L 5).toArray) (B + 1 + 1) 38 (qcells L 5).toArray := setRow_heap wr _ _ _ _ _ Q3.out
      refine bodyPost_ret (results_cell_row rfl _ _ (B + 1 + 1) 38 _ (0, 0) _ rfl hret rfl rfl (by rw [qcells_size]; kernel_rfl)) rfl ?_
      exact ⟨by rw [el, HL.out], by rw [hB]; exact below_setRow QB.out (by omega) _⟩

end Field
end Go.Proofs.Ytnopjjkijedpeaa
