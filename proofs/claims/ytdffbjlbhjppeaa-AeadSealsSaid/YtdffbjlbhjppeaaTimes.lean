/- The call times of package poly: the product of two numbers of five limbs modulo the prime. -/
import Derived.Test.YtdffbjlbhjppeaaLimbs
import Derived.Test.YtdffbjlbhjppeaaCatB
import Derived.Test.YtdffbjlbhjppeaaTree
namespace Go.Proofs.Ytdffbjlbhjppeaa
namespace Poly
open Go.ChangeShapes Go.WideShapes Go.ChangeAt Go.RowKit
open Num Mem Words PolyN Chacha

/-- what lies in memory while a product is made -/
def TimesW (w : World) (B : Nat) (a b : Nat → Nat) (t : Nat → Nat) (wr : World) : Prop :=
  Whole wr B 61 (qcells a 5).toArray ∧ Whole wr (B + 1) 61 (qcells b 5).toArray ∧ Whole wr (B + 1 + 1) 61 (qcells (fun _ => 0) 5).toArray ∧ Whole wr (B + 1 + 1 + 1) 61 (qcells t 5).toArray ∧ Below B w wr

theorem times_set {w wr : World} {B : Nat} {a b : Nat → Nat} {t t' : Nat → Nat} {m v : Nat} (nq : Nat) (h : TimesW w B a b t wr) (ht : ∀ k, k < 5 → (if k = m then v else t k) = t' k) :
    TimesW w B a b t' ((wr.drewN nq).setCell ⟨B + 1 + 1 + 1, m, none⟩ (.int .u64 (v : Nat))) := by
  obtain ⟨q1, q2, q3, q4, qb⟩ := h
  refine ⟨(q1.drewN nq).far (by first | (simp; done) | (simp; omega)) _, (q2.drewN nq).far (by first | (simp; done) | (simp; omega)) _, (q3.drewN nq).far (by simp) _, ?_, (below_drewN qb nq).setCell (by simp; omega) _⟩
  have h := (q4.drewN nq).put m (.int .u64 (v : Nat))
  rw [qcells_set, qcells_congr ht] at h
  exact h

theorem times_put {a b : Nat → Nat} {i j m : Nat} (hm : (i + j) % 5 = m) : ∀ k, k < 5 → (if k = m then tm a b i (j + 1) m else tm a b i j k) = tm a b i (j + 1) k := by
  intro k _
  by_cases e : k = m
  · subst e
    rw [if_pos rfl]
  · rw [if_neg e, tm_step, if_neg (by omega), Nat.add_zero]

theorem mul_five (x y t s : Nat) (hx : x < 268435456) (hy : y < 67108864) (ht : t < 4611686018427387904) (hs : s = t + x * y * 5) :
    IntKind.u64.wrap ((t : Int) + IntKind.u64.wrap ((x : Int) * (y : Int) * 5)) = ((s : Nat) : Int) := by
  have h : x * y ≤ 268435456 * 67108864 := Nat.mul_le_mul (Nat.le_of_lt hx) (Nat.le_of_lt hy)
  rw [show (x : Int) * (y : Int) * 5 = ((x * y * 5 : Nat) : Int) by rw [Int.natCast_mul, Int.natCast_mul]; rfl, wrap64_nat, Nat.mod_eq_of_lt (by omega), ← Int.natCast_add, wrap64_nat, Nat.mod_eq_of_lt (by omega), hs]
theorem mul_one (x y t s : Nat) (hx : x < 268435456) (hy : y < 67108864) (ht : t < 4611686018427387904) (hs : s = t + x * y * 1) :
    IntKind.u64.wrap ((t : Int) + (x : Int) * (y : Int)) = ((s : Nat) : Int) := by
  have h : x * y ≤ 268435456 * 67108864 := Nat.mul_le_mul (Nat.le_of_lt hx) (Nat.le_of_lt hy)
  rw [show (x : Int) * (y : Int) = ((x * y : Nat) : Int) by rw [Int.natCast_mul], ← Int.natCast_add, wrap64_nat, Nat.mod_eq_of_lt (by omega), hs, Nat.mul_one]

set_option maxRecDepth 100000 in
theorem times_any (a b : Nat → Nat) (ha : ∀ i, i < 5 → a i < 268435456) (hb : ∀ i, i < 5 → b i < 67108864) (w : World) :
    Calls Try.prog 53 #[.agg (qcells a 5).toArray, .agg (qcells b 5).toArray] w fun e w' => e = .returned (.agg (qcells (ti a b) 5).toArray) ∧ Below w.heap.size w w' := by
  have HA := Lib.hid ha
  have HB := Lib.hid hb
  have HT := Lib.hid (tm_bound a b ha hb)
  clear ha hb
  rw [qcells_lit5, qcells_lit5]
  go_enter Try.func53, Try.ntmps53
  go_upto_region 2 with fail
  refine cut_world (TimesW w w.heap.size a b (tm a b 0 0)) ⟨?_, ?_, ?_, ?_, ?_⟩ ?_
  · rw [qcells_lit5]
    exact (((whole_new _ _ rfl).alloc _).alloc _).alloc _
  · rw [qcells_lit5]
    exact ((whole_new _ _ (by simp)).alloc _).alloc _
  · exact (whole_new _ _ (by simp)).alloc _
  · exact whole_new _ _ (by simp)
  · exact below_alloc (below_alloc (below_alloc (below_alloc (Below.refl _ _) _) _) _) _
  rintro W hW
  have HW := Lib.hid hW
  clear hW
  generalize hB : w.heap.size = B at HW ⊢
  go_wp2_with fail
  go_loopw [9] (fun i wr => ∃ k : Nat, k ≤ 5 ∧ i = .int .i64 k ∧ TimesW w B a b (tm a b k 0) wr) (fun i _ => 5 - (intOf i).toNat)
  case atStart => exact ⟨0, by omega, rfl, HW.out⟩
  case round =>
    obtain ⟨i, hi, rfl, hq⟩ := hrel
    have HQ := Lib.hid hq
    clear hq
    by_cases hlt : i < 5
    · go_wp2_with fail
      go_loopw [12] (fun j wr => ∃ k : Nat, k ≤ 5 ∧ j = .int .i64 k ∧ TimesW w B a b (tm a b i k) wr) (fun j _ => 5 - (intOf j).toNat)
      case atStart => exact ⟨0, by omega, rfl, HQ.out⟩
      case round =>
        obtain ⟨j, hj, rfl, hq⟩ := hrel
        obtain ⟨q1, q2, q3, q4, qb⟩ := hq
        by_cases hlj : j < 5
        · obtain ⟨m, hm⟩ : ∃ m, (i + j) % 5 = m := ⟨_, rfl⟩
          have hm5 : m < 5 := by omega
          have c1 := q1.num i hlt
          have c2 := q2.num j hlj
          have c3 := q4.num m hm5
          have f3 := q4.free m
          have a1 := HA.out i hlt
          have b1 := HB.out j hlj
          have t1 := HT.out i j m hlt hj
          have t2 := HT.out i (j + 1) m hlt hlj
          have hst := tm_step a b i j m
          rw [if_pos hm] at hst
          have hmul : a i * b j < 18446744073709551616 := Nat.lt_of_le_of_lt (Nat.mul_le_mul (Nat.le_of_lt a1) (Nat.le_of_lt b1)) (by omega)
          have HM := Lib.hid (times_put (a := a) (b := b) hm)
          have HQ := Lib.hid (show TimesW w B a b (tm a b i j) wr from ⟨q1, q2, q3, q4, qb⟩)
          clear q1 q2 q3 q4 qb
          by_cases h5 : 5 ≤ i + j
          · rw [if_pos h5] at hst
            have HS := Lib.hid (mul_five (a i) (b j) (tm a b i j m) (tm a b i (j + 1) m) a1 b1 t1 hst)
            clear hst
            go_wp2_with fail
            go_quiet (fail)
            go_wp2_with fail
            go_roundw
            case rel => exact ⟨j + 1, by omega, by go_num, by rw [HS.out]; exact times_set _ HQ.out HM.out⟩
            case measure => simp [intOf]; omega
          · rw [if_neg h5] at hst
            have HS := Lib.hid (mul_one (a i) (b j) (tm a b i j m) (tm a b i (j + 1) m) a1 b1 t1 hst)
            clear hst
            go_wp2_with fail
            go_quiet (fail)
            go_wp2_with fail
            go_roundw
            case rel => exact ⟨j + 1, by omega, by go_num, by rw [HS.out]; exact times_set _ HQ.out HM.out⟩
            case measure => simp [intOf]; omega
        · obtain rfl : j = 5 := by omega
          have HQ := Lib.hid (show TimesW w B a b (tm a b (i + 1) 0) wr from ⟨q1, q2, q3, by rw [qcells_congr (fun k _ => tm_row a b i k)]; exact q4, qb⟩)
          clear q1 q2 q3 q4 qb
          go_wp2_with fail
          go_roundw
          case rel => exact ⟨i + 1, by omega, by go_num, HQ.out⟩
          case measure => simp [intOf]; omega
    · obtain rfl : i = 5 := by omega
      obtain ⟨q1, q2, q3, q4, qb⟩ := HQ.out
      have Q3 := Lib.hid q3
      have Q4 := Lib.hid q4
      have QB := Lib.hid qb
      have hlt2 := Lib.hid q4.lt
      have hwide := ca_wide (tm a b 5 0) (fun k _ => by
        have := tm_small_row a b HA.out HB.out 5 k (by omega)
        omega)
      have HWI := Lib.hid hwide
      have HT5 := Lib.hid (show ∀ k, k < 5 → tm a b 5 0 k < 4611686018427387904 from fun k _ => by
        have := tm_small_row a b HA.out HB.out 5 k (by omega)
        omega)
      clear q1 q2 q3 q4 qb HQ hwide
      go_wp2_with (refine wpList_load_row rfl 61 (.tmp 5) rfl (B + 1 + 1 + 1) rfl 61 (qcells (tm a b 5 0) 5).toArray (0, 0) _ Q4.out rfl rfl (by rw [qcells_size]; kernel_rfl) ?_)
      refine (carry_any (tm a b 5 0) HT5.out _).mono ?_
      rintro e w1 ⟨rfl, hb1⟩
      have R3 := Lib.hid (Q3.out.below hb1 Q3.out.lt)
      have RB := Lib.hid (QB.out.trans (hb1.mono (by have := hlt2.out; omega)))
      have hs1 := Lib.hid hb1.size
      clear hb1
      go_wp2_with fail
      refine (carry_any (ca (tm a b 5 0)) (fun k hk => by have := HWI.out.1 k hk; omega) _).mono ?_
      rintro e w2 ⟨rfl, hb2⟩
      have S3 := Lib.hid (R3.out.below hb2 R3.out.lt)
      have SB := Lib.hid (RB.out.trans (hb2.mono (by have := hlt2.out; have := hs1.out; omega)))
      clear hb2
      go_wp2_with (refine wpList_store_row rfl 61 (.tmp 4) (.tmp 41) rfl (B + 1 + 1) (qcells (ca (ca (tm a b 5 0))) 5).toArray rfl rfl 61 _ S3.out (by rw [qcells_size]; kernel_rfl) (by rw [qcells_size, qcells_size]) (qcells_one _ _) ?_)
      have hret : Whole (w2.setRow (B + 1 + 1) (qcells (ca (ca (tm a b 5 0))) 5).toArray) (B + 1 + 1) 61 (qcells (ca (ca (tm a b 5 0))) 5).toArray := setRow_heap w2 _ _ _ _ _ S3.out
      refine bodyPost_ret (results_cell_row rfl _ _ (B + 1 + 1) 61 _ (0, 0) _ rfl hret rfl rfl (by rw [qcells_size]; kernel_rfl)) rfl ?_
      exact ⟨rfl, by rw [hB]; exact below_setRow SB.out (by omega) _⟩

end Poly
end Go.Proofs.Ytdffbjlbhjppeaa
