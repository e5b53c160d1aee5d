/- Joined texts (mkpack.py): Times Lowest Xor Split Mark MarkEnd Mac PolySum PolyBoth Carry WordsHex RefOne RefNum. -/
import Derived.Test.YtdhjgenijieeaaaKit
import Derived.Test.YtdhjgenijieeaaaFloatK
import Derived.Test.YtdhjgenijieeaaaPkLow1
import Derived.Below
import Derived.Laws.OwnMore
import Derived.Laws.Rows
import Derived.Deep.Draws
import Derived.OwnWalk
import Derived.Laws.CopyOwn
import Derived.Laws.BitsAllLaws
import Derived.Test.YtdhjgenijieeaaaRows
import Derived.WalkKit
import Derived.ProofKit
import Derived.OpenShut
import Derived.BigQuiet
import Derived.Deep.QuietTactic
import Derived.Lib.Hide
import Derived.LoopN
import Derived.Deep.RegionWith
import Derived.BigRegion
import Derived.RegionTactic
import Derived.Outline
import Derived.Deep.RegionLaw
import Derived.Deep.MidRow
import Derived.Deep.Cut
import Derived.Laws.BytesArg
import Derived.Laws.BytesString
import Derived.Laws.AppendOwn
import Derived.Laws.AppendOwnNone
import Derived.Maps.AppendAt
import Derived.Deep.RegionHeld3
import Derived.StillTailTactics
import Derived.Laws.Externs
import Derived.Deep.LoopGhost
import Derived.Deep.DeepCutAuto
import Derived.Stop.BytesEq
import Derived.Lib.SlBytesConst
/-! from Times -/
namespace Go.Proofs.Ytdhjgenijieeaaa
namespace Poly
open Go.ChangeShapes Go.WideShapes Go.ChangeAt Go.RowKit
open Num Mem Words PolyN Chacha
/-- what lies in memory while a product is made -/
def TimesW (w : World) (B : Nat) (a b : Nat → Nat) (t : Nat → Nat) (wr : World) : Prop :=
  Whole wr B 105 (qcells a 5).toArray ∧ Whole wr (B + 1) 105 (qcells b 5).toArray ∧ Whole wr (B + 1 + 1) 105 (qcells (fun _ => 0) 5).toArray ∧ Whole wr (B + 1 + 1 + 1) 105 (qcells t 5).toArray ∧ Below B w wr
theorem times_set {w wr : World} {B : Nat} {a b : Nat → Nat} {t t' : Nat → Nat} {m v : Nat} (nq : Nat) (h : TimesW w B a b t wr) (ht : ∀ k, k < 5 → (if k = m then v else t k) = t' k) :
    TimesW w B a b t' ((wr.drewN nq).setCell ⟨B + 1 + 1 + 1, m, none⟩ (.int .u64 (v : Nat))) := by
  obtain ⟨q1, q2, q3, q4, qb⟩ := h
  refine ⟨(q1.drewN nq).far (by first | (simp; done) | (simp; omega)) _, (q2.drewN nq).far (by first | (simp; done) | (simp; omega)) _, (q3.drewN nq).far (by simp) _, ?_, (below_drewN qb nq).setCell (by simp; omega) _⟩
  have h := (q4.drewN nq).put m (.int .u64 (v : Nat))
  rw [qcells_set, qcells_congr ht] at h
  exact h
theorem times_put {a b : Nat → Nat} {i j m : Nat} (hm : (i + j) % 5 = m) : ∀ k, k < 5 → (if k = m then tm a b i (j + 1) m else tm a b i j k) = tm a b i (j + 1) k := by
  intro k _
  by_cases e : k = m
  · subst e
    rw [if_pos rfl]
  · rw [if_neg e, tm_step, if_neg (by omega), Nat.add_zero]
theorem mul_five (x y t s : Nat) (hx : x < 268435456) (hy : y < 67108864) (ht : t < 4611686018427387904) (hs : s = t + x * y * 5) :
    IntKind.u64.wrap ((t : Int) + IntKind.u64.wrap ((x : Int) * (y : Int) * 5)) = ((s : Nat) : Int) := by
  have h : x * y ≤ 268435456 * 67108864 := Nat.mul_le_mul (Nat.le_of_lt hx) (Nat.le_of_lt hy)
  rw [show (x : Int) * (y : Int) * 5 = ((x * y * 5 : Nat) : Int) by rw [Int.natCast_mul, Int.natCast_mul]; rfl, wrap64_nat, Nat.mod_eq_of_lt (by omega), ← Int.natCast_add, wrap64_nat, Nat.mod_eq_of_lt (by omega), hs]
theorem mul_one (x y t s : Nat) (hx : x < 268435456) (hy : y < 67108864) (ht : t < 4611686018427387904) (hs : s = t + x * y * 1) :
    IntKind.u64.wrap ((t : Int) + (x : Int) * (y : Int)) = ((s : Nat) : Int) := by
  have h : x * y ≤ 268435456 * 67108864 := Nat.mul_le_mul (Nat.le_of_lt hx) (Nat.le_of_lt hy)
  rw [show (x : Int) * (y : Int) = ((x * y : Nat) : Int) by rw [Int.natCast_mul], ← Int.natCast_add, wrap64_nat, Nat.mod_eq_of_lt (by omega), hs, Nat.mul_one]
set_option maxRecDepth 100000 in
theorem times_any (a b : Nat → Nat) (ha : ∀ i, i < 5 → a i < 268435456) (hb : ∀ i, i < 5 → b i < 67108864) (w : World) :
    Calls Try.prog 57 #[.agg (qcells a 5).toArray, .agg (qcells b 5).toArray] w fun e w' => e = .returned (.agg (qcells (ti a b) 5).toArray) ∧ Below w.heap.size w w' := by
  have HA := Lib.hid ha
  have HB := Lib.hid hb
  have HT := Lib.hid (tm_bound a b ha hb)
  clear ha hb
  rw [qcells_lit5, qcells_lit5]
  go_enter Try.func57, Try.ntmps57
  go_upto_region 2 with fail
  refine cut_world (TimesW w w.heap.size a b (tm a b 0 0)) ⟨?_, ?_, ?_, ?_, ?_⟩ ?_
  · rw [qcells_lit5]
    exact (((whole_new _ _ rfl).alloc _).alloc _).alloc _
  · rw [qcells_lit5]
    exact ((whole_new _ _ (by simp)).alloc _).alloc _
  · exact (whole_new _ _ (by simp)).alloc _
  · exact whole_new _ _ (by simp)
  · exact below_alloc (below_alloc (below_alloc (below_alloc (Below.refl _ _) _) _) _) _
  rintro W hW
  have HW := Lib.hid hW
  clear hW
  generalize hB : w.heap.size = B at HW ⊢
  go_wp2_with fail
  go_loopw [9] (fun i wr => ∃ k : Nat, k ≤ 5 ∧ i = .int .i64 k ∧ TimesW w B a b (tm a b k 0) wr) (fun i _ => 5 - (intOf i).toNat)
  case atStart => exact ⟨0, by omega, rfl, HW.out⟩
  case round =>
    obtain ⟨i, hi, rfl, hq⟩ := hrel
    have HQ := Lib.hid hq
    clear hq
    by_cases hlt : i < 5
    · go_wp2_with fail
      go_loopw [12] (fun j wr => ∃ k : Nat, k ≤ 5 ∧ j = .int .i64 k ∧ TimesW w B a b (tm a b i k) wr) (fun j _ => 5 - (intOf j).toNat)
      case atStart => exact ⟨0, by omega, rfl, HQ.out⟩
      case round =>
        obtain ⟨j, hj, rfl, hq⟩ := hrel
        obtain ⟨q1, q2, q3, q4, qb⟩ := hq
        by_cases hlj : j < 5
        · obtain ⟨m, hm⟩ : ∃ m, (i + j) % 5 = m := ⟨_, rfl⟩
          have hm5 : m < 5 := by omega
          have c1 := q1.num i hlt
          have c2 := q2.num j hlj
          have c3 := q4.num m hm5
          have f3 := q4.free m
          have a1 := HA.out i hlt
          have b1 := HB.out j hlj
          have t1 := HT.out i j m hlt hj
          have t2 := HT.out i (j + 1) m hlt hlj
          have hst := tm_step a b i j m
          rw [if_pos hm] at hst
          have hmul : a i * b j < 18446744073709551616 := Nat.lt_of_le_of_lt (Nat.mul_le_mul (Nat.le_of_lt a1) (Nat.le_of_lt b1)) (by omega)
          have HM := Lib.hid (times_put (a := a) (b := b) hm)
          have HQ := Lib.hid (show TimesW w B a b (tm a b i j) wr from ⟨q1, q2, q3, q4, qb⟩)
          clear q1 q2 q3 q4 qb
          by_cases h5 : 5 ≤ i + j
          · rw [if_pos h5] at hst
            have HS := Lib.hid (mul_five (a i) (b j) (tm a b i j m) (tm a b i (j + 1) m) a1 b1 t1 hst)
            clear hst
            go_wp2_with fail
            go_quiet (fail)
            go_wp2_with fail
            go_roundw
            case rel => exact ⟨j + 1, by omega, by go_num, by rw [HS.out]; exact times_set _ HQ.out HM.out⟩
            case measure => simp [intOf]; omega
          · rw [if_neg h5] at hst
            have HS := Lib.hid (mul_one (a i) (b j) (tm a b i j m) (tm a b i (j + 1) m) a1 b1 t1 hst)
            clear hst
            go_wp2_with fail
            go_quiet (fail)
            go_wp2_with fail
            go_roundw
            case rel => exact ⟨j + 1, by omega, by go_num, by rw [HS.out]; exact times_set _ HQ.out HM.out⟩
            case measure => simp [intOf]; omega
        · obtain rfl : j = 5 := by omega
          have HQ := Lib.hid (show TimesW w B a b (tm a b (i + 1) 0) wr from ⟨q1, q2, q3, by rw [qcells_congr (fun k _ => tm_row a b i k)]; exact q4, qb⟩)
          clear q1 q2 q3 q4 qb
          go_wp2_with fail
          go_roundw
          case rel => exact ⟨i + 1, by omega, by go_num, HQ.out⟩
          case measure => simp [intOf]; omega
    · obtain rfl : i = 5 := by omega
      obtain ⟨q1, q2, q3, q4, qb⟩ := HQ.out
      have Q3 := Lib.hid q3
      have Q4 := Lib.hid q4
      have QB := Lib.hid qb
      have hlt2 := Lib.hid q4.lt
      have hwide := ca_wide (tm a b 5 0) (fun k _ => by
        have := tm_small_row a b HA.out HB.out 5 k (by omega)
        omega)
      have HWI := Lib.hid hwide
      have HT5 := Lib.hid (show ∀ k, k < 5 → tm a b 5 0 k < 4611686018427387904 from fun k _ => by
        have := tm_small_row a b HA.out HB.out 5 k (by omega)
        omega)
      clear q1 q2 q3 q4 qb HQ hwide
      go_wp2_with (refine wpList_load_row rfl 105 (.tmp 5) rfl (B + 1 + 1 + 1) rfl 105 (qcells (tm a b 5 0) 5).toArray (0, 0) _ Q4.out rfl rfl (by rw [qcells_size]; kernel_rfl) ?_)
      refine (carry_any (tm a b 5 0) HT5.out _).mono ?_
      rintro e w1 ⟨rfl, hb1⟩
      have R3 := Lib.hid (Q3.out.below hb1 Q3.out.lt)
      have RB := Lib.hid (QB.out.trans (hb1.mono (by have := hlt2.out; omega)))
      have hs1 := Lib.hid hb1.size
      clear hb1
      go_wp2_with fail
      refine (carry_any (ca (tm a b 5 0)) (fun k hk => by have := HWI.out.1 k hk; omega) _).mono ?_
      rintro e w2 ⟨rfl, hb2⟩
      have S3 := Lib.hid (R3.out.below hb2 R3.out.lt)
      have SB := Lib.hid (RB.out.trans (hb2.mono (by have := hlt2.out; have := hs1.out; omega)))
      clear hb2
      go_wp2_with (refine wpList_store_row rfl 105 (.tmp 4) (.tmp 41) rfl (B + 1 + 1) (qcells (ca (ca (tm a b 5 0))) 5).toArray rfl rfl 105 _ S3.out (by rw [qcells_size]; kernel_rfl) (by rw [qcells_size, qcells_size]) (qcells_one _ _) ?_)
      have hret : Whole (w2.setRow (B + 1 + 1) (qcells (ca (ca (tm a b 5 0))) 5).toArray) (B + 1 + 1) 105 (qcells (ca (ca (tm a b 5 0))) 5).toArray := setRow_heap w2 _ _ _ _ _ S3.out
      refine bodyPost_ret (results_cell_row rfl _ _ (B + 1 + 1) 105 _ (0, 0) _ rfl hret rfl rfl (by rw [qcells_size]; kernel_rfl)) rfl ?_
      exact ⟨rfl, by rw [hB]; exact below_setRow SB.out (by omega) _⟩
end Poly
end Go.Proofs.Ytdhjgenijieeaaa

/-! from Lowest -/
namespace Go.Proofs.Ytdhjgenijieeaaa
namespace Poly
open Go.ChangeShapes Go.WideShapes Go.ChangeAt Go.RowKit
open Num Mem Words PolyN Chacha
theorem pick_zero (x y : Nat) (hx : x < 18446744073709551616) (hy : y < 18446744073709551616) : bits .or .u64 (bits .and .u64 (x : Int) 0) (bits .andNot .u64 (y : Int) 0) = ((y : Nat) : Int) := by
  have h1 := u64_and_nat x 0 hx (by omega)
  have h2 := u64_andNot_nat y 0 hy (by omega)
  rw [Nat.and_zero] at h1
  rw [show 18446744073709551615 - 0 = 2 ^ 64 - 1 from rfl, Nat.and_two_pow_sub_one_eq_mod, Nat.mod_eq_of_lt hy] at h2
  have h3 := u64_or_nat 0 y (by omega) hy
  rw [Nat.zero_or] at h3
  rw [show (0 : Int) = ((0 : Nat) : Int) from rfl, h1, h2, h3]
theorem pick_ones (x y : Nat) (hx : x < 18446744073709551616) (hy : y < 18446744073709551616) : bits .or .u64 (bits .and .u64 (x : Int) (IntKind.u64.wrap (-1))) (bits .andNot .u64 (y : Int) (IntKind.u64.wrap (-1))) = ((x : Nat) : Int) := by
  have h1 := u64_and_nat x 18446744073709551615 hx (by omega)
  have h2 := u64_andNot_nat y 18446744073709551615 hy (by omega)
  rw [show (18446744073709551615 : Nat) = 2 ^ 64 - 1 from rfl, Nat.and_two_pow_sub_one_eq_mod, Nat.mod_eq_of_lt hx] at h1
  rw [Nat.sub_self, Nat.and_zero] at h2
  have h3 := u64_or_nat x 0 hx (by omega)
  rw [Nat.or_zero] at h3
  rw [show IntKind.u64.wrap (-1) = ((2 ^ 64 - 1 : Nat) : Int) by rw [IntKind.wrap_u64]; rfl, h1, show ((2 ^ 64 - 1 : Nat) : Int) = ((18446744073709551615 : Nat) : Int) from rfl, h2, h3]
/-- what lies in memory while one of both numbers is chosen -/
def LowW (w : World) (B G : Nat) (l a : Nat → Nat) (wr : World) : Prop :=
  Whole wr B 105 (qcells a 5).toArray ∧ Whole wr (B + 1) 105 (qcells (fun _ => 0) 5).toArray ∧ Whole wr G 105 (qcells l 5).toArray ∧ B + 1 < G ∧ Below B w wr
theorem low_set {w wr : World} {B G : Nat} {l a a' : Nat → Nat} {m v : Nat} (nq : Nat) (h : LowW w B G l a wr) (ht : ∀ k, k < 5 → (if k = m then v else a k) = a' k) :
    LowW w B G l a' ((wr.drewN nq).setCell ⟨B, m, none⟩ (.int .u64 (v : Nat))) := by
  obtain ⟨q1, q2, q3, q4, qb⟩ := h
  refine ⟨?_, (q2.drewN nq).far (by simp) _, (q3.drewN nq).far (by simp; omega) _, q4, (below_drewN qb nq).setCell (by simp) _⟩
  have h := (q1.drewN nq).put m (.int .u64 (v : Nat))
  rw [qcells_set, qcells_congr ht] at h
  exact h
set_option maxRecDepth 100000 in
theorem lowest_zero (a : Nat → Nat) (h : ∀ i, i < 5 → a i < 67108869) (h' : ∀ i, 1 ≤ i → i < 5 → a i < 67108864) (hz : pc (ca a) 5 5 = 0) (w : World) :
    Calls Try.prog 58 #[.agg (qcells a 5).toArray] w fun e w' => e = .returned (.agg (qcells (ca a) 5).toArray) ∧ Below w.heap.size w w' := by
  have HZ := Lib.hid (show ((pc (ca a) 5 5 : Nat) : Int) = 0 by rw [hz]; rfl)
  have HC := Lib.hid (ca_thrice a h h')
  have HA := Lib.hid (show ∀ i, i < 5 → a i < 4611686018427387904 from fun i hi => by have := h i hi; omega)
  clear h h' hz
  rw [qcells_lit5]
  go_enter Try.func58, Try.ntmps58
  go_upto_region 1 with fail
  refine cut_world (fun W => Whole W w.heap.size 105 (qcells a 5).toArray ∧ Whole W (w.heap.size + 1) 105 (qcells (fun _ => 0) 5).toArray ∧ Below w.heap.size w W) ⟨?_, ?_, ?_⟩ ?_
  · rw [qcells_lit5]
    exact (whole_new _ _ rfl).alloc _
  · exact whole_new _ _ (by simp)
  · exact below_alloc (below_alloc (Below.refl _ _) _) _
  rintro W ⟨k1, k2, kb⟩
  have K1 := Lib.hid k1
  have K2 := Lib.hid k2
  have KB := Lib.hid kb
  have hb2 := k2.lt
  clear k1 k2 kb
  generalize hB : w.heap.size = B at K1 K2 KB hb2 ⊢
  go_wp2_with (refine wpList_load_row rfl 105 (.tmp 1) rfl B rfl 105 (qcells a 5).toArray (0, 0) _ K1.out rfl rfl (by rw [qcells_size]; kernel_rfl) ?_)
  refine (carry_any a HA.out _).mono ?_
  rintro e w1 ⟨rfl, hb⟩
  have L1 := Lib.hid (K1.out.below hb K1.out.lt)
  have L2 := Lib.hid (K2.out.below hb K2.out.lt)
  have LB := Lib.hid (KB.out.trans (hb.mono (by omega)))
  have hb3 := hb.size
  clear hb K1 K2 KB
  go_upto_region 2 with (refine wpList_store_row rfl 105 (.tmp 1) (.tmp 8) rfl B (qcells (ca a) 5).toArray rfl rfl 105 _ L1.out (by rw [qcells_size]; kernel_rfl) (by rw [qcells_size, qcells_size]) (qcells_one _ _) ?_)
  refine cut_world (fun W => Whole W B 105 (qcells (ca a) 5).toArray ∧ Whole W (B + 1) 105 (qcells (fun _ => 0) 5).toArray ∧ Below B w W) ⟨?_, ?_, ?_⟩ ?_
  · exact setRow_heap w1 _ _ _ _ _ L1.out
  · exact (setRow_other w1 B (B + 1) _ (by omega)).trans L2.out
  · exact below_setRow LB.out (by omega) _
  rintro W2 ⟨k1, k2, kb⟩
  have K1 := Lib.hid k1
  have K2 := Lib.hid k2
  have KB := Lib.hid kb
  have hb4 := k2.lt
  clear k1 k2 kb L1 L2 LB hb2 hb3
  go_wp2_with (refine wpList_load_row rfl 105 (.tmp 1) rfl B rfl 105 (qcells (ca a) 5).toArray (0, 0) _ K1.out rfl rfl (by rw [qcells_size]; kernel_rfl) ?_)
  refine (pass_any (ca a) 5 (fun i hi => by have := HC.out i hi; omega) (by omega) _).mono ?_
  rintro e w3 ⟨rfl, hb⟩
  rw [HZ.out]
  have L1 := Lib.hid (K1.out.below hb K1.out.lt)
  have L2 := Lib.hid (K2.out.below hb K2.out.lt)
  have LB := Lib.hid (KB.out.trans (hb.mono (by omega)))
  have hb5 := hb.size
  clear hb K1 K2 KB
  go_upto_region 3 with (refine wpList_store_row rfl 105 (.tmp 3) (.tmp 12) rfl w3.heap.size (qcells (po (ca a) 5) 5).toArray rfl rfl 105 _ (Whole.new _ _ _) (by rw [qcells_size]; kernel_rfl) (by rw [qcells_size]; rfl) (qcells_one _ _) ?_)
  refine cut_world (LowW w B w3.heap.size (po (ca a) 5) (ca a)) ⟨?_, ?_, ?_, ?_, ?_⟩ ?_
  · exact (setRow_other _ _ B _ (by omega)).trans (L1.out.alloc _)
  · exact (setRow_other _ _ (B + 1) _ (by omega)).trans (L2.out.alloc _)
  · exact setRow_heap _ _ _ _ _ _ (Whole.new _ _ _)
  · omega
  · exact below_setRow (LB.out.alloc (by omega) _) (by omega) _
  rintro W3 hW
  have HW := Lib.hid hW
  clear hW L1 L2 LB
  generalize w3.heap.size = G at HW ⊢
  go_wp2_with fail
  go_loopw [16] (fun i wr => ∃ k : Nat, k ≤ 5 ∧ i = .int .i64 k ∧ LowW w B G (po (ca a) 5) (fun i => if i < k then ca a i else ca a i) wr) (fun i _ => 5 - (intOf i).toNat)
  case atStart => exact ⟨0, by omega, rfl, HW.out⟩
  case round =>
    obtain ⟨k, hk, rfl, hq⟩ := hrel
    obtain ⟨q1, q2, q3, q4, qb⟩ := hq
    by_cases hlt : k < 5
    · have c1 := q1.num k hlt
      have c3 := q3.num k hlt
      have f1 := q1.free k
      rw [if_neg (Nat.lt_irrefl k)] at c1
      have HP := Lib.hid (pick_zero (po (ca a) 5 k) (ca a k) (by have := po_lt (ca a) 5 k; omega) (by have := HC.out k hlt; omega))
      have HQ := Lib.hid (show LowW w B G (po (ca a) 5) (fun i => if i < k then ca a i else ca a i) wr from ⟨q1, q2, q3, q4, qb⟩)
      clear q1 q2 q3 qb
      go_wp2_with fail
      refine wp_region_still_tail 13 (by kernel_rfl) (by kernel_rfl) ?_
      simp only [List.take_succ_cons, List.take_zero, List.drop_succ_cons, List.drop_zero]
      repeat still_step
      refine wpStill_nil ?_
      change wpList _ _ _ _ _ wr.drew
      rw [HP.out]
      go_wp2_with fail
      go_roundw
      case rel => exact ⟨k + 1, by omega, by go_num, low_set (v := ca a k) 1 HQ.out (fun i _ => by
        by_cases e : i = k
        · subst e
          rw [if_pos rfl, if_pos (by omega)]
        · rw [if_neg e]
          by_cases l : i < k
          · rw [if_pos l, if_pos (by omega)]
          · rw [if_neg l, if_neg (by omega)])⟩
      case measure => simp [intOf]; omega
    · obtain rfl : k = 5 := by omega
      rw [qcells_congr (g := ca a) (fun i hi => if_pos hi)] at q1
      have Q1 := Lib.hid q1
      have Q2 := Lib.hid q2
      have QB := Lib.hid qb
      clear q1 q2 q3 qb
      go_wp2_with (first | (refine wpList_load_row rfl 105 (.tmp 1) rfl B rfl 105 (qcells (ca a) 5).toArray (0, 0) _ Q1.out rfl rfl (by rw [qcells_size]; kernel_rfl) ?_) | (refine wpList_store_row rfl 105 (.tmp 2) (.tmp 33) rfl (B + 1) (qcells (ca a) 5).toArray rfl rfl 105 _ Q2.out (by rw [qcells_size]; kernel_rfl) (by rw [qcells_size, qcells_size]) (qcells_one _ _) ?_))
      have hret : Whole (wr.setRow (B + 1) (qcells (ca a) 5).toArray) (B + 1) 105 (qcells (ca a) 5).toArray := setRow_heap wr _ _ _ _ _ Q2.out
      refine bodyPost_ret (results_cell_row rfl _ _ (B + 1) 105 _ (0, 0) _ rfl hret rfl rfl (by rw [qcells_size]; kernel_rfl)) rfl ?_
      exact ⟨rfl, by rw [hB]; exact below_setRow QB.out (by omega) _⟩
set_option maxRecDepth 100000 in
theorem lowest_one (a : Nat → Nat) (h : ∀ i, i < 5 → a i < 67108869) (h' : ∀ i, 1 ≤ i → i < 5 → a i < 67108864) (hz : pc (ca a) 5 5 = 1) (w : World) :
    Calls Try.prog 58 #[.agg (qcells a 5).toArray] w fun e w' => e = .returned (.agg (qcells (po (ca a) 5) 5).toArray) ∧ Below w.heap.size w w' := by
  have HZ := Lib.hid (show ((pc (ca a) 5 5 : Nat) : Int) = 1 by rw [hz]; rfl)
  have HC := Lib.hid (ca_thrice a h h')
  have HA := Lib.hid (show ∀ i, i < 5 → a i < 4611686018427387904 from fun i hi => by have := h i hi; omega)
  clear h h' hz
  rw [qcells_lit5]
  go_enter Try.func58, Try.ntmps58
  go_upto_region 1 with fail
  refine cut_world (fun W => Whole W w.heap.size 105 (qcells a 5).toArray ∧ Whole W (w.heap.size + 1) 105 (qcells (fun _ => 0) 5).toArray ∧ Below w.heap.size w W) ⟨?_, ?_, ?_⟩ ?_
  · rw [qcells_lit5]
    exact (whole_new _ _ rfl).alloc _
  · exact whole_new _ _ (by simp)
  · exact below_alloc (below_alloc (Below.refl _ _) _) _
  rintro W ⟨k1, k2, kb⟩
  have K1 := Lib.hid k1
  have K2 := Lib.hid k2
  have KB := Lib.hid kb
  have hb2 := k2.lt
  clear k1 k2 kb
  generalize hB : w.heap.size = B at K1 K2 KB hb2 ⊢
  go_wp2_with (refine wpList_load_row rfl 105 (.tmp 1) rfl B rfl 105 (qcells a 5).toArray (0, 0) _ K1.out rfl rfl (by rw [qcells_size]; kernel_rfl) ?_)
  refine (carry_any a HA.out _).mono ?_
  rintro e w1 ⟨rfl, hb⟩
  have L1 := Lib.hid (K1.out.below hb K1.out.lt)
  have L2 := Lib.hid (K2.out.below hb K2.out.lt)
  have LB := Lib.hid (KB.out.trans (hb.mono (by omega)))
  have hb3 := hb.size
  clear hb K1 K2 KB
  go_upto_region 2 with (refine wpList_store_row rfl 105 (.tmp 1) (.tmp 8) rfl B (qcells (ca a) 5).toArray rfl rfl 105 _ L1.out (by rw [qcells_size]; kernel_rfl) (by rw [qcells_size, qcells_size]) (qcells_one _ _) ?_)
  refine cut_world (fun W => Whole W B 105 (qcells (ca a) 5).toArray ∧ Whole W (B + 1) 105 (qcells (fun _ => 0) 5).toArray ∧ Below B w W) ⟨?_, ?_, ?_⟩ ?_
  · exact setRow_heap w1 _ _ _ _ _ L1.out
  · exact (setRow_other w1 B (B + 1) _ (by omega)).trans L2.out
  · exact below_setRow LB.out (by omega) _
  rintro W2 ⟨k1, k2, kb⟩
  have K1 := Lib.hid k1
  have K2 := Lib.hid k2
  have KB := Lib.hid kb
  have hb4 := k2.lt
  clear k1 k2 kb L1 L2 LB hb2 hb3
  go_wp2_with (refine wpList_load_row rfl 105 (.tmp 1) rfl B rfl 105 (qcells (ca a) 5).toArray (0, 0) _ K1.out rfl rfl (by rw [qcells_size]; kernel_rfl) ?_)
  refine (pass_any (ca a) 5 (fun i hi => by have := HC.out i hi; omega) (by omega) _).mono ?_
  rintro e w3 ⟨rfl, hb⟩
  rw [HZ.out]
  have L1 := Lib.hid (K1.out.below hb K1.out.lt)
  have L2 := Lib.hid (K2.out.below hb K2.out.lt)
  have LB := Lib.hid (KB.out.trans (hb.mono (by omega)))
  have hb5 := hb.size
  clear hb K1 K2 KB
  go_upto_region 3 with (refine wpList_store_row rfl 105 (.tmp 3) (.tmp 12) rfl w3.heap.size (qcells (po (ca a) 5) 5).toArray rfl rfl 105 _ (Whole.new _ _ _) (by rw [qcells_size]; kernel_rfl) (by rw [qcells_size]; rfl) (qcells_one _ _) ?_)
  refine cut_world (LowW w B w3.heap.size (po (ca a) 5) (ca a)) ⟨?_, ?_, ?_, ?_, ?_⟩ ?_
  · exact (setRow_other _ _ B _ (by omega)).trans (L1.out.alloc _)
  · exact (setRow_other _ _ (B + 1) _ (by omega)).trans (L2.out.alloc _)
  · exact setRow_heap _ _ _ _ _ _ (Whole.new _ _ _)
  · omega
  · exact below_setRow (LB.out.alloc (by omega) _) (by omega) _
  rintro W3 hW
  have HW := Lib.hid hW
  clear hW L1 L2 LB
  generalize w3.heap.size = G at HW ⊢
  go_wp2_with fail
  go_loopw [16] (fun i wr => ∃ k : Nat, k ≤ 5 ∧ i = .int .i64 k ∧ LowW w B G (po (ca a) 5) (fun i => if i < k then po (ca a) 5 i else ca a i) wr) (fun i _ => 5 - (intOf i).toNat)
  case atStart => exact ⟨0, by omega, rfl, HW.out⟩
  case round =>
    obtain ⟨k, hk, rfl, hq⟩ := hrel
    obtain ⟨q1, q2, q3, q4, qb⟩ := hq
    by_cases hlt : k < 5
    · have c1 := q1.num k hlt
      have c3 := q3.num k hlt
      have f1 := q1.free k
      rw [if_neg (Nat.lt_irrefl k)] at c1
      have HP := Lib.hid (pick_ones (po (ca a) 5 k) (ca a k) (by have := po_lt (ca a) 5 k; omega) (by have := HC.out k hlt; omega))
      have HQ := Lib.hid (show LowW w B G (po (ca a) 5) (fun i => if i < k then po (ca a) 5 i else ca a i) wr from ⟨q1, q2, q3, q4, qb⟩)
      clear q1 q2 q3 qb
      go_wp2_with fail
      refine wp_region_still_tail 13 (by kernel_rfl) (by kernel_rfl) ?_
      simp only [List.take_succ_cons, List.take_zero, List.drop_succ_cons, List.drop_zero]
      repeat still_step
      refine wpStill_nil ?_
      change wpList _ _ _ _ _ wr.drew
      rw [HP.out]
      go_wp2_with fail
      go_roundw
      case rel => exact ⟨k + 1, by omega, by go_num, low_set (v := po (ca a) 5 k) 1 HQ.out (fun i _ => by
        by_cases e : i = k
        · subst e
          rw [if_pos rfl, if_pos (by omega)]
        · rw [if_neg e]
          by_cases l : i < k
          · rw [if_pos l, if_pos (by omega)]
          · rw [if_neg l, if_neg (by omega)])⟩
      case measure => simp [intOf]; omega
    · obtain rfl : k = 5 := by omega
      rw [qcells_congr (g := po (ca a) 5) (fun i hi => if_pos hi)] at q1
      have Q1 := Lib.hid q1
      have Q2 := Lib.hid q2
      have QB := Lib.hid qb
      clear q1 q2 q3 qb
      go_wp2_with (first | (refine wpList_load_row rfl 105 (.tmp 1) rfl B rfl 105 (qcells (po (ca a) 5) 5).toArray (0, 0) _ Q1.out rfl rfl (by rw [qcells_size]; kernel_rfl) ?_) | (refine wpList_store_row rfl 105 (.tmp 2) (.tmp 33) rfl (B + 1) (qcells (po (ca a) 5) 5).toArray rfl rfl 105 _ Q2.out (by rw [qcells_size]; kernel_rfl) (by rw [qcells_size, qcells_size]) (qcells_one _ _) ?_))
      have hret : Whole (wr.setRow (B + 1) (qcells (po (ca a) 5) 5).toArray) (B + 1) 105 (qcells (po (ca a) 5) 5).toArray := setRow_heap wr _ _ _ _ _ Q2.out
      refine bodyPost_ret (results_cell_row rfl _ _ (B + 1) 105 _ (0, 0) _ rfl hret rfl rfl (by rw [qcells_size]; kernel_rfl)) rfl ?_
      exact ⟨rfl, by rw [hB]; exact below_setRow QB.out (by omega) _⟩
theorem lowest_any (a : Nat → Nat) (h : ∀ i, i < 5 → a i < 67108869) (h' : ∀ i, 1 ≤ i → i < 5 → a i < 67108864) (w : World) :
    Calls Try.prog 58 #[.agg (qcells a 5).toArray] w fun e w' => e = .returned (.agg (qcells (lo a) 5).toArray) ∧ Below w.heap.size w w' := by
  have hs := (lo_spec a h h').1
  rcases Nat.eq_zero_or_pos (pc (ca a) 5 5) with e | e
  · rw [qcells_congr (f := lo a) (g := ca a) (fun i _ => by unfold lo; rw [if_pos e])]
    exact lowest_zero a h h' e w
  · rw [qcells_congr (f := lo a) (g := po (ca a) 5) (fun i _ => by unfold lo; rw [if_neg (by omega)])]
    exact lowest_one a h h' (by omega) w
end Poly
end Go.Proofs.Ytdhjgenijieeaaa

/-! from Xor -/
namespace Go.Proofs.Ytdhjgenijieeaaa
namespace Chacha
open Go.ChangeShapes Go.WideShapes Go.ChangeAt Go.RowKit
open Num Mem Words State Quiet
theorem blk_lt (key nonce : Nat → Nat) (ctr j : Nat) : blk key nonce ctr j < 256 := byteAt_lt _ _
/-- what b is xor'ed to -/
def xo (key nonce : Nat → Nat) (ctr : Nat) (f : Nat → Nat) (j : Nat) : Nat := f j ^^^ blk key nonce (ctr + j / 64) (j % 64)
set_option maxRecDepth 100000 in
theorem xor_over (key nonce : Nat → Nat) (ctr : Nat) (hc : ctr < 4294967296) (A : Option Addr) (n c : Nat) (h : n ≤ 65536) (hfit : 4294967296 < ctr + (n + 63) / 64) (w : World) :
    Calls Try.prog 31 #[.agg (byteCells key 32).toArray, .agg (byteCells nonce 12).toArray, .int .u32 ctr, .slice A n c] w fun e w' => e = .returned (.tuple #[.slice none 0 0, .int .i64 2]) ∧ Below w.heap.size w w' := by
  rw [byteCells_lit32, byteCells_lit12]
  go_enter Try.func31, Try.ntmps31
  go_wp2_with fail
  go_ret2
  exact ⟨rfl, below_alloc (below_alloc (Below.refl _ _) _) _⟩
/-- the first k are xor'ed -/
def xpart (key nonce : Nat → Nat) (ctr : Nat) (f : Nat → Nat) (k j : Nat) : Nat := if j < k then xo key nonce ctr f j else f j
theorem rd_copy {w : World} {A : Option Addr} {n g : Nat} {f : Nat → Nat} (h : Rd w A n f) : 0 < (byteCells f n).length → (some (⟨g, 0, none⟩ : Addr) = some ⟨g, 0, none⟩) ∧ ∃ ad, A = some ad ∧ ∀ (j : Nat) (v : Value), (byteCells f n)[j]? = some v → w.cell? (ad.add j) = some v := by
  intro h0
  rw [byteCells_length] at h0
  rcases h with h | ⟨b, off, hA, _, hc⟩
  · omega
  · refine ⟨rfl, _, hA, fun j v hj => ?_⟩
    have hj' : j < n := by
      rcases Nat.lt_or_ge j n with k | k
      · exact k
      · rw [List.getElem?_eq_none (by rw [byteCells_length]; exact k)] at hj
        cases hj
    rw [byteCells_get f n j hj'] at hj
    have h2 := hc j hj'
    rw [hj] at h2
    by_cases h0 : j = 0
    · subst h0
      simpa [Addr.add] using h2
    · simpa [Addr.add, h0] using h2
theorem rd_more3 {w : World} {A : Option Addr} {n : Nat} {f : Nat → Nat} (h : Rd w A n f) (a b c : Obj) : Rd (((w.alloc a).alloc b).alloc c) A n f :=
  h.below (below_alloc (below_alloc (below_alloc (Below.refl _ _) _) _) _) (Nat.le_refl _)
set_option maxRecDepth 100000 in
set_option maxHeartbeats 2000000 in
theorem xor_ok (key nonce : Nat → Nat) (hk : ∀ i, key i < 256) (hno : ∀ i, nonce i < 256) (ctr : Nat) (hc : ctr < 4294967296) (A : Option Addr) (n c : Nat) (f : Nat → Nat) (hf : ∀ i, f i < 256) (h : n ≤ 65536) (hfit : ctr + (n + 63) / 64 ≤ 4294967296) (w : World) (hA : Rd w A n f) :
    Calls Try.prog 31 #[.agg (byteCells key 32).toArray, .agg (byteCells nonce 12).toArray, .int .u32 ctr, .slice A n c] w fun e w' => ∃ g, e = .returned (.tuple #[.slice (some ⟨g, 0, none⟩) n n, .int .i64 0]) ∧ Whole w' g 5 (byteCells (xo key nonce ctr f) n).toArray ∧ Below w.heap.size w w' := by
  have HKF := Lib.hid hk
  have HNF := Lib.hid hno
  have HFF := Lib.hid hf
  have HA := Lib.hid hA
  have hm : ((n : Int) + 64 - 1) / 64 = (((n + 63) / 64 : Nat) : Int) := by omega
  have hmn : 64 * ((n + 63) / 64) < n + 64 := by omega
  have hmn2 : n ≤ 64 * ((n + 63) / 64) := by omega
  have h1 : (n : Int) ≤ 65536 := by omega
  have h2 : (ctr : Int) + (((n + 63) / 64 : Nat) : Int) ≤ 4294967296 := by omega
  generalize (n + 63) / 64 = m at hm hmn hmn2 h2 hfit
  have HM := Lib.hid hm
  clear hk hno hf hA hm
  rw [byteCells_lit32, byteCells_lit12]
  go_enter Try.func31, Try.ntmps31
  have h3 : (ctr : Int) + ((n : Int) + 64 - 1) / 64 ≤ 4294967296 := by rw [HM.out]; exact h2
  go_wp2_with fail
  simp only [HM.out]
  rw [made_bytes n (by omega)]
  go_wp2_with (first | (refine wpList_copy_splice rfl (.tmp 33) (.tmp 34) 38 38 rfl 5 rfl (by kernel_rfl) (some ⟨w.heap.size + 1 + 1, 0, none⟩) A n n n c rfl rfl (w.heap.size + 1 + 1) 0 (byteCells (fun _ => 0) n) 5 (whole_new _ _ (by simp)) (byteCells f n) (by rw [byteCells_length]; exact (Nat.min_self n).symm) (rd_copy (rd_more3 HA.out _ _ _)) (by rw [byteCells_length, byteCells_length]; omega) (bytes_each _ _) (w.heap.size + 1 + 1) _ (Below.refl _ _) (Nat.le_refl _) ?_))
  intro w4 hg4 hb4
  have k1 : Whole w4 w.heap.size 24 (byteCells key 32).toArray := by
    rw [byteCells_lit32]
    exact ((((whole_new _ _ rfl).alloc _).alloc _).below hb4 (by omega))
  have k2 : Whole w4 (w.heap.size + 1) 76 (byteCells nonce 12).toArray := by
    rw [byteCells_lit12]
    exact (((whole_new _ _ (by simp)).alloc _).below hb4 (by omega))
  have k3 : Whole w4 (w.heap.size + 1 + 1) 5 (byteCells (xpart key nonce ctr f 0) n).toArray := by
    have h := hg4.out
    rw [byteCells_splice (fun _ => 0) f (xpart key nonce ctr f 0) n 0 n (by omega) (fun i hi => by rw [if_pos ⟨Nat.zero_le _, by omega⟩]; rfl)] at h
    exact h
  have kb : Below w.heap.size w w4 := (below_alloc (below_alloc (below_alloc (Below.refl _ _) _) _) _).trans (hb4.mono (by omega))
  have K1 := Lib.hid k1
  have K2 := Lib.hid k2
  have K3 := Lib.hid k3
  have KB := Lib.hid kb
  clear k1 k2 k3 kb hg4 hb4
  generalize hB : w.heap.size = B at K1 K2 K3 KB ⊢
  go_wp2_with fail
  go_loopw [37] (fun i wr => ∃ k : Nat, k ≤ m ∧ i = .int .i64 k ∧ Whole wr B 24 (byteCells key 32).toArray ∧ Whole wr (B + 1) 76 (byteCells nonce 12).toArray ∧ Whole wr (B + 1 + 1) 5 (byteCells (xpart key nonce ctr f (64 * k)) n).toArray ∧ Below B w wr) (fun i _ => m - (intOf i).toNat)
  case atStart => exact ⟨0, by omega, rfl, K1.out, K2.out, K3.out, KB.out⟩
  case round =>
    obtain ⟨k, hk, rfl, q1, q2, q3, qb⟩ := hrel
    by_cases hlt : k < m
    · have Q1 := Lib.hid q1
      have Q2 := Lib.hid q2
      have Q3 := Lib.hid q3
      have QB := Lib.hid qb
      have HCK := Lib.hid (show ((ctr : Int) + (k : Int)) = ((ctr + k : Nat) : Int) by omega)
      have i1 : (k : Int) < m := by omega
      have i2 : 64 * (k : Int) ≤ n := by omega
      have i3 : ¬ n = 64 * k := by omega
      clear q1 q2 q3 qb
      go_wp2_with (first | (refine wpList_load_row rfl 24 (.tmp 4) rfl B rfl 24 (byteCells key 32).toArray (0, 0) _ Q1.out rfl rfl (by kernel_rfl) ?_) | (refine wpList_load_row rfl 76 (.tmp 5) rfl (B + 1) rfl 76 (byteCells nonce 12).toArray (0, 0) _ Q2.out rfl rfl (by kernel_rfl) ?_))
      rw [HCK.out]
      refine (block_any key nonce HKF.out HNF.out (ctr + k) (by omega) _).mono ?_
      rintro e w1 ⟨rfl, hb1⟩
      have P1 := Lib.hid (Q1.out.below hb1 Q1.out.lt)
      have P2 := Lib.hid (Q2.out.below hb1 Q2.out.lt)
      have P3 := Lib.hid (Q3.out.below hb1 Q3.out.lt)
      have lq := Q3.out.lt
      have PB := Lib.hid (QB.out.trans (hb1.mono (by omega)))
      have lp := P3.out.lt
      clear hb1
      have HZ64 := Lib.hid (show (byteCells (blk key nonce (ctr + k)) 64).toArray.size = 64 by rw [List.size_toArray, byteCells_length])
      by_cases hp : n - 64 * k ≤ 64
      · have hp' : ((n - 64 * k : Nat) : Int) ≤ 64 := by omega
        go_wp2_with (refine wpList_store_row rfl 92 (.tmp 13) (.tmp 46) rfl w1.heap.size (byteCells (blk key nonce (ctr + k)) 64).toArray rfl rfl 92 _ (Whole.new _ _ _) (by rw [HZ64.out]; kernel_rfl) (by rw [HZ64.out]; rfl) (bytes_one _ _) ?_)
        refine cut_world (fun X => Whole X B 24 (byteCells key 32).toArray ∧ Whole X (B + 1) 76 (byteCells nonce 12).toArray ∧ Whole X (B + 1 + 1) 5 (byteCells (xpart key nonce ctr f (64 * k)) n).toArray ∧ Whole X w1.heap.size 92 (byteCells (blk key nonce (ctr + k)) 64).toArray ∧ Below B w X) ⟨Whole.farRow (P1.out.alloc _) (Nat.ne_of_lt P1.out.lt) _, Whole.farRow (P2.out.alloc _) (Nat.ne_of_lt P2.out.lt) _, Whole.farRow (P3.out.alloc _) (Nat.ne_of_lt P3.out.lt) _, setRow_heap _ _ _ _ _ _ (Whole.new _ _ _), below_setRow (below_alloc' PB.out (by omega) _) (by omega) _⟩ ?_
        rintro X ⟨x1, x2, x3, x4, xb⟩
        have X1 := Lib.hid x1
        have X2 := Lib.hid x2
        have X3 := Lib.hid x3
        have X4 := Lib.hid x4
        have XB := Lib.hid xb
        clear x1 x2 x3 x4 xb P1 P2 P3 PB
        generalize w1.heap.size = g13 at X4 lp ⊢
        go_loopw [54] (fun i wr => ∃ j : Nat, j ≤ (n - 64 * k) ∧ i = .int .i64 j ∧ Whole wr B 24 (byteCells key 32).toArray ∧ Whole wr (B + 1) 76 (byteCells nonce 12).toArray ∧ Whole wr (B + 1 + 1) 5 (byteCells (xpart key nonce ctr f (64 * k + j)) n).toArray ∧ Whole wr g13 92 (byteCells (blk key nonce (ctr + k)) 64).toArray ∧ Below B w wr) (fun i _ => (n - 64 * k) - (intOf i).toNat)
        case atStart => exact ⟨0, by omega, rfl, X1.out, X2.out, X3.out, X4.out, XB.out⟩
        case round =>
          obtain ⟨j, hj, rfl, y1, y2, y3, y4, yb⟩ := hrel
          by_cases hlj : j < (n - 64 * k)
          · as_aux_lemma =>
            have c3 : wr.cell? ⟨B + 1 + 1, 64 * k + j, none⟩ = some (.int .u8 (f (64 * k + j) : Nat)) := by
              rw [y3.cell, List.getElem?_toArray, byteCells_get _ _ _ (by omega)]
              unfold xpart
              rw [if_neg (by omega)]
            have c4 : wr.cell? ⟨g13, j, none⟩ = some (.int .u8 (blk key nonce (ctr + k) j : Nat)) := by
              rw [y4.cell, List.getElem?_toArray, byteCells_get _ _ _ (by omega)]
            have f3 := y3.free (64 * k + j)
            have b1 := HFF.out (64 * k + j)
            have b2 := blk_lt key nonce (ctr + k) j
            have hx := u8_xor_nat (f (64 * k + j)) (blk key nonce (ctr + k) j) b1 b2
            have hy3 := y3.put (64 * k + j) (.int .u8 ((f (64 * k + j) ^^^ blk key nonce (ctr + k) j : Nat) : Int))
            rw [byteCells_set, byteCells_congr (g := xpart key nonce ctr f (64 * k + (j + 1))) (fun i hi => by
              unfold xpart
              by_cases e : i = 64 * k + j
              · subst e
                rw [if_pos rfl, if_pos (by omega)]
                unfold xo
                rw [show (64 * k + j) / 64 = k by omega, show (64 * k + j) % 64 = j by omega]
              · rw [if_neg e]
                by_cases e2 : i < 64 * k + j
                · rw [if_pos e2, if_pos (by omega)]
                · rw [if_neg e2, if_neg (by omega)])] at hy3
            have Y1 := Lib.hid y1
            have Y2 := Lib.hid y2
            have Y3 := Lib.hid hy3
            have Y4 := Lib.hid y4
            have YB := Lib.hid yb
            have HX := Lib.hid hx
            have l3 := y3.lt
            have lne : B + 1 + 1 ≠ g13 := by omega
            generalize f (64 * k + j) = p at c3 b1 HX Y3
            generalize blk key nonce (ctr + k) j = q at c4 b2 HX Y3
            clear y1 y2 y3 y4 yb hx hy3
            have hjI : (j : Int) < 64 := by omega
            go_wp2_with fail
            go_region
            go_wp2_with fail
            rw [HX.out]
            go_roundw
            case rel => exact ⟨j + 1, by omega, by go_num, (Y1.out.far (by first | (simp; done) | (simp; omega)) _).drew, (Y2.out.far (by first | (simp; done) | (simp; omega)) _).drew, Y3.out.drew, (Y4.out.far (by first | (simp; done) | (simp; omega)) _).drew, below_drewN (YB.out.setCell (by simp; omega) _) 1⟩
            case measure => simp [intOf]; omega
          · obtain rfl : j = (n - 64 * k) := by omega
            have Y1 := Lib.hid y1
            have Y2 := Lib.hid y2
            have Y3 := Lib.hid y3
            have Y4 := Lib.hid y4
            have YB := Lib.hid yb
            clear y1 y2 y3 y4 yb
            go_wp2_with fail
            go_roundw
            case rel => exact ⟨k + 1, by omega, by go_num, Y1.out, Y2.out, by
              rw [byteCells_congr (g := xpart key nonce ctr f (64 * k + (n - 64 * k))) (fun i hi => by
                unfold xpart
                by_cases e2 : i < 64 * k + (n - 64 * k)
                · rw [if_pos e2, if_pos (by omega)]
                · rw [if_neg e2, if_neg (by omega)])]
              exact Y3.out, YB.out⟩
            case measure => simp [intOf]; omega
      · have hp' : (64 : Int) < ((n - 64 * k : Nat) : Int) := by omega
        go_wp2_with (refine wpList_store_row rfl 92 (.tmp 13) (.tmp 46) rfl w1.heap.size (byteCells (blk key nonce (ctr + k)) 64).toArray rfl rfl 92 _ (Whole.new _ _ _) (by rw [HZ64.out]; kernel_rfl) (by rw [HZ64.out]; rfl) (bytes_one _ _) ?_)
        refine cut_world (fun X => Whole X B 24 (byteCells key 32).toArray ∧ Whole X (B + 1) 76 (byteCells nonce 12).toArray ∧ Whole X (B + 1 + 1) 5 (byteCells (xpart key nonce ctr f (64 * k)) n).toArray ∧ Whole X w1.heap.size 92 (byteCells (blk key nonce (ctr + k)) 64).toArray ∧ Below B w X) ⟨Whole.farRow (P1.out.alloc _) (Nat.ne_of_lt P1.out.lt) _, Whole.farRow (P2.out.alloc _) (Nat.ne_of_lt P2.out.lt) _, Whole.farRow (P3.out.alloc _) (Nat.ne_of_lt P3.out.lt) _, setRow_heap _ _ _ _ _ _ (Whole.new _ _ _), below_setRow (below_alloc' PB.out (by omega) _) (by omega) _⟩ ?_
        rintro X ⟨x1, x2, x3, x4, xb⟩
        have X1 := Lib.hid x1
        have X2 := Lib.hid x2
        have X3 := Lib.hid x3
        have X4 := Lib.hid x4
        have XB := Lib.hid xb
        clear x1 x2 x3 x4 xb P1 P2 P3 PB
        generalize w1.heap.size = g13 at X4 lp ⊢
        go_loopw [54] (fun i wr => ∃ j : Nat, j ≤ 64 ∧ i = .int .i64 j ∧ Whole wr B 24 (byteCells key 32).toArray ∧ Whole wr (B + 1) 76 (byteCells nonce 12).toArray ∧ Whole wr (B + 1 + 1) 5 (byteCells (xpart key nonce ctr f (64 * k + j)) n).toArray ∧ Whole wr g13 92 (byteCells (blk key nonce (ctr + k)) 64).toArray ∧ Below B w wr) (fun i _ => 64 - (intOf i).toNat)
        case atStart => exact ⟨0, by omega, rfl, X1.out, X2.out, X3.out, X4.out, XB.out⟩
        case round =>
          obtain ⟨j, hj, rfl, y1, y2, y3, y4, yb⟩ := hrel
          by_cases hlj : j < 64
          · as_aux_lemma =>
            have c3 : wr.cell? ⟨B + 1 + 1, 64 * k + j, none⟩ = some (.int .u8 (f (64 * k + j) : Nat)) := by
              rw [y3.cell, List.getElem?_toArray, byteCells_get _ _ _ (by omega)]
              unfold xpart
              rw [if_neg (by omega)]
            have c4 : wr.cell? ⟨g13, j, none⟩ = some (.int .u8 (blk key nonce (ctr + k) j : Nat)) := by
              rw [y4.cell, List.getElem?_toArray, byteCells_get _ _ _ (by omega)]
            have f3 := y3.free (64 * k + j)
            have b1 := HFF.out (64 * k + j)
            have b2 := blk_lt key nonce (ctr + k) j
            have hx := u8_xor_nat (f (64 * k + j)) (blk key nonce (ctr + k) j) b1 b2
            have hy3 := y3.put (64 * k + j) (.int .u8 ((f (64 * k + j) ^^^ blk key nonce (ctr + k) j : Nat) : Int))
            rw [byteCells_set, byteCells_congr (g := xpart key nonce ctr f (64 * k + (j + 1))) (fun i hi => by
              unfold xpart
              by_cases e : i = 64 * k + j
              · subst e
                rw [if_pos rfl, if_pos (by omega)]
                unfold xo
                rw [show (64 * k + j) / 64 = k by omega, show (64 * k + j) % 64 = j by omega]
              · rw [if_neg e]
                by_cases e2 : i < 64 * k + j
                · rw [if_pos e2, if_pos (by omega)]
                · rw [if_neg e2, if_neg (by omega)])] at hy3
            have Y1 := Lib.hid y1
            have Y2 := Lib.hid y2
            have Y3 := Lib.hid hy3
            have Y4 := Lib.hid y4
            have YB := Lib.hid yb
            have HX := Lib.hid hx
            have l3 := y3.lt
            have lne : B + 1 + 1 ≠ g13 := by omega
            generalize f (64 * k + j) = p at c3 b1 HX Y3
            generalize blk key nonce (ctr + k) j = q at c4 b2 HX Y3
            clear y1 y2 y3 y4 yb hx hy3
            have hjI : (j : Int) < 64 := by omega
            go_wp2_with fail
            go_region
            go_wp2_with fail
            rw [HX.out]
            go_roundw
            case rel => exact ⟨j + 1, by omega, by go_num, (Y1.out.far (by first | (simp; done) | (simp; omega)) _).drew, (Y2.out.far (by first | (simp; done) | (simp; omega)) _).drew, Y3.out.drew, (Y4.out.far (by first | (simp; done) | (simp; omega)) _).drew, below_drewN (YB.out.setCell (by simp; omega) _) 1⟩
            case measure => simp [intOf]; omega
          · obtain rfl : j = 64 := by omega
            have Y1 := Lib.hid y1
            have Y2 := Lib.hid y2
            have Y3 := Lib.hid y3
            have Y4 := Lib.hid y4
            have YB := Lib.hid yb
            clear y1 y2 y3 y4 yb
            go_wp2_with fail
            go_roundw
            case rel => exact ⟨k + 1, by omega, by go_num, Y1.out, Y2.out, by
              rw [byteCells_congr (g := xpart key nonce ctr f (64 * k + 64)) (fun i hi => by
                unfold xpart
                by_cases e2 : i < 64 * k + 64
                · rw [if_pos e2, if_pos (by omega)]
                · rw [if_neg e2, if_neg (by omega)])]
              exact Y3.out, YB.out⟩
            case measure => simp [intOf]; omega
    · obtain rfl : k = m := by omega
      have Q3 := Lib.hid q3
      have QB := Lib.hid qb
      clear q1 q2 q3 qb
      go_wp2_with fail
      go_ret2
      refine ⟨_, rfl, ?_, by rw [hB]; exact QB.out⟩
      rw [byteCells_congr (g := xpart key nonce ctr f (64 * k)) (fun i hi => by
        unfold xpart
        rw [if_pos (by omega)])]
      exact Q3.out
end Chacha
end Go.Proofs.Ytdhjgenijieeaaa

/-! from Split -/
namespace Go.Proofs.Ytdhjgenijieeaaa
namespace Poly
open Go.ChangeShapes Go.WideShapes Go.ChangeAt Go.RowKit
open Num Mem Words PolyN Chacha
theorem byteCells_lit17 (f : Nat → Nat) : (byteCells f 17).toArray = #[.int .u8 (f 0 : Nat), .int .u8 (f 1 : Nat), .int .u8 (f 2 : Nat), .int .u8 (f 3 : Nat), .int .u8 (f 4 : Nat), .int .u8 (f 5 : Nat), .int .u8 (f 6 : Nat), .int .u8 (f 7 : Nat), .int .u8 (f 8 : Nat), .int .u8 (f 9 : Nat), .int .u8 (f 10 : Nat), .int .u8 (f 11 : Nat), .int .u8 (f 12 : Nat), .int .u8 (f 13 : Nat), .int .u8 (f 14 : Nat), .int .u8 (f 15 : Nat), .int .u8 (f 16 : Nat)] := rfl
/-- where limb i begins: the byte, and how many digits are left out of it -/
theorem limb_place (i : Nat) (hi : i < 5) : ∃ p s, 26 * i / 8 = p ∧ 26 * i % 8 = s ∧ p + 4 ≤ 17 ∧ s ≤ 6 ∧ 8 * p + s = 26 * i :=
  ⟨26 * i / 8, 26 * i % 8, rfl, rfl, by omega, by omega, by omega⟩
set_option maxRecDepth 100000 in
theorem split_any (f : Nat → Nat) (hf : ∀ i, f i < 256) (w : World) :
    Calls Try.prog 56 #[.agg (byteCells f 17).toArray] w fun e w' => e = .returned (.agg (qcells (sp f) 5).toArray) ∧ Below w.heap.size w w' := by
  have HF := Lib.hid hf
  clear hf
  rw [byteCells_lit17]
  go_enter Try.func56, Try.ntmps56
  go_upto_region 2 with fail
  refine cut_world (fun W => Whole W w.heap.size 115 (byteCells f 17).toArray ∧ Whole W (w.heap.size + 1) 105 (qcells (fun _ => 0) 5).toArray ∧ Whole W (w.heap.size + 1 + 1) 105 (qcells (fun _ => 0) 5).toArray ∧ Below w.heap.size w W) ⟨?_, ?_, ?_, ?_⟩ ?_
  · rw [byteCells_lit17]
    exact ((whole_new _ _ rfl).alloc _).alloc _
  · exact (whole_new _ _ (by simp)).alloc _
  · exact whole_new _ _ (by simp)
  · exact below_alloc (below_alloc (below_alloc (Below.refl _ _) _) _) _
  rintro W ⟨k1, k2, k3, kb⟩
  have K1 := Lib.hid k1
  have K2 := Lib.hid k2
  have K3 := Lib.hid k3
  have KB := Lib.hid kb
  clear k1 k2 k3 kb
  generalize hB : w.heap.size = B at K1 K2 K3 KB ⊢
  go_wp2_with fail
  go_loopw [7] (fun i wr => ∃ k : Nat, k ≤ 5 ∧ i = .int .i64 k ∧ Whole wr B 115 (byteCells f 17).toArray ∧ Whole wr (B + 1) 105 (qcells (fun _ => 0) 5).toArray ∧ Whole wr (B + 1 + 1) 105 (qcells (fun i => if i < k then sp f i else 0) 5).toArray ∧ Below B w wr) (fun i _ => 5 - (intOf i).toNat)
  case atStart => exact ⟨0, by omega, rfl, K1.out, K2.out, K3.out, KB.out⟩
  case round =>
    obtain ⟨k, hk, rfl, q1, q2, q3, qb⟩ := hrel
    by_cases hlt : k < 5
    · have f1 := q3.free k
      have c1 := q3.num k hlt
      have Q1 := Lib.hid q1
      have Q2 := Lib.hid q2
      have Q3 := Lib.hid q3
      have QB := Lib.hid qb
      obtain ⟨p, s, hp, hs, h17, hs6, hps⟩ := limb_place k hlt
      have HL := Lib.hid (sp_load f HF.out k p s h17 hs6 hps)
      have hpI : (26 * (k : Int)) / 8 = (p : Int) := by omega
      have hsI : (26 * (k : Int)) % 8 = (s : Int) := by omega
      have hv : le f p 4 < 4294967296 := le_lt HF.out p 4
      have HV := Lib.hid hv
      have HSK := Lib.hid (show bits .and .u64 (IntKind.u64.wrap ((le f p 4 : Int) / 2 ^ (26 * k % 8))) 67108863 = ((sp f k : Nat) : Int) by rw [← HL.out, hs, show ((le f p 4 : Nat) : Int) / 2 ^ s = ((le f p 4 / 2 ^ s : Nat) : Int) by rw [Int.natCast_ediv, Int.natCast_pow]; rfl, wrap64_nat, Nat.mod_eq_of_lt (Nat.lt_of_le_of_lt (Nat.div_le_self _ _) (by omega)), and26 _ (Nat.lt_of_le_of_lt (Nat.div_le_self _ _) (by omega))])
      have HPI := Lib.hid hpI
      have HSI := Lib.hid hsI
      clear q1 q2 q3 qb hp hs hps hpI hsI hv
      go_wp2_with fail
      rw [HPI.out]
      refine (load32_ok B 0 17 17 f HF.out p h17 (by omega) _ (fun i hi => Q1.out.bytes i hi)).mono ?_
      rintro e w1 ⟨rfl, rfl⟩
      go_wp2_with fail
      rw [HSK.out]
      go_roundw
      case rel =>
        refine ⟨k + 1, by omega, by go_num, Q1.out.far (by simp; omega) _, Q2.out.far (by simp) _, ?_, QB.out.setCell (by simp; omega) _⟩
        have h := Q3.out.put k (.int .u64 (sp f k : Nat))
        rw [qcells_set, qcells_congr (g := fun i => if i < k + 1 then sp f i else 0) (fun i hi => ?_)] at h
        · exact h
        · by_cases e : i = k
          · subst e
            rw [if_pos rfl, if_pos (by omega)]
          · rw [if_neg e]
            by_cases l : i < k
            · rw [if_pos l, if_pos (by omega)]
            · rw [if_neg l, if_neg (by omega)]
      case measure => simp [intOf]; omega
    · obtain rfl : k = 5 := by omega
      rw [qcells_congr (g := sp f) (fun i hi => if_pos hi)] at q3
      have Q2 := Lib.hid q2
      have Q3 := Lib.hid q3
      have QB := Lib.hid qb
      clear q1 q2 q3 qb
      go_wp2_with (first | (refine wpList_load_row rfl 105 (.tmp 3) rfl (B + 1 + 1) rfl 105 (qcells (sp f) 5).toArray (0, 0) _ Q3.out rfl rfl (by rw [qcells_size]; kernel_rfl) ?_) | (refine wpList_store_row rfl 105 (.tmp 2) (.tmp 28) rfl (B + 1) (qcells (sp f) 5).toArray rfl rfl 105 _ Q2.out (by rw [qcells_size]; kernel_rfl) (by rw [qcells_size, qcells_size]) (qcells_one _ _) ?_))
      have hret : Whole (wr.setRow (B + 1) (qcells (sp f) 5).toArray) (B + 1) 105 (qcells (sp f) 5).toArray := setRow_heap wr _ _ _ _ _ Q2.out
      refine bodyPost_ret (results_cell_row rfl _ _ (B + 1) 105 _ (0, 0) _ rfl hret rfl rfl (by rw [qcells_size]; kernel_rfl)) rfl ?_
      exact ⟨rfl, by rw [hB]; exact below_setRow QB.out (by omega) _⟩
def cl (key : Nat → Nat) (i : Nat) : Nat := if i % 4 = 3 then key i % 16 else if i % 4 = 0 ∧ 0 < i then key i - key i % 4 else key i
theorem cl_lt {key : Nat → Nat} (h : ∀ i, key i < 256) (i : Nat) : cl key i < 256 := by
  have := h i
  unfold cl
  split
  · omega
  · split <;> omega
theorem and15 (x : Nat) (h : x < 256) : bits .and .u8 (x : Int) 15 = ((x % 16 : Nat) : Int) := by
  have := u8_and_nat x 15 h (by omega)
  rw [nat_mask4] at this
  exact this
theorem and252 (x : Nat) (h : x < 256) : bits .and .u8 (x : Int) 252 = ((x - x % 4 : Nat) : Int) := by
  have h1 := u8_and_nat x 252 h (by omega)
  have h2 : ∀ y : Fin 256, y.val &&& 252 = y.val - y.val % 4 := by decide +kernel
  rw [h2 ⟨x, h⟩] at h1
  exact h1
def cl1 (key : Nat → Nat) (k i : Nat) : Nat := if i % 4 = 3 ∧ i < 4 * k then key i % 16 else key i
def cl2 (key : Nat → Nat) (k i : Nat) : Nat := if i % 4 = 3 then key i % 16 else if i % 4 = 0 ∧ 0 < i ∧ i ≤ 4 * k then key i - key i % 4 else key i
theorem cl1_set (key : Nat → Nat) (k i : Nat) : (if i = 3 + 4 * k then key (3 + 4 * k) % 16 else cl1 key k i) = cl1 key (k + 1) i := by
  unfold cl1
  by_cases e : i = 3 + 4 * k
  · subst e
    rw [if_pos rfl, if_pos ⟨by omega, by omega⟩]
  · rw [if_neg e]
    by_cases h : i % 4 = 3 ∧ i < 4 * k
    · rw [if_pos h, if_pos ⟨h.1, by omega⟩]
    · rw [if_neg h, if_neg (by omega)]
theorem cl2_set (key : Nat → Nat) (k i : Nat) : (if i = 4 + 4 * k then key (4 + 4 * k) - key (4 + 4 * k) % 4 else cl2 key k i) = cl2 key (k + 1) i := by
  unfold cl2
  by_cases e : i = 4 + 4 * k
  · subst e
    rw [if_pos rfl, if_neg (by omega), if_pos ⟨by omega, by omega, by omega⟩]
  · rw [if_neg e]
    by_cases h3 : i % 4 = 3
    · rw [if_pos h3, if_pos h3]
    · rw [if_neg h3, if_neg h3]
      by_cases h : i % 4 = 0 ∧ 0 < i ∧ i ≤ 4 * k
      · rw [if_pos h, if_pos ⟨h.1, h.2.1, by omega⟩]
      · rw [if_neg h, if_neg (by omega)]
theorem cl1_at (key : Nat → Nat) (k : Nat) : cl1 key k (3 + 4 * k) = key (3 + 4 * k) := by unfold cl1; rw [if_neg (by omega)]
theorem cl2_at (key : Nat → Nat) (k : Nat) : cl2 key k (4 + 4 * k) = key (4 + 4 * k) := by unfold cl2; rw [if_neg (by omega), if_neg (by omega)]
theorem cl12 (key : Nat → Nat) (i : Nat) (h : i < 16) : cl1 key 4 i = cl2 key 0 i := by
  unfold cl1 cl2
  by_cases h3 : i % 4 = 3
  · rw [if_pos ⟨h3, by omega⟩, if_pos h3]
  · rw [if_neg (by omega), if_neg h3, if_neg (by omega)]
theorem cl2_end (key : Nat → Nat) (i : Nat) (h : i < 16) : cl2 key 3 i = cl key i := by
  unfold cl2 cl
  by_cases h3 : i % 4 = 3
  · rw [if_pos h3, if_pos h3]
  · rw [if_neg h3, if_neg h3]
    by_cases h4 : i % 4 = 0 ∧ 0 < i
    · rw [if_pos h4, if_pos ⟨h4.1, h4.2, by omega⟩]
    · rw [if_neg h4, if_neg (by omega)]
set_option maxRecDepth 100000 in
theorem clamp_any (key : Nat → Nat) (hk : ∀ i, key i < 256) (w : World) :
    Calls Try.prog 55 #[.agg (byteCells key 32).toArray] w fun e w' => e = .returned (.agg (byteCells (cl key) 16).toArray) ∧ Below w.heap.size w w' := by
  have HK := Lib.hid hk
  clear hk
  rw [byteCells_lit32]
  go_enter Try.func55, Try.ntmps55
  go_upto_region 2 with fail
  refine cut_world (fun W => Whole W w.heap.size 23 (byteCells key 32).toArray ∧ Whole W (w.heap.size + 1) 83 (byteCells (fun _ => 0) 16).toArray ∧ Whole W (w.heap.size + 1 + 1) 83 (byteCells (fun _ => 0) 16).toArray ∧ Below w.heap.size w W) ⟨?_, ?_, ?_, ?_⟩ ?_
  · rw [byteCells_lit32]
    exact ((whole_new _ _ rfl).alloc _).alloc _
  · exact (whole_new _ _ (by simp)).alloc _
  · exact whole_new _ _ (by simp)
  · exact below_alloc (below_alloc (below_alloc (Below.refl _ _) _) _) _
  rintro W ⟨k1, k2, k3, kb⟩
  have K1 := Lib.hid k1
  have K2 := Lib.hid k2
  have K3 := Lib.hid k3
  have KB := Lib.hid kb
  have HS := Lib.hid (rd_src (w := W.drew) (b := w.heap.size) (off := 0) (n := 16) (f := key) (fun i hi => k1.drew.bytes i (by omega)))
  clear k1 k2 k3 kb
  generalize hB : w.heap.size = B at K1 K2 K3 KB HS ⊢
  have hb0 := below_drewN (B := B + 1 + 1) (Below.refl (B + 1 + 1) W) 1
  go_region_law (refine step_copy_splice rfl (.tmp 6) (.tmp 7) 38 38 rfl 5 rfl (by kernel_rfl) (some ⟨B + 1 + 1, 0, none⟩) (some ⟨B, 0, none⟩) 16 16 32 32 rfl rfl (B + 1 + 1) 0 (byteCells (fun _ => 0) 16) 83 K3.out (byteCells key 16) (by rw [byteCells_length]; rfl) (fun _ => ⟨rfl, _, rfl, HS.out⟩) (by rw [byteCells_length, byteCells_length]; omega) (bytes_each _ _) (B + 1 + 1) W hb0 (Nat.le_refl _) ?_; intro w4 hg4 hb4)
  have K2' := Lib.hid (K2.out.below hb4 (by omega))
  have K3' := Lib.hid (show Whole w4 (B + 1 + 1) 83 (byteCells (cl1 key 0) 16).toArray from by
    have h := hg4.out
    rw [byteCells_splice (fun _ => 0) key (cl1 key 0) 16 0 16 (by omega) (fun i hi => by unfold cl1; rw [if_neg (by omega), if_pos ⟨by omega, by omega⟩, Nat.sub_zero])] at h
    exact h)
  have KB' := Lib.hid (KB.out.trans (hb4.mono (by omega)))
  clear hb0 hg4 hb4 K1 K2 K3 KB HS
  have K2 := K2'
  have K3 := K3'
  have KB := KB'
  clear K2' K3' KB'
  go_wp2_with fail
  go_loopw [9] (fun i wr => ∃ k : Nat, k ≤ 4 ∧ i = .int .i64 k ∧ Whole wr (B + 1) 83 (byteCells (fun _ => 0) 16).toArray ∧ Whole wr (B + 1 + 1) 83 (byteCells (cl1 key k) 16).toArray ∧ Below B w wr) (fun i _ => 4 - (intOf i).toNat)
  case atStart => exact ⟨0, by omega, rfl, K2.out, K3.out, KB.out⟩
  case round =>
    obtain ⟨k, hk, rfl, q2, q3, qb⟩ := hrel
    by_cases hlt : k < 4
    · have f1 := q3.free (3 + 4 * k)
      have c1 := q3.cell (3 + 4 * k)
      rw [List.getElem?_toArray, byteCells_get _ _ _ (by omega), cl1_at] at c1
      have HV := Lib.hid (and15 (key (3 + 4 * k)) (HK.out _))
      have Q2 := Lib.hid q2
      have Q3 := Lib.hid q3
      have QB := Lib.hid qb
      clear q2 q3 qb
      go_wp2_with fail
      rw [HV.out]
      go_roundw
      case rel =>
        refine ⟨k + 1, by omega, by go_num, Q2.out.far (by simp) _, ?_, QB.out.setCell (by simp; omega) _⟩
        have h := Q3.out.put (3 + 4 * k) (.int .u8 (key (3 + 4 * k) % 16 : Nat))
        rw [byteCells_set, byteCells_congr (fun i _ => cl1_set key k i)] at h
        exact h
      case measure => simp [intOf]; omega
    · obtain rfl : k = 4 := by omega
      have K2 := Lib.hid q2
      have K3 := Lib.hid (show Whole wr (B + 1 + 1) 83 (byteCells (cl2 key 0) 16).toArray from by rw [← byteCells_congr (fun i hi => cl12 key i hi)]; exact q3)
      have KB := Lib.hid qb
      clear q2 q3 qb
      go_wp2_with fail
      go_loopw [20] (fun i wr => ∃ k : Nat, k ≤ 3 ∧ i = .int .i64 k ∧ Whole wr (B + 1) 83 (byteCells (fun _ => 0) 16).toArray ∧ Whole wr (B + 1 + 1) 83 (byteCells (cl2 key k) 16).toArray ∧ Below B w wr) (fun i _ => 3 - (intOf i).toNat)
      case atStart => exact ⟨0, by omega, rfl, K2.out, K3.out, KB.out⟩
      case round =>
        obtain ⟨k, hk, rfl, q2, q3, qb⟩ := hrel
        by_cases hlt : k < 3
        · have f1 := q3.free (4 + 4 * k)
          have c1 := q3.cell (4 + 4 * k)
          rw [List.getElem?_toArray, byteCells_get _ _ _ (by omega), cl2_at] at c1
          have HV := Lib.hid (and252 (key (4 + 4 * k)) (HK.out _))
          have Q2 := Lib.hid q2
          have Q3 := Lib.hid q3
          have QB := Lib.hid qb
          clear q2 q3 qb
          go_wp2_with fail
          rw [HV.out]
          go_roundw
          case rel =>
            refine ⟨k + 1, by omega, by go_num, Q2.out.far (by simp) _, ?_, QB.out.setCell (by simp; omega) _⟩
            have h := Q3.out.put (4 + 4 * k) (.int .u8 (key (4 + 4 * k) - key (4 + 4 * k) % 4 : Nat))
            rw [byteCells_set, byteCells_congr (fun i _ => cl2_set key k i)] at h
            exact h
          case measure => simp [intOf]; omega
        · obtain rfl : k = 3 := by omega
          have K2 := Lib.hid q2
          have K3 := Lib.hid (show Whole wr (B + 1 + 1) 83 (byteCells (cl key) 16).toArray from by rw [← byteCells_congr (fun i hi => cl2_end key i hi)]; exact q3)
          have KB := Lib.hid qb
          clear q2 q3 qb
          have HZ16 := Lib.hid (show (byteCells (cl key) 16).toArray.size = 16 by rw [List.size_toArray, byteCells_length])
          go_wp2_with (first | (refine wpList_load_row rfl 83 (.tmp 3) rfl (B + 1 + 1) rfl 83 (byteCells (cl key) 16).toArray (0, 0) _ K3.out rfl rfl (by rw [HZ16.out]; kernel_rfl) ?_) | (refine wpList_store_row rfl 83 (.tmp 2) (.tmp 31) rfl (B + 1) (byteCells (cl key) 16).toArray rfl rfl 83 _ K2.out (by rw [HZ16.out]; kernel_rfl) (by rw [HZ16.out]; rfl) (bytes_one _ _) ?_))
          have hret : Whole (wr.setRow (B + 1) (byteCells (cl key) 16).toArray) (B + 1) 83 (byteCells (cl key) 16).toArray := setRow_heap wr _ _ _ _ _ K2.out
          refine bodyPost_ret (results_cell_row rfl _ _ (B + 1) 83 _ (0, 0) _ rfl hret rfl rfl (by rw [HZ16.out]; kernel_rfl)) rfl ?_
          exact ⟨rfl, by rw [hB]; exact below_setRow KB.out (by omega) _⟩
end Poly
end Go.Proofs.Ytdhjgenijieeaaa

/-! from Mark -/
namespace Go.Proofs.Ytdhjgenijieeaaa
namespace Poly
open Go.ChangeShapes Go.WideShapes Go.ChangeAt Go.RowKit
open Num Mem Words PolyN Chacha Quiet
/-- the limbs of a mark: the factor's, and those of the text so far -/
def mk2 (r h : Nat → Nat) (i : Nat) : Nat := if i < 5 then r i else h (i - 5)
/-- the factor's limbs -/
def fac (key : Nat → Nat) : Nat → Nat := sp (fun i => if i < 16 then cl key i else 0)
/-- a piece: n bytes, with noughts up to size, and a 1 behind -/
def pce (f : Nat → Nat) (n size i : Nat) : Nat := if i < n then f i else if i = size then 1 else 0
theorem pce_lt {f : Nat → Nat} (h : ∀ i, f i < 256) (n size i : Nat) : pce f n size i < 256 := by
  have := h i
  unfold pce
  split
  · exact this
  · split <;> omega
theorem mk2_r (r h : Nat → Nat) : ∀ i, i < 5 → mk2 r h (0 + i) = r i := fun i hi => by unfold mk2; rw [if_pos (by omega), Nat.zero_add]
theorem mk2_h (r h : Nat → Nat) : ∀ i, i < 5 → mk2 r h (5 + i) = h i := fun i hi => by unfold mk2; rw [if_neg (by omega), Nat.add_sub_cancel_left]
theorem whole_part {w : World} {g n : Nat} {t : TypeId} {f : Nat → Nat} (h : Whole w g t (qcells f n).toArray) (o m : Nat) (F : Nat → Nat) (hF : ∀ i, i < m → f (o + i) = F i) (hm : o + m ≤ n) : w.rangeAt g o (qcells F m) := by
  intro j v hj
  have hj' : j < m := by
    rcases Nat.lt_or_ge j m with k | k
    · exact k
    · rw [List.getElem?_eq_none (by rw [qcells_length]; exact k)] at hj
      cases hj
  rw [h.num (o + j) (by omega), hF j hj', ← hj, qcells_get F m j hj']
theorem whole_puts {t : TypeId} {g n : Nat} (F : Nat → Nat) : ∀ (m s : Nat) (o : Nat) (w : World) (f : Nat → Nat), Whole w g t (qcells f n).toArray → o + m ≤ n →
    Whole (w.setCells g o ((List.range' s m).map fun i => .int .u64 (F i : Nat))) g t (qcells (fun i => if o ≤ i ∧ i < o + m then F (i - o + s) else f i) n).toArray
  | 0, s, o, w, f, h, _ => by
    rw [qcells_congr (f := fun i => if o ≤ i ∧ i < o + 0 then F (i - o + s) else f i) (g := f) (fun i _ => if_neg (by omega))]
    exact h
  | m + 1, s, o, w, f, h, hm => by
    rw [List.range'_succ, List.map_cons, World.setCells]
    have h1 := h.put o (.int .u64 (F s : Nat))
    rw [qcells_set] at h1
    have h2 := whole_puts F m (s + 1) (o + 1) _ _ h1 (by omega)
    rw [qcells_congr (g := fun i => if o ≤ i ∧ i < o + (m + 1) then F (i - o + s) else f i) (fun i _ => ?_)] at h2
    · exact h2
    · by_cases e : i = o
      · subst e
        rw [if_neg (by omega), if_pos rfl, if_pos (by omega), Nat.sub_self, Nat.zero_add]
      · by_cases l : o + 1 ≤ i ∧ i < o + 1 + m
        · rw [if_pos l, if_pos (by omega)]
          congr 1
          omega
        · rw [if_neg l, if_neg e, if_neg (by omega)]
theorem whole_mark {w : World} {g : Nat} {t : TypeId} {r h F : Nat → Nat} (H : Whole w g t (qcells (mk2 r h) 10).toArray) : Whole (w.setCells g 5 (qcells F 5)) g t (qcells (mk2 r F) 10).toArray := by
  have h1 := whole_puts F 5 0 5 w (mk2 r h) H (by omega)
  rw [qcells_congr (g := mk2 r F) (fun i _ => by
    unfold mk2
    by_cases l : i < 5
    · rw [if_neg (by omega), if_pos l, if_pos l]
    · rw [if_pos (by omega), if_neg l, Nat.add_zero])] at h1
  rw [← List.range_eq_range'] at h1
  exact h1
theorem grown_puts (g : Nat) : ∀ (vs : List Value) (o : Nat) (w : World), w.grownBy (w.setCells g o vs) (some g)
  | [], _, _ => World.grownBy.refl _ _
  | v :: r, o, w => grown_trans (grown_set w g o v) (grown_puts g r (o + 1) _)
theorem mark_there {w : World} {g : Nat} {t : TypeId} {f : Nat → Nat} (h : Whole w g t (qcells f 10).toArray) : w.there g 5 5 := fun j hj => by
  rw [h.num (5 + j) (by omega)]
  exact ⟨rfl, h.free _⟩
theorem wpList_built {P : Program} {ops : Array Oper} {rest : List Oper} {o : Oper} {a : Act} {w : World} {Q : Exit → Act → World → Prop} (hg : o.guard = none) (t : TypeId) (x : Operand) (ho : o.op = .build t #[(0, x)])
    (cs : Array Value) (hx : a.eval x = .agg cs) (vs : Array Value) (hb : P.built t [(0, .agg cs)] = some vs) (h : wpList P ops Q rest (a.put o.dst (.agg vs)) w) : wpList P ops Q (o :: rest) a w := by
  have e : P.built t ((#[(0, x)] : Array (Nat × Operand)).map fun (i, x) => (i, a.eval x)).toList = some vs := by
    simpa [hx] using hb
  refine wpList_build hg t #[(0, x)] ho (by rw [e]; rfl) ?_
  rw [e]
  exact h
theorem mark_built_lit (x0 x1 x2 x3 x4 : Int) : Try.prog.built 107 [(0, .agg #[.int .u64 x0, .int .u64 x1, .int .u64 x2, .int .u64 x3, .int .u64 x4])] = some #[.int .u64 x0, .int .u64 x1, .int .u64 x2, .int .u64 x3, .int .u64 x4, .int .u64 0, .int .u64 0, .int .u64 0, .int .u64 0, .int .u64 0] := by kernel_rfl
theorem mark_built (F : Nat → Nat) : Try.prog.built 107 [(0, .agg (qcells F 5).toArray)] = some (qcells (mk2 F (fun _ => 0)) 10).toArray := by
  rw [qcells_lit5, mark_built_lit]
  rfl
set_option maxRecDepth 100000 in
theorem begin_any (key : Nat → Nat) (hk : ∀ i, key i < 256) (w : World) :
    Calls Try.prog 49 #[.agg (byteCells key 32).toArray] w fun e w' => e = .returned (.agg (qcells (mk2 (fac key) (fun _ => 0)) 10).toArray) ∧ Below w.heap.size w w' := by
  have HK := Lib.hid hk
  clear hk
  rw [byteCells_lit32]
  go_enter Try.func49, Try.ntmps49
  go_upto_region 2 with fail
  refine cut_world (fun W => Whole W w.heap.size 23 (byteCells key 32).toArray ∧ Whole W (w.heap.size + 1) 107 (qcells (fun _ => 0) 10).toArray ∧ Whole W (w.heap.size + 1 + 1) 115 (byteCells (fun _ => 0) 17).toArray ∧ Below w.heap.size w W) ⟨?_, ?_, ?_, ?_⟩ ?_
  · rw [byteCells_lit32]
    exact ((whole_new _ _ rfl).alloc _).alloc _
  · exact (whole_new _ _ (by simp)).alloc _
  · exact whole_new _ _ (by simp)
  · exact below_alloc (below_alloc (below_alloc (Below.refl _ _) _) _) _
  rintro W ⟨k1, k2, k3, kb⟩
  have K1 := Lib.hid k1
  have K2 := Lib.hid k2
  have K3 := Lib.hid k3
  have KB := Lib.hid kb
  have hb3 := k3.lt
  clear k1 k2 k3 kb
  generalize hB : w.heap.size = B at K1 K2 K3 KB hb3 ⊢
  have HZ16 := Lib.hid (show (byteCells (cl key) 16).toArray.size = 16 by rw [List.size_toArray, byteCells_length])
  have HZ17 := Lib.hid (show ∀ f, (byteCells f 17).toArray.size = 17 from fun f => by rw [List.size_toArray, byteCells_length])
  go_wp2_with (refine wpList_load_row rfl 23 (.tmp 1) rfl B rfl 23 (byteCells key 32).toArray (0, 0) _ K1.out rfl rfl (by kernel_rfl) ?_)
  refine (clamp_any key HK.out _).mono ?_
  rintro e w1 ⟨rfl, hb⟩
  have L2 := Lib.hid (K2.out.below hb K2.out.lt)
  have L3 := Lib.hid (K3.out.below hb K3.out.lt)
  have LB := Lib.hid (KB.out.trans (hb.mono (by omega)))
  have hb4 := hb.size
  clear hb K1 K2 K3 KB
  go_upto_region 3 with (refine wpList_store_row rfl 83 (.tmp 4) (.tmp 6) rfl w1.heap.size (byteCells (cl key) 16).toArray rfl rfl 83 _ (Whole.new _ _ _) (by rw [HZ16.out]; kernel_rfl) (by rw [HZ16.out]; rfl) (bytes_one _ _) ?_)
  refine cut_world (fun W => Whole W (B + 1) 107 (qcells (fun _ => 0) 10).toArray ∧ Whole W (B + 1 + 1) 115 (byteCells (fun _ => 0) 17).toArray ∧ Whole W w1.heap.size 83 (byteCells (cl key) 16).toArray ∧ Below B w W ∧ B + 1 + 1 < w1.heap.size) ⟨?_, ?_, ?_, ?_, by omega⟩ ?_
  · exact (setRow_other _ _ (B + 1) _ (by omega)).trans (L2.out.alloc _)
  · exact (setRow_other _ _ (B + 1 + 1) _ (by omega)).trans (L3.out.alloc _)
  · exact setRow_heap _ _ _ _ _ _ (Whole.new _ _ _)
  · exact below_setRow (LB.out.alloc (by omega) _) (by omega) _
  rintro W2 ⟨k2, k3, k4, kb, hG⟩
  have K2 := Lib.hid k2
  have K3 := Lib.hid k3
  have KB := Lib.hid kb
  have HS := Lib.hid (rd_src (w := W2.drew) (b := w1.heap.size) (off := 0) (n := 16) (f := cl key) (fun i hi => k4.drew.bytes i hi))
  clear k2 k3 k4 kb L2 L3 LB hb3 hb4
  generalize w1.heap.size = G at HS hG ⊢
  have hb0 := below_drewN (B := B + 1 + 1) (Below.refl (B + 1 + 1) W2) 1
  go_region_law (refine step_copy_splice rfl (.tmp 7) (.tmp 8) 38 38 rfl 5 rfl (by kernel_rfl) (some ⟨B + 1 + 1, 0, none⟩) (some ⟨G, 0, none⟩) 17 17 16 16 rfl rfl (B + 1 + 1) 0 (byteCells (fun _ => 0) 17) 115 K3.out (byteCells (cl key) 16) (by rw [byteCells_length]; rfl) (fun _ => ⟨rfl, _, rfl, HS.out⟩) (by rw [byteCells_length, byteCells_length]; omega) (bytes_each _ _) (B + 1 + 1) W2 hb0 (Nat.le_refl _) ?_; intro w4 hg4 hb4)
  have M2 := Lib.hid (K2.out.below hb4 (by omega))
  have M3 := Lib.hid (show Whole w4 (B + 1 + 1) 115 (byteCells (fun i => if i < 16 then cl key i else 0) 17).toArray from by
    have h := hg4.out
    rw [byteCells_splice (fun _ => 0) (cl key) (fun i => if i < 16 then cl key i else 0) 17 0 16 (by omega) (fun i hi => by
      by_cases l : i < 16
      · rw [if_pos l, if_pos ⟨by omega, by omega⟩, Nat.sub_zero]
      · rw [if_neg l, if_neg (by omega)])] at h
    exact h)
  have MB := Lib.hid (KB.out.trans (hb4.mono (by omega)))
  have hb5 := M3.out.lt
  clear hb0 hg4 hb4 K2 K3 KB HS hG
  go_wp2_with (refine wpList_load_row rfl 115 (.tmp 3) rfl (B + 1 + 1) rfl 115 (byteCells (fun i => if i < 16 then cl key i else 0) 17).toArray (0, 0) _ M3.out rfl rfl (by rw [HZ17.out]; kernel_rfl) ?_)
  refine (split_any (fun i => if i < 16 then cl key i else 0) (fun i => by have := cl_lt HK.out i; split <;> omega) _).mono ?_
  rintro e w5 ⟨rfl, hb⟩
  have N2 := Lib.hid (M2.out.below hb M2.out.lt)
  have NB := Lib.hid (MB.out.trans (hb.mono (by omega)))
  clear hb M2 M3 MB
  have HQ := Lib.hid (show sp (fun i => if i < 16 then cl key i else 0) = fac key from rfl)
  rw [HQ.out]
  clear HQ
  generalize hE : fac key = F
  have HE := Lib.hid hE
  clear hE
  have HBU := Lib.hid (mark_built F)
  go_wp2_with (first | (refine wpList_built rfl 107 (.tmp 11) rfl (qcells F 5).toArray rfl (qcells (mk2 F (fun _ => 0)) 10).toArray HBU.out ?_) | (refine wpList_store_row rfl 107 (.tmp 2) (.tmp 12) rfl (B + 1) (qcells (mk2 F (fun _ => 0)) 10).toArray rfl rfl 107 _ N2.out (by rw [qcells_size]; kernel_rfl) (by rw [qcells_size, qcells_size]) (qcells_one _ _) ?_))
  have hret : Whole (w5.setRow (B + 1) (qcells (mk2 F (fun _ => 0)) 10).toArray) (B + 1) 107 (qcells (mk2 F (fun _ => 0)) 10).toArray := setRow_heap w5 _ _ _ _ _ N2.out
  refine bodyPost_ret (results_cell_row rfl _ _ (B + 1) 107 _ (0, 0) _ rfl hret rfl rfl (by rw [qcells_size]; kernel_rfl)) rfl ?_
  exact ⟨by rw [HE.out], by rw [hB]; exact below_setRow NB.out (by omega) _⟩
set_option maxRecDepth 100000 in
theorem add_any (g : Nat) (r h : Nat → Nat) (hr : ∀ i, i < 5 → r i < 67108864) (hh : ∀ i, i < 5 → h i < 67108869) (A : Option Addr) (n c size : Nat) (f : Nat → Nat) (hf : ∀ i, f i < 256) (hn : n ≤ size) (hs : size ≤ 16) (w : World) (hw : Whole w g 107 (qcells (mk2 r h) 10).toArray) (hA : Rd w A n f) :
    Calls Try.prog 50 #[.pointer (some ⟨g, 0, none⟩), .slice A n c, .int .i64 size] w fun e w' => e = .returned (.tuple #[]) ∧ Whole w' g 107 (qcells (mk2 r (ti (fun i => h i + sp (pce f n size) i) r)) 10).toArray ∧ w.grownBy w' (some g) := by
  have HR := Lib.hid hr
  have HH := Lib.hid hh
  have HF := Lib.hid hf
  have HA := Lib.hid hA
  have HW := Lib.hid hw
  have hgl := hw.lt
  clear hr hh hf hA hw
  go_enter Try.func50, Try.ntmps50
  go_upto_region 1 with fail
  refine cut_world (fun W => Whole W w.heap.size 115 (byteCells (fun _ => 0) 17).toArray ∧ Below w.heap.size w W) ⟨Whole.new _ _ _, below_alloc (Below.refl _ _) _⟩ ?_
  rintro W ⟨k1, kb⟩
  have K1 := Lib.hid k1
  have KB := Lib.hid kb
  have HS := Lib.hid (rd_copy (g := w.heap.size) (HA.out.below kb (Nat.le_refl _)))
  clear k1 kb
  generalize hB : w.heap.size = B at K1 KB HS hgl ⊢
  go_upto_region 2 with (first | (refine wpList_copy_splice rfl (.tmp 9) (.tmp 10) 38 38 rfl 5 rfl (by kernel_rfl) (some ⟨B, 0, none⟩) A 17 17 n c rfl rfl B 0 (byteCells (fun _ => 0) 17) 115 K1.out (byteCells f n) (by rw [byteCells_length]; show n = min n 17; omega) HS.out (by rw [byteCells_length, byteCells_length]; omega) (bytes_each _ _) B _ (Below.refl _ _) (Nat.le_refl _) ?_))
  intro w2 hg2 hb2
  have L1 := Lib.hid (show Whole w2 B 115 (byteCells (fun i => if i < n then f i else 0) 17).toArray from by
    have h := hg2.out
    rw [byteCells_splice (fun _ => 0) f (fun i => if i < n then f i else 0) 17 0 n (by omega) (fun i hi => by
      by_cases l : i < n
      · rw [if_pos l, if_pos ⟨by omega, by omega⟩, Nat.sub_zero]
      · rw [if_neg l, if_neg (by omega)])] at h
    exact h)
  have LB := Lib.hid (KB.out.trans hb2)
  have f1 := L1.out.free size
  have c1 := L1.out.cell size
  rw [List.getElem?_toArray, byteCells_get _ _ _ (by omega), if_neg (by omega)] at c1
  have hl1 := L1.out.lt
  have HP := Lib.hid (show Whole (w2.setCell ⟨B, size, none⟩ (.int .u8 1)) B 115 (byteCells (pce f n size) 17).toArray from by
    have h := L1.out.put size (.int .u8 (1 : Nat))
    rw [byteCells_set, byteCells_congr (g := pce f n size) (fun i _ => by
      unfold pce
      by_cases e : i = size
      · subst e
        rw [if_pos rfl, if_neg (by omega), if_pos rfl]
      · rw [if_neg e]
        by_cases l : i < n
        · rw [if_pos l, if_pos l]
        · rw [if_neg l, if_neg l, if_neg e])] at h
    exact h)
  clear hg2 hb2 K1 KB HS
  go_upto_region 3 with fail
  refine cut_world (fun W => Whole W B 115 (byteCells (pce f n size) 17).toArray ∧ Below B w W) ⟨HP.out, LB.out.setCell (by simp) _⟩ ?_
  clear HP L1 LB f1 c1 hl1
  rintro W3 ⟨k1, kb⟩
  have K1 := Lib.hid k1
  have KB := Lib.hid kb
  have hl1 := k1.lt
  clear k1 kb
  have HZ17 := Lib.hid (show ∀ f, (byteCells f 17).toArray.size = 17 from fun f => by rw [List.size_toArray, byteCells_length])
  go_wp2_with (refine wpList_load_row rfl 115 (.tmp 6) rfl B rfl 115 (byteCells (pce f n size) 17).toArray (0, 0) _ K1.out rfl rfl (by rw [HZ17.out]; kernel_rfl) ?_)
  refine (split_any (pce f n size) (pce_lt HF.out n size) _).mono ?_
  rintro e w5 ⟨rfl, hb⟩
  have LB := Lib.hid (KB.out.trans (hb.mono (by omega)))
  have hl2 := hb.size
  clear hb K1 KB
  go_upto_region 4 with (refine wpList_store_row rfl 105 (.tmp 7) (.tmp 15) rfl w5.heap.size (qcells (sp (pce f n size)) 5).toArray rfl rfl 105 _ (Whole.new _ _ _) (by rw [qcells_size]; kernel_rfl) (by rw [qcells_size]; rfl) (qcells_one _ _) ?_)
  refine cut_world (fun W => Whole W w5.heap.size 105 (qcells (sp (pce f n size)) 5).toArray ∧ Below B w W ∧ B < w5.heap.size) ⟨setRow_heap _ _ _ _ _ _ (Whole.new _ _ _), below_setRow (LB.out.alloc (by omega) _) (by omega) _, by omega⟩ ?_
  clear LB hl1 hl2
  rintro W4 ⟨k1, kb, hG⟩
  have hg0 := HW.out.below kb hgl
  have K1 := Lib.hid k1
  have K0 := Lib.hid hg0
  have KG := Lib.hid (show w.grownBy W4 (some g) from ⟨kb.os, kb.tape, kb.output, kb.size, fun k hk _ => kb.block k (by omega)⟩)
  clear k1 kb hg0
  generalize w5.heap.size = G at K1 hG ⊢
  have HSP := Lib.hid (sp_lt (pce f n size))
  generalize hq : sp (pce f n size) = q at K1 HSP ⊢
  have HQE := Lib.hid hq
  clear hq
  go_wp2_with fail
  go_loopw [16] (fun i wr => ∃ k : Nat, k ≤ 5 ∧ i = .int .i64 k ∧ Whole wr G 105 (qcells q 5).toArray ∧ Whole wr g 107 (qcells (mk2 r (fun i => if i < k then h i + q i else h i)) 10).toArray ∧ w.grownBy wr (some g)) (fun i _ => 5 - (intOf i).toNat)
  case atStart => exact ⟨0, by omega, rfl, K1.out, K0.out, KG.out⟩
  case round =>
    obtain ⟨k, hk, rfl, q1, q2, qg⟩ := hrel
    by_cases hlt : k < 5
    · have c1 := q1.num k hlt
      have c2 := q2.num (5 + k) (by omega)
      have f2 := q2.free (5 + k)
      rw [mk2, if_neg (by omega), Nat.add_sub_cancel_left, if_neg (Nat.lt_irrefl k)] at c2
      have b1 := HH.out k hlt
      have b2 := HSP.out k
      have HSUM := Lib.hid (show ((h k : Nat) : Int) + ((q k : Nat) : Int) = ((h k + q k : Nat) : Int) by omega)
      have Q1 := Lib.hid q1
      have Q2 := Lib.hid q2
      have QG := Lib.hid qg
      clear q1 q2 qg
      go_wp2_with fail
      refine wp_region_still_tail 13 (by kernel_rfl) (by kernel_rfl) ?_
      simp only [List.take_succ_cons, List.take_zero, List.drop_succ_cons, List.drop_zero]
      repeat still_step
      refine wpStill_nil ?_
      change wpList _ _ _ _ _ wr.drew
      rw [HSUM.out]
      go_wp2_with fail
      go_roundw
      case rel =>
        refine ⟨k + 1, by omega, by go_num, (Q1.out.drewN 1).far (by simp; omega) _, ?_, grown_trans QG.out (grown_trans (grown_drewN wr g 1) (grown_set _ _ _ _))⟩
        have h' := (Q2.out.drewN 1).put (5 + k) (.int .u64 (h k + q k : Nat))
        rw [qcells_set, qcells_congr (g := mk2 r (fun i => if i < k + 1 then h i + q i else h i)) (fun i _ => ?_)] at h'
        · exact h'
        · unfold mk2
          by_cases e : i = 5 + k
          · subst e
            rw [if_pos rfl, if_neg (by omega), Nat.add_sub_cancel_left]
            dsimp only
            rw [if_pos (by omega)]
          · rw [if_neg e]
            by_cases l5 : i < 5
            · rw [if_pos l5, if_pos l5]
            · rw [if_neg l5, if_neg l5]
              dsimp only
              by_cases l : i - 5 < k
              · rw [if_pos l, if_pos (by omega)]
              · rw [if_neg l, if_neg (by omega)]
      case measure => simp [intOf]; omega
    · obtain rfl : k = 5 := by omega
      rw [qcells_congr (g := mk2 r (fun i => h i + q i)) (fun i hi => by
        unfold mk2
        by_cases l5 : i < 5
        · rw [if_pos l5, if_pos l5]
        · rw [if_neg l5, if_neg l5]
          dsimp only
          rw [if_pos (by omega)])] at q2
      have Q2 := Lib.hid q2
      have QG := Lib.hid qg
      have hgw := q2.lt
      have HHQ := Lib.hid (show ∀ i, i < 5 → (fun i => h i + q i) i < 268435456 from fun i hi => by have := HH.out i hi; have := HSP.out i; dsimp only; omega)
      have HFIN := Lib.hid (show ti (fun i => h i + sp (pce f n size) i) r = ti (fun i => h i + q i) r by rw [HQE.out])
      clear q1 q2 qg K1 K0 KG HSP HQE HH
      generalize (fun i => h i + q i) = H at Q2 HHQ HFIN
      go_wp2_with fail
      have D1 := Lib.hid (show Whole wr.drew g 107 (qcells (mk2 r H) 10).toArray from Q2.out.drewN 1)
      refine region_drew (fun x => w.grownBy x (some g)) (by kernel_rfl) (grown_trans QG.out (grown_drewN wr g 1)) ?_
      intro hS
      refine take 0 _ rfl (by kernel_rfl) (by kernel_rfl) (by kernel_rfl) (fun _ _ _ h => h) (by rfl) hS (by intro w _; go_simp; with_reducible rfl) ?_
      try simp only [Act.put, List.setIfInBounds_toArray, List.set_cons_zero, List.set_cons_succ]
      refine take 1 _ rfl (by kernel_rfl) (by kernel_rfl) (by kernel_rfl) (fun _ _ _ h => h) (by rfl) hS (by intro w _; go_simp; with_reducible rfl) ?_
      try simp only [Act.put, List.setIfInBounds_toArray, List.set_cons_zero, List.set_cons_succ]
      refine take 2 _ rfl (by kernel_rfl) (by kernel_rfl) (by kernel_rfl) (fun _ _ _ h => h) (by rfl) hS (by intro w _; go_simp; with_reducible rfl) ?_
      try simp only [Act.put, List.setIfInBounds_toArray, List.set_cons_zero, List.set_cons_succ]
      refine take 3 _ rfl (by kernel_rfl) (by kernel_rfl) (by kernel_rfl) (fun _ _ _ h => h) (by rfl) hS (by intro w _; go_simp; with_reducible rfl) ?_
      try simp only [Act.put, List.setIfInBounds_toArray, List.set_cons_zero, List.set_cons_succ]
      refine take 5 _ rfl (by kernel_rfl) (by kernel_rfl) (by kernel_rfl) (fun _ _ _ h => h) (by rfl) hS (by intro w _; go_simp; with_reducible rfl) ?_
      try simp only [Act.put, List.setIfInBounds_toArray, List.set_cons_zero, List.set_cons_succ]
      refine take 6 _ rfl (by kernel_rfl) (by kernel_rfl) (by kernel_rfl) (fun _ _ _ h => h) (by rfl) hS (by intro w _; go_simp; with_reducible rfl) ?_
      try simp only [Act.put, List.setIfInBounds_toArray, List.set_cons_zero, List.set_cons_succ]
      refine take 7 _ rfl (by kernel_rfl) (by kernel_rfl) (by kernel_rfl) (fun _ _ _ h => h) (by rfl) hS (by intro w _; go_simp; with_reducible rfl) ?_
      try simp only [Act.put, List.setIfInBounds_toArray, List.set_cons_zero, List.set_cons_succ]
      refine ready_two 4 8 rfl rfl (by kernel_rfl) (by rfl) (by rfl) ?_ ?_
      · intro K hK
        refine wp_load_mid 105 _ rfl g 5 rfl (qcells H 5) _ (whole_part D1.out 5 5 H (mk2_h r H) (by omega)) rfl rfl (by rw [qcells_length]; kernel_rfl) ?_
        refine hK.out _ _ hS ?_
        clear hK K
        try simp only [Act.put, List.setIfInBounds_toArray, List.set_cons_zero, List.set_cons_succ]
        refine alone 8 rfl (by kernel_rfl) (by rfl) ?_
        intro K hK
        refine wp_load_mid 105 _ rfl g 0 rfl (qcells r 5) _ (whole_part D1.out 0 5 r (mk2_r r H) (by omega)) rfl rfl (by rw [qcells_length]; kernel_rfl) ?_
        refine hK.out _ _ hS ?_
        clear hK K
        try simp only [Act.put, List.setIfInBounds_toArray, List.set_cons_zero, List.set_cons_succ]
        refine alone 9 rfl (by kernel_rfl) (by rfl) ?_
        intro K hK
        go_simp
        refine (times_any H r HHQ.out HR.out _).mono ?_
        rintro e w6 ⟨rfl, hb6⟩
        go_simp
        have S1 := Lib.hid (D1.out.below hb6 D1.out.lt)
        replace hS := grown_trans hS ⟨hb6.os, hb6.tape, hb6.output, hb6.size, fun k hk _ => hb6.block k hk⟩
        refine hK.out _ _ hS ?_
        clear hK K hb6
        try simp only [Act.put, List.setIfInBounds_toArray, List.set_cons_zero, List.set_cons_succ]
        refine take 10 _ rfl (by kernel_rfl) (by kernel_rfl) (by kernel_rfl) (fun _ _ _ h => h) (by rfl) hS (by intro w _; go_simp; with_reducible rfl) ?_
        try simp only [Act.put, List.setIfInBounds_toArray, List.set_cons_zero, List.set_cons_succ]
        refine take 11 _ rfl (by kernel_rfl) (by kernel_rfl) (by kernel_rfl) (fun _ _ _ h => h) (by rfl) hS (by intro w _; go_simp; with_reducible rfl) ?_
        try simp only [Act.put, List.setIfInBounds_toArray, List.set_cons_zero, List.set_cons_succ]
        refine alone 12 rfl (by kernel_rfl) (by rfl) ?_
        intro K hK
        refine wp_store_mid 105 _ _ rfl g 5 (qcells (ti H r) 5).toArray rfl rfl (by rw [qcells_size]; exact mark_there S1.out) (by rw [qcells_size]; kernel_rfl) (qcells_one _ _) ?_
        have S3 := Lib.hid (whole_mark (F := ti H r) S1.out)
        replace hS := grown_trans hS (grown_puts g (qcells (ti H r) 5).toArray.toList 5 w6)
        refine hK.out _ _ hS ?_
        clear hK K
        try simp only [Act.put]
        refine region_end (by kernel_rfl) ?_
        have S4 := Lib.hid hS
        clear hS
        change Hid (Whole (w6.setCells g 5 (qcells (ti H r) 5).toArray.toList) g 107 (qcells (mk2 r (ti H r)) 10).toArray) at S3
        generalize w6.setCells g 5 (qcells (ti H r) 5).toArray.toList = w7 at S3 S4 ⊢
        go_wp2_with fail
        go_end0
        exact ⟨rfl, by rw [HFIN.out]; exact S3.out, S4.out⟩
      · intro K hK
        refine wp_load_mid 105 _ rfl g 0 rfl (qcells r 5) _ (whole_part D1.out 0 5 r (mk2_r r H) (by omega)) rfl rfl (by rw [qcells_length]; kernel_rfl) ?_
        refine hK.out _ _ hS ?_
        clear hK K
        try simp only [Act.put, List.setIfInBounds_toArray, List.set_cons_zero, List.set_cons_succ]
        refine alone 4 rfl (by kernel_rfl) (by rfl) ?_
        intro K hK
        refine wp_load_mid 105 _ rfl g 5 rfl (qcells H 5) _ (whole_part D1.out 5 5 H (mk2_h r H) (by omega)) rfl rfl (by rw [qcells_length]; kernel_rfl) ?_
        refine hK.out _ _ hS ?_
        clear hK K
        try simp only [Act.put, List.setIfInBounds_toArray, List.set_cons_zero, List.set_cons_succ]
        refine alone 9 rfl (by kernel_rfl) (by rfl) ?_
        intro K hK
        go_simp
        refine (times_any H r HHQ.out HR.out _).mono ?_
        rintro e w6 ⟨rfl, hb6⟩
        go_simp
        have S1 := Lib.hid (D1.out.below hb6 D1.out.lt)
        replace hS := grown_trans hS ⟨hb6.os, hb6.tape, hb6.output, hb6.size, fun k hk _ => hb6.block k hk⟩
        refine hK.out _ _ hS ?_
        clear hK K hb6
        try simp only [Act.put, List.setIfInBounds_toArray, List.set_cons_zero, List.set_cons_succ]
        refine take 10 _ rfl (by kernel_rfl) (by kernel_rfl) (by kernel_rfl) (fun _ _ _ h => h) (by rfl) hS (by intro w _; go_simp; with_reducible rfl) ?_
        try simp only [Act.put, List.setIfInBounds_toArray, List.set_cons_zero, List.set_cons_succ]
        refine take 11 _ rfl (by kernel_rfl) (by kernel_rfl) (by kernel_rfl) (fun _ _ _ h => h) (by rfl) hS (by intro w _; go_simp; with_reducible rfl) ?_
        try simp only [Act.put, List.setIfInBounds_toArray, List.set_cons_zero, List.set_cons_succ]
        refine alone 12 rfl (by kernel_rfl) (by rfl) ?_
        intro K hK
        refine wp_store_mid 105 _ _ rfl g 5 (qcells (ti H r) 5).toArray rfl rfl (by rw [qcells_size]; exact mark_there S1.out) (by rw [qcells_size]; kernel_rfl) (qcells_one _ _) ?_
        have S3 := Lib.hid (whole_mark (F := ti H r) S1.out)
        replace hS := grown_trans hS (grown_puts g (qcells (ti H r) 5).toArray.toList 5 w6)
        refine hK.out _ _ hS ?_
        clear hK K
        try simp only [Act.put]
        refine region_end (by kernel_rfl) ?_
        have S4 := Lib.hid hS
        clear hS
        change Hid (Whole (w6.setCells g 5 (qcells (ti H r) 5).toArray.toList) g 107 (qcells (mk2 r (ti H r)) 10).toArray) at S3
        generalize w6.setCells g 5 (qcells (ti H r) 5).toArray.toList = w7 at S3 S4 ⊢
        go_wp2_with fail
        go_end0
        exact ⟨rfl, by rw [HFIN.out]; exact S3.out, S4.out⟩
end Poly
end Go.Proofs.Ytdhjgenijieeaaa

/-! from MarkEnd -/
namespace Go.Proofs.Ytdhjgenijieeaaa
namespace Poly
open Go.ChangeShapes Go.WideShapes Go.ChangeAt Go.RowKit
open Num Mem Words PolyN Chacha Quiet
theorem add64_run (x y c s o : Nat) (hc : c ≤ 1) (hs : s = (x + y + c) % 18446744073709551616) (ho : o = (x + y + c) / 18446744073709551616) (w : World) :
    (callFunc 60 #[.int .u64 x, .int .u64 y, .int .u64 c]).run Try.prog w = .ok (.value (.tuple #[.int .u64 (s : Nat), .int .u64 (o : Nat)])) w := by
  rw [run_callFunc_extern Try.func60 (by kernel_rfl) (by kernel_rfl) (by kernel_rfl) (e := add64Entry) (by kernel_rfl), run_add64 x y c (by omega) (by omega) (by omega) (by omega)]
  simp only [Result.andThen]
  subst hs
  subst ho
  congr 5 <;> omega
theorem or_u64 (x y i : Nat) (hx : x % 2 ^ i = 0) (hy : y < 2 ^ i) (hx2 : x < 18446744073709551616) (hy2 : y < 18446744073709551616) : bits .or .u64 (y : Int) (x : Int) = ((y + x : Nat) : Int) := by
  rw [u64_or_nat _ _ hy2 hx2, Nat.or_comm, nat_join i x y hx hy, Nat.add_comm]
theorem low_bits (a b c V : Nat) (ha : a < 67108864) (hb : b < 67108864) (_hc : c < 67108864) (d : Nat) (hV : V = a + b * 67108864 + c * 4503599627370496 + d * 302231454903657293676544) :
    bits .or .u64 (bits .or .u64 (a : Int) ((b : Int) * 67108864)) (IntKind.u64.wrap ((c : Int) * 4503599627370496)) = ((V % 18446744073709551616 : Nat) : Int) := by
  have e1 : ((b : Int) * 67108864) = ((b * 67108864 : Nat) : Int) := by rw [Int.natCast_mul]; rfl
  have e2 : IntKind.u64.wrap ((c : Int) * 4503599627370496) = ((c * 4503599627370496 % 18446744073709551616 : Nat) : Int) := by
    rw [show ((c : Int) * 4503599627370496) = ((c * 4503599627370496 : Nat) : Int) by rw [Int.natCast_mul]; rfl, wrap64_nat]
  rw [e1, e2, or_u64 (b * 67108864) a 26 (by omega) ha (by omega) (by omega), or_u64 _ (a + b * 67108864) 52 (by omega) (by omega) (by omega) (by omega)]
  congr 1
  omega
theorem high_bits (c d e V : Nat) (hc : c < 67108864) (hd : d < 67108864) (_he : e < 67108864) (x : Nat) (hx : x < 4503599627370496) (hV : V = x + c * 4503599627370496 + d * 302231454903657293676544 + e * 20282409603651670423947251286016) :
    bits .or .u64 (bits .or .u64 ((c : Int) / 4096) ((d : Int) * 16384)) (IntKind.u64.wrap ((e : Int) * 1099511627776)) = ((V / 18446744073709551616 % 18446744073709551616 : Nat) : Int) := by
  have e0 : ((c : Int) / 4096) = ((c / 4096 : Nat) : Int) := by omega
  have e1 : ((d : Int) * 16384) = ((d * 16384 : Nat) : Int) := by rw [Int.natCast_mul]; rfl
  have e2 : IntKind.u64.wrap ((e : Int) * 1099511627776) = ((e * 1099511627776 % 18446744073709551616 : Nat) : Int) := by
    rw [show ((e : Int) * 1099511627776) = ((e * 1099511627776 : Nat) : Int) by rw [Int.natCast_mul]; rfl, wrap64_nat]
  rw [e0, e1, e2, or_u64 (d * 16384) (c / 4096) 14 (by omega) (by omega) (by omega) (by omega), or_u64 _ (c / 4096 + d * 16384) 40 (by omega) (by omega) (by omega) (by omega)]
  congr 1
  omega
theorem byteAt_mod (x n j : Nat) (h : j < n) : byteAt (x % 2 ^ (8 * n)) j = byteAt x j := by
  unfold byteAt
  rw [show 2 ^ (8 * n) = 2 ^ (8 * j) * (2 ^ (8 * (n - j - 1)) * 256) by
    rw [show (256 : Nat) = 2 ^ 8 from rfl, ← Nat.pow_add, ← Nat.pow_add]
    congr 1
    omega, Nat.mod_mul_right_div_self, Nat.mod_mul_left_mod]
theorem byteAt_div (x n j : Nat) : byteAt (x / 2 ^ (8 * n)) j = byteAt x (n + j) := by
  unfold byteAt
  rw [Nat.div_div_eq_div_mul, ← Nat.pow_add, ← Nat.mul_add]
/-- both halves of a sum of numbers of sixteen bytes -/
theorem halves (V s t low high : Nat) (hl : low = (V % 18446744073709551616 + s) % 18446744073709551616) (hh : high = (V / 18446744073709551616 % 18446744073709551616 + t + (V % 18446744073709551616 + s) / 18446744073709551616) % 18446744073709551616) (i : Nat) (hi : i < 16) :
    byteAt (V + (s + t * 18446744073709551616)) i = if i < 8 then byteAt low i else byteAt high (i - 8) := by
  split
  · rename_i h
    rw [← byteAt_mod _ 8 i h]
    congr 1
    show (V + (s + t * 18446744073709551616)) % 18446744073709551616 = low
    omega
  · rename_i h
    rw [show i = 8 + (i - 8) by omega, ← byteAt_div, ← byteAt_mod _ 8 (i - 8) (by omega), show 8 + (i - 8) - 8 = i - 8 by omega]
    congr 1
    show (V + (s + t * 18446744073709551616)) / 18446744073709551616 % 18446744073709551616 = high
    omega
theorem lv5 (a : Nat → Nat) : lv a 5 = a 0 + a 1 * 67108864 + a 2 * 4503599627370496 + a 3 * 302231454903657293676544 + a 4 * 20282409603651670423947251286016 := by
  simp only [lv]
  omega
/-- the number of a mark -/
def tag (V : Nat) (key : Nat → Nat) (i : Nat) : Nat := byteAt (V + le key 16 16) i
theorem tag_lt (V : Nat) (key : Nat → Nat) (i : Nat) : tag V key i < 256 := byteAt_lt _ _
theorem le_two (f : Nat → Nat) (p : Nat) : le f p 16 = le f p 8 + le f (p + 8) 8 * 18446744073709551616 := by
  simp only [le, Nat.add_zero, Nat.add_assoc, Nat.reduceAdd, Nat.reduceMul, Nat.reducePow]
  omega
set_option maxRecDepth 100000 in
theorem end_any (g : Nat) (r h : Nat → Nat) (hh : ∀ i, i < 5 → h i < 67108869) (hh' : ∀ i, 1 ≤ i → i < 5 → h i < 67108864) (key : Nat → Nat) (hk : ∀ i, key i < 256) (w : World) (hw : Whole w g 107 (qcells (mk2 r h) 10).toArray) :
    Calls Try.prog 51 #[.pointer (some ⟨g, 0, none⟩), .agg (byteCells key 32).toArray] w fun e w' => e = .returned (.agg (byteCells (tag (lv h 5 % P) key) 16).toArray) ∧ Below w.heap.size w w' := by
  have HK := Lib.hid hk
  have HW := Lib.hid hw
  have hgl := hw.lt
  have HLO := Lib.hid (lo_spec h hh hh')
  have HH := Lib.hid hh
  have HH' := Lib.hid hh'
  clear hk hw hh hh'
  rw [byteCells_lit32]
  go_enter Try.func51, Try.ntmps51
  go_upto_region 1 with fail
  refine cut_world (fun W => Whole W w.heap.size 23 (byteCells key 32).toArray ∧ Whole W (w.heap.size + 1) 83 (byteCells (fun _ => 0) 16).toArray ∧ Below w.heap.size w W) ⟨?_, ?_, ?_⟩ ?_
  · rw [byteCells_lit32]
    exact (whole_new _ _ rfl).alloc _
  · exact whole_new _ _ (by simp)
  · exact below_alloc (below_alloc (Below.refl _ _) _) _
  rintro W ⟨k1, k2, kb⟩
  have K0 := Lib.hid (HW.out.below kb hgl)
  have K1 := Lib.hid k1
  have K2 := Lib.hid k2
  have KB := Lib.hid kb
  have hl2 := k2.lt
  clear k1 k2 kb HW hgl
  generalize hB : w.heap.size = B at K1 K2 KB hl2 ⊢
  go_wp2_with (refine wpList_load_mid rfl 105 _ rfl g 5 rfl (qcells h 5) _ (whole_part K0.out 5 5 h (mk2_h r h) (by omega)) rfl rfl (by rw [qcells_length]; kernel_rfl) ?_)
  refine (lowest_any h HH.out HH'.out _).mono ?_
  rintro e w1 ⟨rfl, hb⟩
  have L1 := Lib.hid (K1.out.below hb K1.out.lt)
  have L2 := Lib.hid (K2.out.below hb K2.out.lt)
  have LB := Lib.hid (KB.out.trans (hb.mono (by omega)))
  have hl3 := hb.size
  clear hb K0 K1 K2 KB
  go_upto_region 2 with (refine wpList_store_row rfl 105 (.tmp 5) (.tmp 20) rfl w1.heap.size (qcells (lo h) 5).toArray rfl rfl 105 _ (Whole.new _ _ _) (by rw [qcells_size]; kernel_rfl) (by rw [qcells_size]; rfl) (qcells_one _ _) ?_)
  refine cut_world (fun W => Whole W B 23 (byteCells key 32).toArray ∧ Whole W (B + 1) 83 (byteCells (fun _ => 0) 16).toArray ∧ Whole W w1.heap.size 105 (qcells (lo h) 5).toArray ∧ B + 1 < w1.heap.size ∧ Below B w W) ⟨?_, ?_, ?_, by omega, ?_⟩ ?_
  · exact (setRow_other _ _ B _ (by omega)).trans (L1.out.alloc _)
  · exact (setRow_other _ _ (B + 1) _ (by omega)).trans (L2.out.alloc _)
  · exact setRow_heap _ _ _ _ _ _ (Whole.new _ _ _)
  · exact below_setRow (LB.out.alloc (by omega) _) (by omega) _
  rintro W2 ⟨k1, k2, k3, hG, kb⟩
  have K1 := Lib.hid k1
  have K2 := Lib.hid k2
  have KB := Lib.hid kb
  have c0 := k3.num 0 (by omega)
  have c1 := k3.num 1 (by omega)
  have c2 := k3.num 2 (by omega)
  have c3 := k3.num 3 (by omega)
  have c4 := k3.num 4 (by omega)
  have hl4 := k3.lt
  obtain ⟨V, hV⟩ : ∃ V, lv h 5 % P = V := ⟨_, rfl⟩
  have b0 := HLO.out.2.2 0 (by omega)
  have b1 := HLO.out.2.2 1 (by omega)
  have b2 := HLO.out.2.2 2 (by omega)
  have b3 := HLO.out.2.2 3 (by omega)
  have b4 := HLO.out.2.2 4 (by omega)
  have hv5 := lv5 (lo h)
  rw [HLO.out.2.1, hV] at hv5
  have HV := Lib.hid hV
  clear k1 k2 k3 kb hV L1 L2 LB hl2 hl3 HLO HH HH'
  generalize w1.heap.size = G at c0 c1 c2 c3 c4 hG hl4 ⊢
  generalize lo h 0 = x0 at c0 b0 hv5
  generalize lo h 1 = x1 at c1 b1 hv5
  generalize lo h 2 = x2 at c2 b2 hv5
  generalize lo h 3 = x3 at c3 b3 hv5
  generalize lo h 4 = x4 at c4 b4 hv5
  have HLOW := Lib.hid (low_bits x0 x1 x2 V b0 b1 b2 (x3 + x4 * 67108864) (by omega))
  have HHIGH := Lib.hid (high_bits x2 x3 x4 V b2 b3 b4 (x0 + x1 * 67108864) (by omega) (by omega))
  obtain ⟨lw, hlw⟩ : ∃ x, V % 18446744073709551616 = x := ⟨_, rfl⟩
  obtain ⟨hg, hhg⟩ : ∃ x, V / 18446744073709551616 % 18446744073709551616 = x := ⟨_, rfl⟩
  have HLW := Lib.hid hlw
  have HHG := Lib.hid hhg
  rw [hlw] at HLOW
  rw [hhg] at HHIGH
  clear hlw hhg hv5
  go_upto_region 3 with fail
  rw [HLOW.out]
  go_upto_region 4 with fail
  rw [HHIGH.out]
  clear HLOW HHIGH c0 c1 c2 c3 c4 b0 b1 b2 b3 b4
  go_wp2_with fail
  refine (load64_ok B 0 32 32 key HK.out 16 (by omega) (by omega) _ (fun i hi => K1.out.bytes i hi)).mono ?_
  rintro e w5 ⟨rfl, rfl⟩
  go_wp2_with fail
  refine (load64_ok B 0 32 32 key HK.out 24 (by omega) (by omega) _ (fun i hi => K1.out.bytes i hi)).mono ?_
  rintro e w5 ⟨rfl, rfl⟩
  have HTW := Lib.hid (le_two key 16)
  have s0 : le key 16 8 < 18446744073709551616 := le_lt HK.out 16 8
  have s1 : le key 24 8 < 18446744073709551616 := le_lt HK.out 24 8
  generalize le key 16 8 = s at HTW s0
  generalize le key 24 8 = t at HTW s1
  obtain ⟨l2, hl2⟩ : ∃ x, (lw + s) % 18446744073709551616 = x := ⟨_, rfl⟩
  obtain ⟨o2, ho2⟩ : ∃ x, (lw + s) / 18446744073709551616 = x := ⟨_, rfl⟩
  obtain ⟨h2, hh2⟩ : ∃ x, (hg + t + o2) % 18446744073709551616 = x := ⟨_, rfl⟩
  obtain ⟨o3, ho3⟩ : ∃ x, (hg + t + o2) / 18446744073709551616 = x := ⟨_, rfl⟩
  have hlwb : lw < 18446744073709551616 := by have := HLW.out; omega
  have hhgb : hg < 18446744073709551616 := by have := HHG.out; omega
  have A1 := Lib.hid (show ∀ w, (callFunc 60 #[.int .u64 lw, .int .u64 s, .int .u64 0]).run Try.prog w = .ok (.value (.tuple #[.int .u64 (l2 : Nat), .int .u64 (o2 : Nat)])) w from add64_run lw s 0 l2 o2 (by omega) (by omega) (by omega))
  have A2 := Lib.hid (add64_run hg t o2 h2 o3 (by omega) (by omega) (by omega))
  have l2b : l2 < 18446744073709551616 := by omega
  have h2b : h2 < 18446744073709551616 := by omega
  have HTAG := Lib.hid (show ∀ i, i < 16 → tag V key i = if i < 8 then byteAt l2 i else byteAt h2 (i - 8) from fun i hi => by
    unfold tag
    rw [HTW.out]
    exact halves V s t l2 h2 (by rw [HLW.out, hl2]) (by rw [HLW.out, HHG.out, ho2, hh2]) i hi)
  clear hl2 ho2 hh2 ho3 hlwb hhgb HLW HHG HTW s0 s1
  go_upto_region 9 with (first | simp only [A1.out] | simp only [A2.out])
  refine cut_world (fun W => Whole W (B + 1) 83 (byteCells (fun _ => 0) 16).toArray ∧ Whole W W2.heap.size 83 (byteCells (fun _ => 0) 16).toArray ∧ B + 1 < W2.heap.size ∧ Below B w W) ⟨K2.out.alloc _, Whole.new _ _ _, by omega, KB.out.alloc (by omega) _⟩ ?_
  rintro W3 ⟨k2, k3, hE, kb⟩
  have K2' := Lib.hid k2
  have K3 := Lib.hid k3
  have KB' := Lib.hid kb
  have hl3 := k3.lt
  clear k2 k3 kb K1 K2 KB A1 A2 hl4
  generalize W2.heap.size = E at K3 hE hl3 ⊢
  go_wp2_with fail
  refine (put64_any l2 l2b _).mono ?_
  rintro e w6 ⟨rfl, hb6⟩
  have L2 := Lib.hid (K2'.out.below hb6 K2'.out.lt)
  have L3 := Lib.hid (K3.out.below hb6 K3.out.lt)
  have LB := Lib.hid (KB'.out.trans (hb6.mono (by omega)))
  have hl6 := hb6.size
  clear hb6 K2' K3 KB'
  go_wp2_with fail
  refine (put64_any h2 h2b _).mono ?_
  rintro e w7 ⟨rfl, hb7⟩
  have M2 := Lib.hid (L2.out.below hb7 L2.out.lt)
  have M3 := Lib.hid (L3.out.below hb7 L3.out.lt)
  have MB := Lib.hid (LB.out.trans (hb7.mono (by omega)))
  have hl7 := hb7.size
  clear hb7 L2 L3 LB
  have HZ8 := Lib.hid (show ∀ f, (byteCells f 8).toArray.size = 8 from fun f => by rw [List.size_toArray, byteCells_length])
  have HZ16 := Lib.hid (show ∀ f, (byteCells f 16).toArray.size = 16 from fun f => by rw [List.size_toArray, byteCells_length])
  go_upto_region 10 with (first | (refine wpList_store_row rfl 86 (.tmp 14) (.tmp 66) rfl w7.heap.size (byteCells (byteAt l2) 8).toArray rfl rfl 86 _ ((Whole.new _ _ _).alloc _) (by rw [HZ8.out]; kernel_rfl) (by rw [HZ8.out]; rfl) (bytes_one _ _) ?_) | (refine wpList_store_row rfl 86 (.tmp 15) (.tmp 68) rfl (w7.heap.size + 1) (byteCells (byteAt h2) 8).toArray rfl rfl 86 _ ((setRow_other _ _ _ _ (by omega)).trans (whole_new _ _ (by simp))) (by rw [HZ8.out]; kernel_rfl) (by rw [HZ8.out]; rfl) (bytes_one _ _) ?_))
  try simp only [Act.put]
  refine cut_world (fun W => Whole W (B + 1) 83 (byteCells (fun _ => 0) 16).toArray ∧ Whole W E 83 (byteCells (fun _ => 0) 16).toArray ∧ Whole W w7.heap.size 86 (byteCells (byteAt l2) 8).toArray ∧ Whole W (w7.heap.size + 1) 86 (byteCells (byteAt h2) 8).toArray ∧ E < w7.heap.size ∧ Below B w W) ⟨?_, ?_, ?_, ?_, by omega, ?_⟩ ?_
  · exact (setRow_other _ _ _ _ (by omega)).trans ((setRow_other _ _ _ _ (by omega)).trans ((M2.out.alloc _).alloc _))
  · exact (setRow_other _ _ _ _ (by omega)).trans ((setRow_other _ _ _ _ (by omega)).trans ((M3.out.alloc _).alloc _))
  · exact (setRow_other _ _ _ _ (by omega)).trans (setRow_heap _ _ _ _ _ _ ((Whole.new _ _ _).alloc _))
  · exact setRow_heap _ _ _ _ _ _ ((setRow_other _ _ _ _ (by omega)).trans (whole_new _ _ (by simp)))
  · exact below_setRow (below_setRow ((MB.out.alloc (by omega) _).alloc (by simp; omega) _) (by omega) _) (by omega) _
  rintro W4 ⟨k2, k3, k4, k5, hF, kb⟩
  have K2 := Lib.hid k2
  have K3 := Lib.hid k3
  have K5 := Lib.hid k5
  have K4 := Lib.hid k4
  have KB := Lib.hid kb
  have K3D := Lib.hid (show Whole W4.drew E 83 (byteCells (fun _ => 0) 16).toArray from k3.drew)
  have HS := Lib.hid (rd_src (w := W4.drew) (b := w7.heap.size) (off := 0) (n := 8) (f := byteAt l2) (fun i hi => k4.drew.bytes i hi))
  have hl9 := k5.lt
  clear k2 k3 k4 k5 kb M2 M3 MB hl3 hl6 hl7 HZ8
  generalize w7.heap.size = F at K5 K4 HS hF hl9 ⊢
  go_region_law (refine step_copy_grown rfl (.tmp 69) (.tmp 70) 38 38 rfl 5 rfl (by kernel_rfl) E 0 8 16 ⟨F, 0, none⟩ 8 8 rfl rfl (byteCells (fun _ => 0) 16) 83 K3D.out (byteCells (byteAt l2) 8) (by rw [byteCells_length]; rfl) HS.out (by rw [byteCells_length, byteCells_length]; omega) (bytes_each _ _) ?_; intro w8 hg8 hb8)
  have L3 := Lib.hid (show Whole w8 E 83 (byteCells (fun i => if i < 8 then byteAt l2 i else 0) 16).toArray from by
    have h := hg8.out
    rw [byteCells_splice (fun _ => 0) (byteAt l2) (fun i => if i < 8 then byteAt l2 i else 0) 16 0 8 (by omega) (fun i hi => by
      by_cases l : i < 8
      · rw [if_pos l, if_pos ⟨by omega, by omega⟩, Nat.sub_zero]
      · rw [if_neg l, if_neg (by omega)])] at h
    exact h)
  have L2 := Lib.hid (whole_grown (w := w8) K2.out.drew hb8 (by omega))
  have L5 := whole_grown (w := w8) K5.out.drew hb8 (by omega)
  have LB := Lib.hid (below_grown (below_drewN KB.out 1) hb8 (by omega) (by show B ≤ W4.heap.size; omega))
  have L3D := Lib.hid (show Whole w8.drew E 83 (byteCells (fun i => if i < 8 then byteAt l2 i else 0) 16).toArray from L3.out.drew)
  have HS2 := Lib.hid (rd_src (w := w8.drew) (b := F + 1) (off := 0) (n := 8) (f := byteAt h2) (fun i hi => L5.drew.bytes i hi))
  have hl8 := hb8.size
  clear hg8 hb8 K2 K3 K4 K5 KB K3D HS L5
  go_wp2_with fail
  go_region_law (refine step_copy_grown rfl (.tmp 72) (.tmp 73) 38 38 rfl 5 rfl (by kernel_rfl) E 8 8 8 ⟨F + 1, 0, none⟩ 8 8 rfl rfl (byteCells (fun i => if i < 8 then byteAt l2 i else 0) 16) 83 L3D.out (byteCells (byteAt h2) 8) (by rw [byteCells_length]; rfl) HS2.out (by rw [byteCells_length, byteCells_length]; omega) (bytes_each _ _) ?_; intro w9 hg9 hb9)
  have M3 := Lib.hid (show Whole w9 E 83 (byteCells (tag V key) 16).toArray from by
    have h := hg9.out
    rw [byteCells_splice (fun i => if i < 8 then byteAt l2 i else 0) (byteAt h2) (tag V key) 16 8 8 (by omega) (fun i hi => by
      rw [HTAG.out i hi]
      by_cases l : i < 8
      · rw [if_pos l, if_neg (by omega), if_pos l]
      · rw [if_neg l, if_pos ⟨by omega, by omega⟩])] at h
    exact h)
  have M2 := Lib.hid (whole_grown (w := w9) L2.out.drew hb9 (by omega))
  have MB := Lib.hid (below_grown (below_drewN LB.out 1) hb9 (by omega) (by show B ≤ w8.heap.size; have : W4.drew.heap.size = W4.heap.size := rfl; omega))
  clear hg9 hb9 L2 L3 LB L3D HS2 HTAG
  go_wp2_with (first | (refine wpList_load_row rfl 83 (.tmp 13) rfl E rfl 83 (byteCells (tag V key) 16).toArray (0, 0) _ M3.out rfl rfl (by rw [HZ16.out]; kernel_rfl) ?_) | (refine wpList_store_row rfl 83 (.tmp 4) (.tmp 75) rfl (B + 1) (byteCells (tag V key) 16).toArray rfl rfl 83 _ M2.out (by rw [HZ16.out]; kernel_rfl) (by rw [HZ16.out, HZ16.out]) (bytes_one _ _) ?_))
  have hret : Whole (w9.setRow (B + 1) (byteCells (tag V key) 16).toArray) (B + 1) 83 (byteCells (tag V key) 16).toArray := setRow_heap w9 _ _ _ _ _ M2.out
  refine bodyPost_ret (results_cell_row rfl _ _ (B + 1) 83 _ (0, 0) _ rfl hret rfl rfl (by rw [HZ16.out]; kernel_rfl)) rfl ?_
  exact ⟨by rw [HV.out], by rw [hB]; exact below_setRow MB.out (by omega) _⟩
end Poly
end Go.Proofs.Ytdhjgenijieeaaa

/-! from Mac -/
namespace Go.Proofs.Ytdhjgenijieeaaa
namespace Poly
open Num Mem Words PolyN
/-- the factor's number -/
def rk (key : Nat → Nat) : Nat := lv (fac key) 5
/-- the number of a piece -/
def pn (f : Nat → Nat) (n size : Nat) : Nat := le (pce f n size) 0 17
theorem pn_lt (f : Nat → Nat) (hf : ∀ i, f i < 256) (n size : Nat) (hn : n ≤ size) (hs : size ≤ 16) : pn f n size < 2 ^ (26 * 5) := by
  unfold pn
  rw [show le (pce f n size) 0 17 = le (pce f n size) 0 16 + pce f n size (0 + 16) * 2 ^ (8 * 16) from rfl]
  have h := le_lt (pce_lt hf n size) 0 16
  have h2 : pce f n size (0 + 16) ≤ 1 := by
    unfold pce
    rw [if_neg (by omega)]
    split <;> omega
  have h3 : pce f n size (0 + 16) * 2 ^ (8 * 16) ≤ 1 * 2 ^ (8 * 16) := Nat.mul_le_mul_right _ h2
  have h4 : 2 ^ (8 * 16) + 1 * 2 ^ (8 * 16) ≤ 2 ^ (26 * 5) := by decide +kernel
  omega
theorem pn_congr {f g : Nat → Nat} {n size : Nat} (h : ∀ i, i < n → f i = g i) : pn f n size = pn g n size := by
  unfold pn
  refine le_congr 17 fun i _ => ?_
  unfold pce
  by_cases l : 0 + i < n
  · rw [if_pos l, if_pos l, h _ l]
  · rw [if_neg l, if_neg l]
/-- one piece more -/
def stp (R a x : Nat) : Nat := (a + x) * R % P
/-- k pieces more of a text of m bytes, from a on -/
def macN (R : Nat) (pad : Bool) : Nat → Nat → (Nat → Nat) → Nat → Nat
  | 0, a, _, _ => a
  | k + 1, a, g, m => macN R pad k (stp R a (pn g (min m 16) (if pad then 16 else min m 16))) (fun i => g (16 + i)) (m - 16)
/-- all of a text -/
def mac (R : Nat) (pad : Bool) (a : Nat) (g : Nat → Nat) (m : Nat) : Nat := macN R pad ((m + 15) / 16) a g m
theorem mac_zero (R : Nat) (pad : Bool) (a : Nat) (g : Nat → Nat) : mac R pad a g 0 = a := rfl
theorem mac_step (R : Nat) (pad : Bool) (a : Nat) (g : Nat → Nat) (m : Nat) (h : 0 < m) : mac R pad a g m = mac R pad (stp R a (pn g (min m 16) (if pad then 16 else min m 16))) (fun i => g (16 + i)) (m - 16) := by
  unfold mac
  obtain ⟨k, hk⟩ : ∃ k, (m + 15) / 16 = k + 1 := ⟨(m + 15) / 16 - 1, by omega⟩
  rw [hk, macN, show (m - 16 + 15) / 16 = k by omega]
theorem mac_congr (R : Nat) (pad : Bool) : ∀ (m : Nat) (a : Nat) (f g : Nat → Nat), (∀ i, i < m → f i = g i) → mac R pad a f m = mac R pad a g m := by
  intro m
  induction m using Nat.strongRecOn with
  | ind m ih =>
    intro a f g h
    rcases Nat.eq_zero_or_pos m with rfl | hm
    · rfl
    · rw [mac_step R pad a f m hm, mac_step R pad a g m hm, pn_congr (f := f) (g := g) (fun i hi => h i (by omega))]
      exact ih (m - 16) (by omega) _ _ _ fun i hi => h (16 + i) (by omega)
/-- what the limbs make of it -/
theorem stp_limbs (h q r : Nat → Nat) (a x R : Nat) (hh : ∀ i, i < 5 → h i + q i < 268435456) (hr : ∀ i, i < 5 → r i < 67108864) (ha : lv h 5 % P = a) (hx : lv q 5 = x) (hR : lv r 5 = R) :
    lv (ti (fun i => h i + q i) r) 5 % P = stp R a x := by
  rw [(ti_spec (fun i => h i + q i) r hh hr).1, lv_add, hx, hR, ← ha]
  unfold stp
  rw [Nat.mul_mod, Nat.mul_mod (lv h 5 % P + x), Nat.mod_add_mod]
/-- a text's mark, and that of parts that are filled up -/
def sumAt (key : Nat → Nat) (f : Nat → Nat) (n i : Nat) : Nat := tag (mac (rk key) false 0 f n) key i
end Poly
end Go.Proofs.Ytdhjgenijieeaaa

/-! from PolySum -/
namespace Go.Proofs.Ytdhjgenijieeaaa
namespace Poly
open Go.ChangeShapes Go.WideShapes Go.ChangeAt Go.RowKit
open Num Mem Words PolyN Chacha Quiet
/-- a mark on its way, in memory at block M: of the number a -/
def At (w : World) (M : Nat) (key : Nat → Nat) (a : Nat) : Prop :=
  ∃ h : Nat → Nat, Whole w M 107 (qcells (mk2 (fac key) h) 10).toArray ∧ (∀ i, i < 5 → h i < 67108869) ∧ (∀ i, 1 ≤ i → i < 5 → h i < 67108864) ∧ lv h 5 % P = a
theorem At.below {w w' : World} {M : Nat} {key : Nat → Nat} {a B : Nat} (h : At w M key a) (hb : Below B w w') (hB : M < B) : At w' M key a := by
  obtain ⟨x, h1, h2⟩ := h
  exact ⟨x, h1.below hb hB, h2⟩
theorem At.lt {w : World} {M : Nat} {key : Nat → Nat} {a : Nat} (h : At w M key a) : M < w.heap.size := by
  obtain ⟨x, h1, _⟩ := h
  exact h1.lt
theorem fac_lt (key : Nat → Nat) (i : Nat) : fac key i < 67108864 := sp_lt _ _
/-- a piece is taken in -/
theorem at_add (M : Nat) (key : Nat → Nat) (a : Nat) (A : Option Addr) (n c size : Nat) (f : Nat → Nat) (hf : ∀ i, f i < 256) (hn : n ≤ size) (hs : size ≤ 16) (w : World) (hw : At w M key a) (hA : Rd w A n f) :
    Calls Try.prog 50 #[.pointer (some ⟨M, 0, none⟩), .slice A n c, .int .i64 size] w fun e w' => e = .returned (.tuple #[]) ∧ At w' M key (stp (rk key) a (pn f n size)) ∧ w.grownBy w' (some M) := by
  obtain ⟨h, h1, h2, h3, h4⟩ := hw
  refine (add_any M (fac key) h (fun i _ => fac_lt key i) h2 A n c size f hf hn hs w h1 hA).mono ?_
  rintro e w' ⟨rfl, k1, k2⟩
  have hb : ∀ i, i < 5 → h i + sp (pce f n size) i < 268435456 := fun i hi => by
    have := h2 i hi
    have := sp_lt (pce f n size) i
    omega
  have ht := ti_spec (fun i => h i + sp (pce f n size) i) (fac key) hb (fun i _ => fac_lt key i)
  exact ⟨rfl, ⟨_, k1, ht.2.1, ht.2.2, stp_limbs h _ (fac key) a _ _ hb (fun i _ => fac_lt key i) h4 (sp_val _ (pn_lt f hf n size hn hs)) rfl⟩, k2⟩
/-- the mark is told -/
theorem at_end (M : Nat) (key : Nat → Nat) (hk : ∀ i, key i < 256) (a : Nat) (w : World) (hw : At w M key a) :
    Calls Try.prog 51 #[.pointer (some ⟨M, 0, none⟩), .agg (byteCells key 32).toArray] w fun e w' => e = .returned (.agg (byteCells (tag a key) 16).toArray) ∧ Below w.heap.size w w' := by
  obtain ⟨h, h1, h2, h3, h4⟩ := hw
  rw [← h4]
  exact end_any M (fac key) h h2 h3 key hk w h1
theorem at_begin {w : World} {M : Nat} {key : Nat → Nat} (h : Whole w M 107 (qcells (mk2 (fac key) (fun _ => 0)) 10).toArray) : At w M key 0 :=
  ⟨_, h, fun _ _ => by omega, fun _ _ _ => by omega, by decide +kernel⟩
def lenOf : Value → Nat
  | .slice _ n _ => n
  | _ => 0
/-- what lies in memory while a text is marked -/
def SumW (w : World) (B G : Nat) (key : Nat → Nat) (a : Nat) (wr : World) : Prop :=
  Whole wr B 23 (byteCells key 32).toArray ∧ Whole wr (B + 1) 83 (byteCells (fun _ => 0) 16).toArray ∧ At wr G key a ∧ B + 1 < G ∧ Below B w wr
theorem sumw_add {w wr w' : World} {B G : Nat} {key : Nat → Nat} {a a' : Nat} (h : SumW w B G key a wr) (ha : At w' G key a') (hg : wr.grownBy w' (some G)) : SumW w B G key a' w' := by
  obtain ⟨h1, h2, h3, h4, h5⟩ := h
  exact ⟨whole_grown h1 hg (by omega), whole_grown h2 hg (by omega), ha, h4, below_grown h5 hg (by omega) (by have := h2.lt; omega)⟩
end Poly
end Go.Proofs.Ytdhjgenijieeaaa

/-! from PolyBoth -/
namespace Go.Proofs.Ytdhjgenijieeaaa
namespace Poly
open Go.ChangeShapes Go.WideShapes Go.ChangeAt Go.RowKit
open Num Mem Words PolyN Chacha Quiet
/-- what is told of k parts at P -/
def Parts.In (p : Parts) (w : World) (P : Option Addr) (k : Nat) : Prop :=
  (∀ i, i < k → Rd w (p.A i) (p.n i) (p.f i) ∧ p.n i ≤ p.c i ∧ p.n i ≤ 1000000) ∧ (∀ i j, p.f i j < 256) ∧ (k = 0 ∨ ∃ b off, P = some ⟨b, off, none⟩ ∧ b < w.heap.size ∧ ∀ i, i < k → w.cell? ⟨b, off + i, none⟩ = some (.slice (p.A i) (p.n i) (p.c i)))
/-- the parts' number -/
def macs (R : Nat) (p : Parts) : Nat → Nat
  | 0 => 0
  | k + 1 => mac R true (macs R p k) (p.f k) (p.n k)
set_option maxRecDepth 100000 in
theorem both_any (key : Nat → Nat) (hk : ∀ i, key i < 256) (P : Option Addr) (K c : Nat) (p : Parts) (hK : K ≤ 1000000) (w : World) (hP : p.In w P K) :
    Calls Try.prog 42 #[.agg (byteCells key 32).toArray, .slice P K c] w fun e w' => e = .returned (.agg (byteCells (tag (macs (rk key) p K) key) 16).toArray) ∧ Below w.heap.size w w' := by
  have HK := Lib.hid hk
  have HP := Lib.hid hP
  clear hk hP
  rw [byteCells_lit32]
  go_enter Try.func42, Try.ntmps42
  go_upto_region 1 with fail
  refine cut_world (fun W => Whole W w.heap.size 23 (byteCells key 32).toArray ∧ Whole W (w.heap.size + 1) 83 (byteCells (fun _ => 0) 16).toArray ∧ Below w.heap.size w W) ⟨?_, ?_, ?_⟩ ?_
  · rw [byteCells_lit32]
    exact (whole_new _ _ rfl).alloc _
  · exact whole_new _ _ (by simp)
  · exact below_alloc (below_alloc (Below.refl _ _) _) _
  rintro W ⟨k1, k2, kb⟩
  have K1 := Lib.hid k1
  have K2 := Lib.hid k2
  have KB := Lib.hid kb
  have hl2 := k2.lt
  clear k1 k2 kb
  generalize hB : w.heap.size = B at K1 K2 KB hl2 ⊢
  go_wp2_with (refine wpList_load_row rfl 23 (.tmp 2) rfl B rfl 23 (byteCells key 32).toArray (0, 0) _ K1.out rfl rfl (by kernel_rfl) ?_)
  refine (begin_any key HK.out _).mono ?_
  rintro e w1 ⟨rfl, hb⟩
  have L1 := Lib.hid (K1.out.below hb K1.out.lt)
  have L2 := Lib.hid (K2.out.below hb K2.out.lt)
  have LB := Lib.hid (KB.out.trans (hb.mono (by omega)))
  have hl3 := hb.size
  clear hb K1 K2 KB
  go_upto_region 2 with (refine wpList_store_row rfl 107 (.tmp 5) (.tmp 10) rfl w1.heap.size (qcells (mk2 (fac key) (fun _ => 0)) 10).toArray rfl rfl 107 _ (Whole.new _ _ _) (by rw [qcells_size]; kernel_rfl) (by rw [qcells_size]; rfl) (qcells_one _ _) ?_)
  try simp only [Act.put]
  refine cut_world (SumW w B w1.heap.size key 0) ⟨?_, ?_, ?_, ?_, ?_⟩ ?_
  · exact (setRow_other _ _ B _ (by omega)).trans (L1.out.alloc _)
  · exact (setRow_other _ _ (B + 1) _ (by omega)).trans (L2.out.alloc _)
  · exact at_begin (setRow_heap _ _ _ _ _ _ (Whole.new _ _ _))
  · omega
  · exact below_setRow (LB.out.alloc (by omega) _) (by omega) _
  rintro W2 hW
  have HW := Lib.hid hW
  have hG : B + 1 < w1.heap.size := by omega
  clear hW L1 L2 LB hl2 hl3
  generalize w1.heap.size = G at HW hG ⊢
  go_wp2_with fail
  go_loopw [7, 13] (fun _ i wr => ∃ k : Nat, k ≤ K ∧ i = .int .i64 k ∧ SumW w B G key (macs (rk key) p k) wr) (fun _ i _ => K - (intOf i).toNat)
  case atStart => exact ⟨0, by omega, rfl, HW.out⟩
  case round =>
    obtain ⟨k, hkK, rfl, hw⟩ := hrel
    have HW := Lib.hid hw
    by_cases hlk : k < K
    · obtain ⟨pb, po, rfl, hpb, hpc⟩ : ∃ b off, P = some ⟨b, off, none⟩ ∧ b < w.heap.size ∧ ∀ i, i < K → w.cell? ⟨b, off + i, none⟩ = some (.slice (p.A i) (p.n i) (p.c i)) := by
        rcases HP.out.2.2 with h | h
        · omega
        · exact h
      have hcell := (hw.2.2.2.2.cell (p := ⟨pb, po + k, none⟩) (by show pb < B; omega)).trans (hpc k hlk)
      have hpk := HP.out.1 k hlk
      have HPF := Lib.hid (HP.out.2.1 k)
      have HSTEP := Lib.hid (show macs (rk key) p (k + 1) = mac (rk key) true (macs (rk key) p k) (p.f k) (p.n k) from rfl)
      clear hw hpc
      obtain ⟨A0, hA0⟩ : ∃ x, p.A k = x := ⟨_, rfl⟩
      obtain ⟨n0, hn0⟩ : ∃ x, p.n k = x := ⟨_, rfl⟩
      obtain ⟨c0, hc0⟩ : ∃ x, p.c k = x := ⟨_, rfl⟩
      obtain ⟨f0, hf0⟩ : ∃ x, p.f k = x := ⟨_, rfl⟩
      obtain ⟨a0, ha0⟩ : ∃ x, macs (rk key) p k = x := ⟨_, rfl⟩
      rw [hA0, hn0, hc0] at hcell
      rw [hA0, hn0, hc0, hf0] at hpk
      rw [hf0] at HPF
      rw [hf0, hn0, ha0] at HSTEP
      rw [ha0] at HW
      obtain ⟨hr0, hnc0, hn0'⟩ := hpk
      have HR0 := Lib.hid hr0
      obtain ⟨T, hT⟩ : ∃ x, mac (rk key) true a0 f0 n0 = x := ⟨_, rfl⟩
      rw [hT] at HSTEP
      have HT := Lib.hid hT
      clear hA0 hn0 hc0 hf0 ha0 hr0 hT
      go_wp2_with fail
      go_loopw [7] (fun s wr => ∃ (A' : Option Addr) (m c' : Nat) (g : Nat → Nat) (a : Nat), s = .slice A' m c' ∧ m ≤ c' ∧ m ≤ n0 ∧ (∀ i, g i < 256) ∧ Rd w A' m g ∧ SumW w B G key a wr ∧ mac (rk key) true a g m = T) (fun s _ => lenOf s)
      case atStart => exact ⟨A0, n0, c0, f0, a0, rfl, hnc0, Nat.le_refl _, HPF.out, HR0.out, HW.out, HT.out⟩
      case round =>
        obtain ⟨A', m, c', g, a, rfl, hmc, hmn, hg, hr, hw, hmac⟩ := hrel
        have HG := Lib.hid hg
        have HR := Lib.hid hr
        have HW := Lib.hid hw
        clear hg hr hw
        by_cases hlt : 0 < m
        · obtain ⟨b, off, hAe, hbl, hcc⟩ : ∃ b off, A' = some ⟨b, off, none⟩ ∧ b < w.heap.size ∧ ∀ i, i < m → w.cell? ⟨b, off + i, none⟩ = some (.int .u8 (g i : Nat)) := by
            rcases HR.out with h | ⟨b, off, h1, h2, h3⟩
            · omega
            · exact ⟨b, off, h1, h2, h3⟩
          subst hAe
          rw [mac_step _ _ _ _ _ hlt] at hmac
          simp only [if_true] at hmac
          have HMAC := Lib.hid hmac
          have HCC := Lib.hid hcc
          have hrw : Rd wr (some ⟨b, off, none⟩) m g := HR.out.below HW.out.2.2.2.2 (by omega)
          have HRW := Lib.hid hrw
          clear hmac hcc hrw
          by_cases h16 : m ≤ 16
          · have e16 := Lib.hid (show min m 16 = m by omega)
            rw [e16.out, show m - 16 = 0 by omega, mac_zero] at HMAC
            go_wp2_with fail
            refine (at_add G key a (some ⟨b, off, none⟩) m c' 16 g HG.out h16 (Nat.le_refl _) _ HW.out.2.2.1 HRW.out).mono ?_
            rintro e w3 ⟨rfl, ha3, hg3⟩
            have HW3 := Lib.hid (sumw_add HW.out ha3 hg3)
            clear ha3 hg3
            by_cases hcap : c' = m
            · subst hcap
              go_wp2_with fail
              go_roundw
              case rel => exact ⟨_, 0, 0, g, _, rfl, by omega, by omega, HG.out, .inl rfl, HW3.out, by rw [mac_zero]; exact HMAC.out⟩
              case measure => simp [lenOf]; omega
            · go_wp2_with fail
              go_roundw
              case rel => exact ⟨_, 0, _, g, _, rfl, by omega, by omega, HG.out, .inl rfl, HW3.out, by rw [mac_zero]; exact HMAC.out⟩
              case measure => simp [lenOf]; omega
          · have e16 := Lib.hid (show min m 16 = 16 by omega)
            rw [e16.out] at HMAC
            have hcap : ¬ c' = 16 := by omega
            go_wp2_with fail
            refine (at_add G key a (some ⟨b, off, none⟩) 16 c' 16 g HG.out (Nat.le_refl _) (Nat.le_refl _) _ HW.out.2.2.1 (rd_front HRW.out 16 (by omega))).mono ?_
            rintro e w3 ⟨rfl, ha3, hg3⟩
            have HW3 := Lib.hid (sumw_add HW.out ha3 hg3)
            clear ha3 hg3
            go_wp2_with fail
            go_roundw
            case rel => exact ⟨_, m - 16, _, fun i => g (16 + i), _, rfl, by omega, by omega, fun i => HG.out _, .inr ⟨b, off + 16, rfl, hbl, fun i hi => by rw [Nat.add_assoc]; exact HCC.out (16 + i) (by omega)⟩, HW3.out, HMAC.out⟩
            case measure => simp [lenOf]; omega
        · obtain rfl : m = 0 := by omega
          rw [mac_zero] at hmac
          subst hmac
          go_wp2_with fail
          go_roundw
          case rel => exact ⟨k + 1, by omega, by go_num, by rw [HSTEP.out]; exact HW.out⟩
          case measure => simp [intOf]; omega
    · obtain rfl : k = K := by omega
      obtain ⟨q1, q2, q3, q4, q5⟩ := hw
      have Q1 := Lib.hid q1
      have Q2 := Lib.hid q2
      have Q3 := Lib.hid q3
      have Q5 := Lib.hid q5
      have hl1 := q1.lt
      have HZ16 := Lib.hid (show ∀ f, (byteCells f 16).toArray.size = 16 from fun f => by rw [List.size_toArray, byteCells_length])
      clear q1 q2 q3 q5 HW
      go_wp2_with (refine wpList_load_row rfl 23 (.tmp 2) rfl B rfl 23 (byteCells key 32).toArray (0, 0) _ Q1.out rfl rfl (by kernel_rfl) ?_)
      refine (at_end G key HK.out _ _ Q3.out).mono ?_
      rintro e w4 ⟨rfl, hb4⟩
      have L2 := Lib.hid (Q2.out.below hb4 Q2.out.lt)
      have LB := Lib.hid (Q5.out.trans (hb4.mono (by omega)))
      clear hb4 Q1 Q2 Q3 Q5
      generalize hS : tag (macs (rk key) p k) key = S at ⊢
      go_wp2_with (refine wpList_store_row rfl 83 (.tmp 4) (.tmp 32) rfl (B + 1) (byteCells S 16).toArray rfl rfl 83 _ L2.out (by rw [HZ16.out]; kernel_rfl) (by rw [HZ16.out, HZ16.out]) (bytes_one _ _) ?_)
      have hret : Whole (w4.setRow (B + 1) (byteCells S 16).toArray) (B + 1) 83 (byteCells S 16).toArray := setRow_heap w4 _ _ _ _ _ L2.out
      refine bodyPost_ret (results_cell_row rfl _ _ (B + 1) 83 _ (0, 0) _ rfl hret rfl rfl (by rw [HZ16.out]; kernel_rfl)) rfl ?_
      exact ⟨by rw [hS], by rw [hB]; exact below_setRow LB.out (by omega) _⟩
end Poly
end Go.Proofs.Ytdhjgenijieeaaa

/-! from Carry -/
namespace Go.Proofs.Ytdhjgenijieeaaa
namespace Num
/-- byte i of a number -/
def byt (v i : Nat) : Nat := v / 2 ^ (8 * i) % 256
/-- a row of n bytes, with noughts behind -/
def zx (f : Nat → Nat) (n i : Nat) : Nat := if i < n then f i else 0
theorem zx_lt {f : Nat → Nat} (h : ∀ i, f i < 256) (n i : Nat) : zx f n i < 256 := by
  have := h i
  unfold zx
  split <;> omega
theorem zx_in {f : Nat → Nat} {n i : Nat} (h : i < n) : zx f n i = f i := if_pos h
theorem zx_out {f : Nat → Nat} {n i : Nat} (h : n ≤ i) : zx f n i = 0 := if_neg (by omega)
theorem le_zx (f : Nat → Nat) (n k : Nat) (h : n ≤ k) : le (zx f n) 0 k = le f 0 n := by
  obtain ⟨m, rfl⟩ : ∃ m, k = n + m := ⟨k - n, by omega⟩
  clear h
  induction m with
  | zero => exact le_congr n fun i hi => by rw [Nat.zero_add]; exact zx_in hi
  | succ m ih =>
    rw [show n + (m + 1) = n + m + 1 from rfl, le, ih, zx_out (by omega), Nat.zero_mul, Nat.add_zero]
/-- what is left of a number above its first k bytes, where the number is known byte by byte -/
theorem le_up (f : Nat → Nat) (k m : Nat) : ∃ x, le f 0 (k + m) = le f 0 k + x * 2 ^ (8 * k) := by
  induction m with
  | zero => exact ⟨0, by simp⟩
  | succ m ih =>
    obtain ⟨x, hx⟩ := ih
    refine ⟨x + f (0 + (k + m)) * 2 ^ (8 * m), ?_⟩
    rw [show k + (m + 1) = k + m + 1 from rfl, le, hx, Nat.add_mul, Nat.mul_assoc, ← Nat.pow_add, show 8 * m + 8 * k = 8 * (k + m) by omega]
    omega
/-- what is carried into byte k of a sum -/
def cry (a b : Nat → Nat) (k : Nat) : Nat := (le a 0 k + le b 0 k) / 2 ^ (8 * k)
theorem cry_zero (a b : Nat → Nat) : cry a b 0 = 0 := by simp [cry, le]
theorem cry_le {a b : Nat → Nat} (ha : ∀ i, a i < 256) (hb : ∀ i, b i < 256) (k : Nat) : cry a b k ≤ 1 := by
  unfold cry
  have h1 := le_lt ha 0 k
  have h2 := le_lt hb 0 k
  have := Nat.div_lt_of_lt_mul (show le a 0 k + le b 0 k < 2 ^ (8 * k) * 2 by omega)
  omega
theorem cry_sum (a b : Nat → Nat) (k : Nat) : (le a 0 (k + 1) + le b 0 (k + 1)) / 2 ^ (8 * k) = cry a b k + a k + b k := by
  unfold cry
  rw [le, le, Nat.zero_add, show le a 0 k + a k * 2 ^ (8 * k) + (le b 0 k + b k * 2 ^ (8 * k)) = le a 0 k + le b 0 k + (a k + b k) * 2 ^ (8 * k) by rw [Nat.add_mul]; omega, Nat.add_mul_div_right _ _ (Nat.two_pow_pos _)]
  omega
theorem cry_step (a b : Nat → Nat) (k : Nat) : cry a b (k + 1) = (cry a b k + a k + b k) / 256 := by
  rw [← cry_sum, Nat.div_div_eq_div_mul, Nat.mul_comm (2 ^ (8 * k)), ← pow8_succ]
  rfl
theorem cry_byte (a b : Nat → Nat) (k N : Nat) (hk : k < N) : byt (le a 0 N + le b 0 N) k = (cry a b k + a k + b k) % 256 := by
  obtain ⟨m, rfl⟩ : ∃ m, N = k + 1 + m := ⟨N - (k + 1), by omega⟩
  obtain ⟨x, hx⟩ := le_up a (k + 1) m
  obtain ⟨y, hy⟩ := le_up b (k + 1) m
  unfold byt
  rw [← cry_sum, hx, hy, show le a 0 (k + 1) + x * 2 ^ (8 * (k + 1)) + (le b 0 (k + 1) + y * 2 ^ (8 * (k + 1))) = le a 0 (k + 1) + le b 0 (k + 1) + (x + y) * 256 * 2 ^ (8 * k) by rw [pow8_succ, Nat.mul_assoc (x + y), Nat.add_mul]; omega,
    Nat.add_mul_div_right _ _ (Nat.two_pow_pos _), Nat.add_mul_mod_self_right]
/-- what is carried into byte k of a product with x -/
def mry (x : Nat) (b : Nat → Nat) (k : Nat) : Nat := x * le b 0 k / 2 ^ (8 * k)
theorem mry_zero (x : Nat) (b : Nat → Nat) : mry x b 0 = 0 := by simp [mry, le]
theorem mry_le {x : Nat} (hx : x < 256) {b : Nat → Nat} (hb : ∀ i, b i < 256) (k : Nat) : mry x b k < 256 := by
  unfold mry
  have h2 := le_lt hb 0 k
  refine Nat.div_lt_of_lt_mul ?_
  have h3 : x * le b 0 k ≤ x * 2 ^ (8 * k) := Nat.mul_le_mul_left _ (Nat.le_of_lt h2)
  have h4 : x * 2 ^ (8 * k) < 256 * 2 ^ (8 * k) := Nat.mul_lt_mul_of_pos_right hx (Nat.two_pow_pos _)
  rw [Nat.mul_comm (2 ^ (8 * k))]
  omega
theorem mry_sum (x : Nat) (b : Nat → Nat) (k : Nat) : x * le b 0 (k + 1) / 2 ^ (8 * k) = mry x b k + x * b k := by
  unfold mry
  rw [le, Nat.zero_add, Nat.mul_add, ← Nat.mul_assoc, Nat.add_mul_div_right _ _ (Nat.two_pow_pos _)]
theorem mry_step (x : Nat) (b : Nat → Nat) (k : Nat) : mry x b (k + 1) = (mry x b k + x * b k) / 256 := by
  rw [← mry_sum, Nat.div_div_eq_div_mul, Nat.mul_comm (2 ^ (8 * k)), ← pow8_succ]
  rfl
theorem mry_byte (x : Nat) (b : Nat → Nat) (k N : Nat) (hk : k < N) : byt (x * le b 0 N) k = (mry x b k + x * b k) % 256 := by
  obtain ⟨m, rfl⟩ : ∃ m, N = k + 1 + m := ⟨N - (k + 1), by omega⟩
  obtain ⟨y, hy⟩ := le_up b (k + 1) m
  unfold byt
  rw [← mry_sum, hy, Nat.mul_add, show x * (y * 2 ^ (8 * (k + 1))) = x * y * 256 * 2 ^ (8 * k) by rw [pow8_succ, ← Nat.mul_assoc, ← Nat.mul_assoc],
    Nat.add_mul_div_right _ _ (Nat.two_pow_pos _), Nat.add_mul_mod_self_right]
/-- a number is its bytes -/
theorem le_byt (v n : Nat) (h : v < 2 ^ (8 * n)) : le (byt v) 0 n = v := by
  have := le_digits v n
  rw [Nat.mod_eq_of_lt h] at this
  exact this
theorem byt_lt (v i : Nat) : byt v i < 256 := Nat.mod_lt _ (by omega)
end Num
end Go.Proofs.Ytdhjgenijieeaaa

/-! from WordsHex -/
namespace Go.Proofs.Ytdhjgenijieeaaa
namespace Words
open Go.ChangeShapes Go.WideShapes Go.ChangeAt Go.RowKit
open Num Mem
/-- the digit of a number below 16 -/
def hx (d : Nat) : Nat := if d < 10 then 48 + d else 87 + d
end Words
end Go.Proofs.Ytdhjgenijieeaaa

/-! from RefOne -/
namespace Go.Proofs.Ytdhjgenijieeaaa
namespace Ref
open Go.ChangeShapes Go.WideShapes Go.ChangeAt Go.RowKit
open Num Mem Words
theorem info_u8 : (Try.prog.info? 5).map (fun i => (i.zero, i.size, i.bytes)) = some (some (.int .u8 0), 1, 1) := by kernel_rfl
theorem one_at (w : World) (u : Value) (t : TypeId) : ∀ j x, [u][j]? = some x → (w.alloc (.cells #[u] t)).cell? ((⟨w.heap.size, 0, none⟩ : Addr).add j) = some x := by
  intro j x hj
  match j, hj with
  | 0, hj =>
    simp at hj
    subst hj
    exact (Whole.new w t #[u]).cell 0
/-- 'append(out, x)' of one byte onto a row of the call's own -/
theorem wpList_push {ops : Array Oper} {rest : List Oper} {o : Oper} {a : Act} {Q : Exit → Act → World → Prop} {W w : World} {B k c : Nat} {A : Option Addr} {f : Nat → Nat} {b : Int} (hgd : o.guard = none) (s x : Operand)
    (ho : o.op = .call { callee := .builtin .append, args := #[s, x], argTypes := #[38, 38] })
    (hs : a.eval s = .slice A k c) (hx : a.eval x = .slice (some ⟨w.heap.size, 0, none⟩) 1 1)
    (own : Own w B 5 A k c f) (bel : Below B W w) (hB : B ≤ w.heap.size) (hb : b = (f k : Nat)) (hk : k < 1000000)
    (h : ∀ A' c' w', Own w' B 5 A' (k + 1) c' f → Below B W w' → B ≤ w'.heap.size → wpList Try.prog ops Q rest (a.put o.dst (.slice A' (k + 1) c')) w') :
    wpList Try.prog ops Q (o :: rest) a (w.alloc (.cells #[.int .u8 b] 5)) := by
  obtain ⟨i0, hi, hz0, hz1, hz2⟩ := info_parts info_u8
  refine wpList_append_own _ hgd s x 38 ho B 5 i0 (.int .u8 0) 1 1 Try.underlying38 hi hz0 hz1 hz2 rfl (by decide) (.slice A k c) k (byteCells f k) hs (World.ownsRow.alloc own _) ⟨w.heap.size, 0, none⟩ 1 1 [.int .u8 b] hx rfl (one_at _ _ _)
    (by intro u hu; simp at hu; subst hu; rfl) (by simp only [maxLen]; omega) (by omega) (by simp; omega) ?_
  intro v' w' h1 h2 _
  obtain ⟨A', c', rfl, hown'⟩ := Own.of_append (f := f) h1 (by rw [byteCells_snoc, hb])
  exact h A' c' w' hown' (own.keeps bel _ h2 hB) (Nat.le_trans (by simp; omega) h2.size)
end Ref
end Go.Proofs.Ytdhjgenijieeaaa

/-! from RefNum -/
namespace Go.Proofs.Ytdhjgenijieeaaa
namespace Ref
open Go.ChangeShapes Go.WideShapes Go.ChangeAt Go.RowKit
open Num Mem Words
theorem own_cap {w : World} {B t k c : Nat} {A : Option Addr} {f : Nat → Nat} (h : Own w B t A k c f) : k ≤ c := by
  rcases h.2 with ⟨e, h0⟩ | ⟨g, cap, cur, e, _, _, h1, _⟩
  · omega
  · injection e with _ _ e3
    subst e3
    exact h1
/-- what a trimmed row is -/
def TrimPost (w : World) (A : Option Addr) (n c : Nat) (f : Nat → Nat) (e : Ending) (w' : World) : Prop :=
  ∃ m, m ≤ n ∧ e = .returned (.slice A m c) ∧ le f 0 m = le f 0 n ∧ (m = 0 ∨ f (m - 1) ≠ 0) ∧ w = w'
def lenAt : Value → Nat
  | .slice _ n _ => n
  | _ => 0
/-- the sum of two rows: as many bytes as it takes, of a number -/
def SumPost (w : World) (S K : Nat) (e : Ending) (w' : World) : Prop :=
  ∃ A k c, e = .returned (.slice A k c) ∧ Own w' w.heap.size 5 A k c (byt S) ∧ S < 2 ^ (8 * k) ∧ k ≤ K ∧ Below w.heap.size w w'
/-- a number moved up by a byte -/
def shf (V i : Nat) : Nat := if i < 1 then 0 else byt V (i - 1)
theorem shf_lt (V i : Nat) : shf V i < 256 := by
  have := byt_lt V (i - 1)
  unfold shf
  split <;> omega
theorem le_shf (V L : Nat) (h : V < 2 ^ (8 * L)) : le (shf V) 0 (1 + L) = 256 * V := by
  rw [Nat.add_comm 1 L, le_front, show le (shf V) (0 + 1) L = le (byt V) 0 L from le_congr L fun i _ => by
    unfold shf
    rw [if_neg (by omega)]
    congr 1
    omega, le_byt V L h]
  show 256 * V + shf V 0 = 256 * V
  unfold shf
  rw [if_pos (by omega)]
  omega
/-- a product of two rows -/
def TimesPost (w : World) (V K : Nat) (e : Ending) (w' : World) : Prop :=
  ∃ A k c, e = .returned (.slice A k c) ∧ Rd w' A k (byt V) ∧ (A = none → k = 0 ∧ c = 0) ∧ le (byt V) 0 k = V ∧ (k = 0 ∨ byt V (k - 1) ≠ 0) ∧ k ≤ c ∧ k ≤ K ∧ Below w.heap.size w w'
theorem wrap_mul (u x y : Nat) (hu : u < 256) (hx : x < 256) (hy : y < 256) : wrap64 ((u : Int) + wrap64 ((x : Int) * (y : Int))) = ((u + x * y : Nat) : Int) := by
  have h : x * y ≤ 255 * 255 := Nat.mul_le_mul (by omega) (by omega)
  rw [show (x : Int) * (y : Int) = ((x * y : Nat) : Int) by rw [Int.natCast_mul]]
  unfold wrap64
  omega
end Ref
end Go.Proofs.Ytdhjgenijieeaaa
