/- The calls pass and carry of package poly, on numbers of five limbs. -/
import Derived.Test.YtdffbjlbhjppeaaPolyNum
import Derived.Test.YtdffbjlbhjppeaaFirst
import Derived.Deep.MidRow
import Derived.Deep.Cut
namespace Go.Proofs.Ytdffbjlbhjppeaa
namespace Mem
open Go.RowKit

/-- the cells of a row of numbers of 64 digits -/
def qcells (f : Nat → Nat) (n : Nat) : List Value := (List.range n).map fun i => .int .u64 (f i : Nat)
theorem qcells_lit5 (f : Nat → Nat) : (qcells f 5).toArray = #[.int .u64 (f 0 : Nat), .int .u64 (f 1 : Nat), .int .u64 (f 2 : Nat), .int .u64 (f 3 : Nat), .int .u64 (f 4 : Nat)] := rfl
theorem qcells_lit10 (f : Nat → Nat) : (qcells f 10).toArray = #[.int .u64 (f 0 : Nat), .int .u64 (f 1 : Nat), .int .u64 (f 2 : Nat), .int .u64 (f 3 : Nat), .int .u64 (f 4 : Nat), .int .u64 (f 5 : Nat), .int .u64 (f 6 : Nat), .int .u64 (f 7 : Nat), .int .u64 (f 8 : Nat), .int .u64 (f 9 : Nat)] := rfl
theorem qcells_get (f : Nat → Nat) (n i : Nat) (h : i < n) : (qcells f n)[i]? = some (.int .u64 (f i : Nat)) := by
  simp [qcells, h]
theorem qcells_length (f : Nat → Nat) (n : Nat) : (qcells f n).length = n := by simp [qcells]
theorem qcells_congr {f g : Nat → Nat} {n : Nat} (h : ∀ i, i < n → f i = g i) : qcells f n = qcells g n := by
  unfold qcells
  exact List.map_congr_left fun i hi => by rw [h i (List.mem_range.1 hi)]
theorem qcells_set (f : Nat → Nat) (n j v : Nat) : (qcells f n).toArray.setIfInBounds j (.int .u64 (v : Nat)) = (qcells (fun i => if i = j then v else f i) n).toArray := by
  apply Array.ext_getElem?
  intro i
  rw [Array.getElem?_setIfInBounds]
  by_cases hi : i < n
  · by_cases hj : j = i
    · subst hj
      simp [qcells, hi]
    · have : ¬ i = j := fun e => hj e.symm
      simp [qcells, hi, hj, this]
  · simp [qcells, hi]
    omega
theorem qcells_one (f : Nat → Nat) (n : Nat) : (qcells f n).toArray.all (·.oneCell') = true := by
  simp [qcells, Value.oneCell']
theorem qcells_size (f : Nat → Nat) (n : Nat) : (qcells f n).toArray.size = n := by rw [List.size_toArray, qcells_length]
theorem Whole.num {w : World} {g n : Nat} {t : TypeId} {f : Nat → Nat} (h : Whole w g t (qcells f n).toArray) (i : Nat) (hi : i < n) : w.cell? ⟨g, i, none⟩ = some (.int .u64 (f i : Nat)) := by
  rw [h.cell, List.getElem?_toArray, qcells_get f n i hi]
end Mem

namespace Poly
open Go.ChangeShapes Go.WideShapes Go.ChangeAt Go.RowKit
open Num Mem Words PolyN Chacha

theorem and26 (v : Nat) (hv : v < 18446744073709551616) : bits .and .u64 (v : Int) 67108863 = ((v % 67108864 : Nat) : Int) := by
  have h := u64_and_nat v 67108863 hv (by omega)
  rw [show (67108863 : Nat) = 2 ^ 26 - 1 from rfl, Nat.and_two_pow_sub_one_eq_mod] at h
  exact h

theorem whole_range {w : World} {g : Nat} {t : TypeId} {cs : List Value} (h : Whole w g t cs.toArray) : w.rangeAt g 0 cs := by
  intro j v hj
  rw [Nat.zero_add, h.cell, List.getElem?_toArray, hj]

theorem results_cell_tmp {fn : Func} {p u : Tmp} {ty : TypeId} {P : Program} (h : fn.results = #[.cell p ty, .tmp u]) (tmps : Array Value) (w : World) (g : Nat) (t : TypeId) (cs : List Value) (d : TypeDesc)
    (hp : tmps.getD p undef = .pointer (some ⟨g, 0, none⟩)) (hg : Whole w g t cs.toArray)
    (hu : P.underlying ty = some d) (hd : d.isRow = true) (hi : (P.info? ty).map (·.size) = some cs.length) :
    (results fn tmps).run P w = .ok (.tuple #[.agg cs.toArray, tmps.getD u undef]) w := by
  have hp' : tmps[p]?.getD undef = .pointer (some ⟨g, 0, none⟩) := by simpa using hp
  simp [results, h, hp', asAddr, run_loadVar_mid w g 0 ty cs d (whole_range hg) hu hd hi]

theorem pc_small (a : Nat → Nat) (over : Nat) (ha : ∀ i, i < 5 → a i < 4611686018427387904) (ho : over < 4611686018427387904) (k : Nat) (hk : k ≤ 5) : pc a over k < 4611686018427387904 := by
  induction k with
  | zero => exact ho
  | succ k ih =>
    have h1 := ih (by omega)
    have h2 := ha k (by omega)
    rw [pc]
    omega

set_option maxRecDepth 100000 in
theorem pass_any (a : Nat → Nat) (over : Nat) (ha : ∀ i, i < 5 → a i < 4611686018427387904) (ho : over < 4611686018427387904) (w : World) :
    Calls Try.prog 67 #[.agg (qcells a 5).toArray, .int .u64 over] w fun e w' => e = .returned (.tuple #[.agg (qcells (po a over) 5).toArray, .int .u64 (pc a over 5 : Nat)]) ∧ Below w.heap.size w w' := by
  have HA := Lib.hid ha
  have HP := Lib.hid (pc_small a over ha ho)
  clear ha
  rw [qcells_lit5]
  go_enter Try.func67, Try.ntmps67
  go_wp2_with fail
  refine cut_world (fun W => Whole W w.heap.size 61 (qcells a 5).toArray ∧ Whole W (w.heap.size + 1) 61 (qcells (fun _ => 0) 5).toArray ∧ Below w.heap.size w W) ⟨?_, ?_, ?_⟩ ?_
  · rw [qcells_lit5]
    exact (whole_new _ _ rfl).alloc _
  · exact whole_new _ _ (by simp)
  · exact below_alloc (below_alloc (Below.refl _ _) _) _
  rintro W ⟨k1, k2, kb⟩
  have K1 := Lib.hid k1
  have K2 := Lib.hid k2
  have KB := Lib.hid kb
  clear k1 k2 kb
  generalize hB : w.heap.size = B at K1 K2 KB ⊢
  go_loopw [1, 7] (fun o i wr => ∃ k : Nat, k ≤ 5 ∧ i = .int .i64 k ∧ o = .int .u64 (pc a over k : Nat) ∧ Whole wr B 61 (qcells (fun i => if i < k then po a over i else a i) 5).toArray ∧ Whole wr (B + 1) 61 (qcells (fun _ => 0) 5).toArray ∧ Below B w wr) (fun _ i _ => 5 - (intOf i).toNat)
  case atStart => exact ⟨0, by omega, rfl, rfl, K1.out, K2.out, KB.out⟩
  case round =>
    obtain ⟨k, hk, rfl, rfl, q1, q2, qb⟩ := hrel
    have Q1 := Lib.hid q1
    have Q2 := Lib.hid q2
    have QB := Lib.hid qb
    by_cases hlt : k < 5
    · have c1 := q1.num k hlt
      have f1 := q1.free k
      rw [if_neg (Nat.lt_irrefl k)] at c1
      have a1 := HA.out k hlt
      have p1 := HP.out k hk
      have HN := Lib.hid (show pc a over (k + 1) = (a k + pc a over k) / 67108864 from rfl)
      have HO := Lib.hid (show po a over k = (a k + pc a over k) % 67108864 from rfl)
      have HS := Lib.hid (show ((a k : Nat) : Int) + ((pc a over k : Nat) : Int) = ((a k + pc a over k : Nat) : Int) by omega)
      have s1 : a k + pc a over k < 9223372036854775808 := by omega
      generalize hs : a k + pc a over k = s at HN HO HS s1
      have HSS := Lib.hid hs
      have hand := and26 s (by omega)
      clear q1 q2 qb hs
      go_wp2_with fail
      go_roundw
      case rel =>
        rw [HS.out, hand]
        refine ⟨k + 1, by omega, by go_num, by rw [HN.out]; rfl, ?_, (Q2.out.far (by simp) _).far (by simp) _, (QB.out.setCell (by simp) _).setCell (by simp) _⟩
        have h := (Q1.out.put k (.int .u64 (s : Nat))).put k (.int .u64 ((s % 67108864 : Nat) : Int))
        rw [qcells_set, qcells_set, qcells_congr (g := fun i => if i < k + 1 then po a over i else a i) (fun i hi => ?_)] at h
        · exact h
        · by_cases e : i = k
          · subst e
            rw [if_pos rfl, if_pos (by omega), HO.out]
          · rw [if_neg e, if_neg e]
            by_cases l : i < k
            · rw [if_pos l, if_pos (by omega)]
            · rw [if_neg l, if_neg (by omega)]
      case measure => simp [intOf]; omega
    · obtain rfl : k = 5 := by omega
      have hz := Lib.hid (qcells_congr (f := fun i => if i < 5 then po a over i else a i) (g := po a over) (n := 5) (fun i hi => if_pos hi))
      rw [hz.out] at q1
      have Q1' := Lib.hid q1
      clear q1 q2 qb Q1
      go_wp2_with (first | (refine wpList_load_row rfl 61 (.tmp 2) rfl B rfl 61 (qcells (po a over) 5).toArray (0, 0) _ Q1'.out rfl rfl (by rw [qcells_size]; kernel_rfl) ?_) | (refine wpList_store_row rfl 61 (.tmp 4) (.tmp 26) rfl (B + 1) (qcells (po a over) 5).toArray rfl rfl 61 _ Q2.out (by rw [qcells_size]; kernel_rfl) (by rw [qcells_size, qcells_size]) (qcells_one _ _) ?_))
      have hret : Whole (wr.setRow (B + 1) (qcells (po a over) 5).toArray) (B + 1) 61 (qcells (po a over) 5).toArray := setRow_heap wr _ _ _ _ _ Q2.out
      refine bodyPost_ret (results_cell_tmp rfl _ _ (B + 1) 61 _ _ rfl hret rfl rfl (by rw [qcells_length]; kernel_rfl)) rfl ?_
      exact ⟨rfl, by rw [hB]; exact below_setRow QB.out (by omega) _⟩

theorem ca_fits (a : Nat → Nat) (ha : ∀ i, i < 5 → a i < 4611686018427387904) : po a 0 0 + 5 * pc a 0 5 < 4611686018427387904 := by
  have := (ca_wide a ha).1 0 (by omega)
  unfold ca at this
  rw [if_pos rfl] at this
  omega

set_option maxRecDepth 100000 in
theorem carry_any (a : Nat → Nat) (ha : ∀ i, i < 5 → a i < 4611686018427387904) (w : World) :
    Calls Try.prog 66 #[.agg (qcells a 5).toArray] w fun e w' => e = .returned (.agg (qcells (ca a) 5).toArray) ∧ Below w.heap.size w w' := by
  have HA := Lib.hid ha
  have hp := po_lt a 0 0
  have hc : 5 * pc a 0 5 < 4611686018427387904 := by have := ca_fits a ha; omega
  have HC := Lib.hid (show ca a = fun i => if i = 0 then po a 0 0 + 5 * pc a 0 5 else po a 0 i from rfl)
  clear ha
  rw [qcells_lit5]
  go_enter Try.func66, Try.ntmps66
  go_upto_region 1 with fail
  refine cut_world (fun W => Whole W w.heap.size 61 (qcells a 5).toArray ∧ Whole W (w.heap.size + 1) 61 (qcells (fun _ => 0) 5).toArray ∧ Below w.heap.size w W) ⟨?_, ?_, ?_⟩ ?_
  · rw [qcells_lit5]
    exact (whole_new _ _ rfl).alloc _
  · exact whole_new _ _ (by simp)
  · exact below_alloc (below_alloc (Below.refl _ _) _) _
  rintro W ⟨k1, k2, kb⟩
  have K1 := Lib.hid k1
  have K2 := Lib.hid k2
  have KB := Lib.hid kb
  have hb1 := k1.lt
  clear k1 k2 kb
  generalize hB : w.heap.size = B at K1 K2 KB hb1 ⊢
  go_wp2_with (refine wpList_load_row rfl 61 (.tmp 1) rfl B rfl 61 (qcells a 5).toArray (0, 0) _ K1.out rfl rfl (by rw [qcells_size]; kernel_rfl) ?_)
  refine (pass_any a 0 HA.out (by omega) _).mono ?_
  rintro e w1 ⟨rfl, hb⟩
  have L1 := Lib.hid (K1.out.below hb K1.out.lt)
  have L2 := Lib.hid (K2.out.below hb K2.out.lt)
  have LB := Lib.hid (KB.out.trans (hb.mono (by omega)))
  clear hb K1 K2 KB
  go_upto_region 2 with (refine wpList_store_row rfl 61 (.tmp 1) (.tmp 7) rfl B (qcells (po a 0) 5).toArray rfl rfl 61 _ L1.out (by rw [qcells_size]; kernel_rfl) (by rw [qcells_size, qcells_size]) (qcells_one _ _) ?_)
  refine cut_world (fun W => Whole W B 61 (qcells (po a 0) 5).toArray ∧ Whole W (B + 1) 61 (qcells (fun _ => 0) 5).toArray ∧ Below B w W) ⟨?_, ?_, ?_⟩ ?_
  · exact setRow_heap w1 _ _ _ _ _ L1.out
  · exact (setRow_other w1 B (B + 1) _ (by omega)).trans L2.out
  · exact below_setRow LB.out (by omega) _
  rintro W2 ⟨k1, k2, kb⟩
  have c1 := k1.num 0 (by omega)
  have f1 := k1.free 0
  have K1 := Lib.hid k1
  have K2 := Lib.hid k2
  have KB := Lib.hid kb
  clear k1 k2 kb L1 L2 LB
  have HS := Lib.hid (show ((po a 0 0 : Nat) : Int) + 5 * ((pc a 0 5 : Nat) : Int) = ((po a 0 0 + 5 * pc a 0 5 : Nat) : Int) by omega)
  have hput := K1.out.put 0 (.int .u64 (po a 0 0 + 5 * pc a 0 5 : Nat))
  rw [qcells_set, ← HC.out] at hput
  have HPUT := Lib.hid hput
  clear hput
  go_upto_region 3 with fail
  rw [HS.out]
  refine cut_world (fun W => Whole W B 61 (qcells (ca a) 5).toArray ∧ Whole W (B + 1) 61 (qcells (fun _ => 0) 5).toArray ∧ Below B w W) ⟨HPUT.out, K2.out.far (by simp) _, KB.out.setCell (by simp) _⟩ ?_
  clear K1 K2 KB HPUT c1 f1
  rintro W3 ⟨k1, k2, kb⟩
  have K1 := Lib.hid k1
  have K2 := Lib.hid k2
  have KB := Lib.hid kb
  clear k1 k2 kb
  go_wp2_with (first | (refine wpList_load_row rfl 61 (.tmp 1) rfl B rfl 61 (qcells (ca a) 5).toArray (0, 0) _ K1.out rfl rfl (by rw [qcells_size]; kernel_rfl) ?_) | (refine wpList_store_row rfl 61 (.tmp 2) (.tmp 15) rfl (B + 1) (qcells (ca a) 5).toArray rfl rfl 61 _ K2.out (by rw [qcells_size]; kernel_rfl) (by rw [qcells_size, qcells_size]) (qcells_one _ _) ?_))
  have hret : Whole (W3.setRow (B + 1) (qcells (ca a) 5).toArray) (B + 1) 61 (qcells (ca a) 5).toArray := setRow_heap W3 _ _ _ _ _ K2.out
  refine bodyPost_ret (results_cell_row rfl _ _ (B + 1) 61 _ (0, 0) _ rfl hret rfl rfl (by rw [qcells_size]; kernel_rfl)) rfl ?_
  exact ⟨rfl, by rw [hB]; exact below_setRow KB.out (by omega) _⟩

end Poly
end Go.Proofs.Ytdffbjlbhjppeaa
