/- 'aditlaw08.KdfKeys' returns true at every input and writes nothing that was there: the walk. The condition: the tables read as the program's text lays them. -/
import Derived.Test.YtljepgddmfelpaaDoorKdfJoins
namespace Go.Proofs.YtljepgddmfelpaaDoor
namespace Kdf
open Num Mem Words State Blake
theorem macF_pad {key key' T : Nat → Nat} {k k' N : Nat} (h : ∀ i, keyPad key k i = keyPad key' k' i) : macF key k T N = macF key' k' T N := by
  have e1 : inT key k T = inT key' k' T := funext fun i => by unfold inT; rw [h]
  unfold macF
  refine sum32_congr fun i _ => ?_
  unfold outT
  rw [h, e1]
theorem pad_sum (key : Nat → Nat) (k : Nat) (h : 64 < k) (i : Nat) : keyPad key k i = keyPad (sum32 key k) 32 i := by
  unfold keyPad
  rw [if_neg (show ¬ k ≤ 64 by omega), if_pos (show 32 ≤ 64 by omega)]
def padTo (key : Nat → Nat) (k i : Nat) : Nat := if i < k then key i else 0
theorem padTo_lt {key : Nat → Nat} (h : ∀ i, key i < 256) (k i : Nat) : padTo key k i < 256 := by
  unfold padTo
  split
  · exact h i
  · omega
theorem pad_more (key : Nat → Nat) (k j : Nat) (h : k + j ≤ 64) (i : Nat) : keyPad key k i = keyPad (padTo key k) (k + j) i := by
  unfold keyPad padTo
  rw [if_pos (show k ≤ 64 by omega), if_pos h]
  by_cases l : i < k
  · rw [if_pos l, if_pos (show i < k + j by omega)]
  · rw [if_neg l]
    split <;> rfl
end Kdf
namespace KdfKeys
open Go.ChangeShapes Go.WideShapes Go.ChangeAt Go.RowKit
open Num Mem Words State Chacha Quiet Blake Kdf

set_option maxRecDepth 100000 in
set_option maxHeartbeats 2000000 in
theorem run (A : Option Addr) (k c : Nat) (key : Nat → Nat) (hkey : ∀ i, key i < 256) (hkc : k ≤ c) (hkn : A = none → k = 0 ∧ c = 0) (A2 : Option Addr) (n c2 : Nat) (f : Nat → Nat) (hf : ∀ i, f i < 256) (hnc : n ≤ c2) (more : Int) (hk : k ≤ 300) (hn : n ≤ 2000) (hm : 0 ≤ more ∧ more ≤ 64) (w : World) (hL : Laid w) (hA : Rd w A k key) (hA2 : Rd w A2 n f) :
    Calls Tryd.prog 10 #[.slice A k c, .slice A2 n c2, .int .i64 more] w fun e w' => e = .returned (.bool true) ∧ Below w.heap.size w w' := by
  have d1 : decide ((300 : Int) < (k : Int)) = false := decide_eq_false (by omega)
  have d2 : decide ((2000 : Int) < (n : Int)) = false := decide_eq_false (by omega)
  have d3 : decide (more < (0 : Int)) = false := decide_eq_false (by omega)
  have d4 : decide ((64 : Int) < more) = false := decide_eq_false (by omega)
  obtain ⟨m, rfl⟩ : ∃ m : Nat, more = (m : Int) := ⟨more.toNat, by omega⟩
  obtain ⟨R, hR⟩ : ∃ R, macF key k f n = R := ⟨_, rfl⟩
  have lR : ∀ i, R i < 256 := fun i => by rw [← hR]; exact macF_lt _ _ _ _ _
  have EJ := Lib.hid (run_eql_arr (P := Tryd.prog) 27 5 32 Tryd.underlying27 Tryd.underlying5 size_u8 R R lR lR true (by simp))
  have CM := Lib.hid (mac_any A k c key hkey (by omega) hkc A2 n c2 f hf (by omega) hnc)
  have CS := Lib.hid (fun (h : 64 < k) (G : Nat) => mac_any (some ⟨G, 0, none⟩) 32 32 (sum32 key k) (sum32_lt key k) (by omega) (Nat.le_refl _) A2 n c2 f hf (by omega) hnc)
  have CL := Lib.hid (fun (j : Nat) (h : k + j ≤ 64) (A3 : Option Addr) (c3 : Nat) (h3 : k + j ≤ c3) => mac_any A3 (k + j) c3 (padTo key k) (padTo_lt hkey k) (by omega) h3 A2 n c2 f hf (by omega) hnc)
  have CV := Lib.hid (sum32_any A k c key hkey (by omega) hkc)
  have HPS := Lib.hid (show 64 < k → macF (sum32 key k) 32 f n = R from fun h => by rw [← hR]; exact (macF_pad (pad_sum key k h)).symm)
  have HPM := Lib.hid (show ∀ j, k + j ≤ 64 → macF (padTo key k) (k + j) f n = R from fun j h => by rw [← hR]; exact (macF_pad (pad_more key k j h)).symm)
  rw [hR] at CM
  have HV := Lib.hid (show digest 32 (fun _ => 0) 0 key k = sum32 key k from rfl)
  have HL := Lib.hid hL
  have HA := Lib.hid hA
  have HA2 := Lib.hid hA2
  have HKN := Lib.hid hkn
  have HK := Lib.hid hkey
  have HZ32 := Lib.hid (show ∀ f, (byteCells f 32).toArray.size = 32 from fun f => by rw [List.size_toArray, byteCells_length])
  have HT1 := Lib.hid (show ∀ i, i < 0 + k → padTo key k i = if i < 0 then (fun _ => 0) i else key (i - 0) from fun i hi => by unfold padTo; rw [if_pos (by omega), if_neg (by omega), Nat.sub_zero])
  have HT2 := Lib.hid (show ∀ j i, i < k + j + 1 → padTo key k i = if i < k + j then padTo key k i else (fun _ => 0) (i - (k + j)) from fun j i hi => by
    by_cases l : i < k + j
    · rw [if_pos l]
    · rw [if_neg l]
      unfold padTo
      rw [if_neg (by omega)])
  clear hR lR hkey hf hL hA hA2 hkn
  go_enter Tryd.func10, Tryd.ntmps10
  go_wp2_with fail
  refine (CM.out _ HL.out HA.out HA2.out).mono ?_
  rintro e w1 ⟨rfl, hb1⟩
  have hb2 := below_trans hb1 (below_setRow (below_alloc (Below.refl w1.heap.size w1) (.cells #[.int .u8 0, .int .u8 0, .int .u8 0, .int .u8 0, .int .u8 0, .int .u8 0, .int .u8 0, .int .u8 0, .int .u8 0, .int .u8 0, .int .u8 0, .int .u8 0, .int .u8 0, .int .u8 0, .int .u8 0, .int .u8 0, .int .u8 0, .int .u8 0, .int .u8 0, .int .u8 0, .int .u8 0, .int .u8 0, .int .u8 0, .int .u8 0, .int .u8 0, .int .u8 0, .int .u8 0, .int .u8 0, .int .u8 0, .int .u8 0, .int .u8 0, .int .u8 0] 27)) (Nat.le_refl _) (byteCells R 32).toArray)
  go_upto_region 4 with (refine wpList_store_row rfl 27 (.tmp 7) (.tmp 30) rfl w1.heap.size (byteCells R 32).toArray rfl rfl 27 _ (Whole.new _ _ _) (by rw [HZ32.out]; kernel_rfl) (by rw [HZ32.out]; rfl) (bytes_one _ _) ?_)
  try simp only [Act.put]
  refine cut_world (fun X => Whole X w1.heap.size 27 (byteCells R 32).toArray ∧ Laid X ∧ Below w.heap.size w X) ⟨setRow_heap _ _ _ _ _ _ (Whole.new _ _ _), laid_below HL.out hb2, hb2⟩ ?_
  have hG7 : w.heap.size ≤ w1.heap.size := hb1.size
  clear hb1 hb2
  generalize w1.heap.size = G7 at hG7 ⊢
  rintro W ⟨q1, ql, qb⟩
  have Q1 := Lib.hid q1
  have QL := Lib.hid ql
  have QB := Lib.hid qb
  have hl7 := q1.lt
  clear q1 ql qb
  by_cases h64 : 64 < k
  · have d5 : decide ((64 : Int) < (k : Int)) = true := decide_eq_true (by omega)
    go_wp2_with fail
    refine (CV.out _ QL.out (HA.out.below QB.out (Nat.le_refl _))).mono ?_
    rintro e w2 ⟨rfl, hb1⟩
    rw [HV.out]
    have hb2 := below_trans hb1 (below_setRow (below_alloc (Below.refl w2.heap.size w2) (.cells #[.int .u8 0, .int .u8 0, .int .u8 0, .int .u8 0, .int .u8 0, .int .u8 0, .int .u8 0, .int .u8 0, .int .u8 0, .int .u8 0, .int .u8 0, .int .u8 0, .int .u8 0, .int .u8 0, .int .u8 0, .int .u8 0, .int .u8 0, .int .u8 0, .int .u8 0, .int .u8 0, .int .u8 0, .int .u8 0, .int .u8 0, .int .u8 0, .int .u8 0, .int .u8 0, .int .u8 0, .int .u8 0, .int .u8 0, .int .u8 0, .int .u8 0, .int .u8 0] 27)) (Nat.le_refl _) (byteCells (sum32 key k) 32).toArray)
    go_upto_region 6 with (refine wpList_store_row rfl 27 (.tmp 8) (.tmp 35) rfl w2.heap.size (byteCells (sum32 key k) 32).toArray rfl rfl 27 _ (Whole.new _ _ _) (by rw [HZ32.out]; kernel_rfl) (by rw [HZ32.out]; rfl) (bytes_one _ _) ?_)
    try simp only [Act.put]
    refine cut_world (fun X => Whole X G7 27 (byteCells R 32).toArray ∧ Whole X w2.heap.size 27 (byteCells (sum32 key k) 32).toArray ∧ Laid X ∧ Below w.heap.size w X) ⟨Q1.out.below hb2 Q1.out.lt, setRow_heap _ _ _ _ _ _ (Whole.new _ _ _), laid_below QL.out hb2, below_trans QB.out hb2⟩ ?_
    clear hb1 hb2 Q1 QL QB hl7
    generalize w2.heap.size = G8
    rintro W2 ⟨q1, q2, ql, qb⟩
    have Q1 := Lib.hid q1
    have Q2 := Lib.hid q2
    have QL := Lib.hid ql
    have QB := Lib.hid qb
    clear q1 q2 ql qb
    have QA := Lib.hid (HA2.out.below QB.out (Nat.le_refl _))
    refine region_drew (fun X => Below W2.heap.size W2 X) (by kernel_rfl) (below_drewN (Below.refl _ _) 1) ?_
    intro hS
    refine alone 0 rfl (by kernel_rfl) (by rfl) ?_
    intro K hK
    go_simp
    refine (Kdf.alive_any _ (laid_below QL.out hS)).mono ?_
    rintro e v1 ⟨rfl, hb⟩
    go_simp
    have hS := below_trans (below_drewN (Below.refl _ W2) 1) hb
    refine hK.out _ _ hS ?_
    clear hK K hb
    try simp only [Act.put, List.setIfInBounds_toArray, List.set_cons_zero, List.set_cons_succ]
    refine take 1 _ rfl (by kernel_rfl) (by kernel_rfl) (by kernel_rfl) (fun _ _ _ h => h) (by rfl) hS (by intro w _; go_simp; try with_reducible rfl) ?_
    try simp only [Act.put, List.setIfInBounds_toArray, List.set_cons_zero, List.set_cons_succ]
    refine take 2 _ rfl (by kernel_rfl) (by kernel_rfl) (by kernel_rfl) (fun _ _ _ h => h) (by rfl) hS (fun w hw => run_load_op 27 (.tmp 7) rfl (G7) rfl (Q1.out.below hw Q1.out.lt) rfl rfl (by rw [HZ32.out]; kernel_rfl)) ?_
    try simp only [Act.put, List.setIfInBounds_toArray, List.set_cons_zero, List.set_cons_succ]
    refine take 3 _ rfl (by kernel_rfl) (by kernel_rfl) (by kernel_rfl) (fun _ _ _ h => h) (by rfl) hS (by intro w _; go_simp; try with_reducible rfl) ?_
    try simp only [Act.put, List.setIfInBounds_toArray, List.set_cons_zero, List.set_cons_succ]
    refine take 4 _ rfl (by kernel_rfl) (by kernel_rfl) (by kernel_rfl) (fun _ _ _ h => h) (by rfl) hS (by intro w _; go_simp; try with_reducible rfl) ?_
    try simp only [Act.put, List.setIfInBounds_toArray, List.set_cons_zero, List.set_cons_succ]
    refine alone 5 rfl (by kernel_rfl) (by rfl) ?_
    intro K hK
    go_simp
    refine (CS.out h64 G8 _ (laid_below QL.out hS) (Rd.of_whole (Q2.out.below hS Q2.out.lt)) (QA.out.below hS (Nat.le_refl _))).mono ?_
    rintro e v2 ⟨rfl, hb⟩
    rw [HPS.out h64]
    go_simp
    replace hS := below_trans hS hb
    refine hK.out _ _ hS ?_
    clear hK K hb
    try simp only [Act.put, List.setIfInBounds_toArray, List.set_cons_zero, List.set_cons_succ]
    refine take 6 _ rfl (by kernel_rfl) (by kernel_rfl) (by kernel_rfl) (fun _ _ _ h => h) (by rfl) hS (by intro w _; go_simp; simp only [EJ.out, Result.andThen_ok]; try with_reducible rfl) ?_
    try simp only [Act.put, List.setIfInBounds_toArray, List.set_cons_zero, List.set_cons_succ]
    refine take 7 _ rfl (by kernel_rfl) (by kernel_rfl) (by kernel_rfl) (fun _ _ _ h => h) (by rfl) hS (by intro w _; go_simp; try with_reducible rfl) ?_
    try simp only [Act.put, List.setIfInBounds_toArray, List.set_cons_zero, List.set_cons_succ]
    refine take 8 _ rfl (by kernel_rfl) (by kernel_rfl) (by kernel_rfl) (fun _ _ _ h => h) (by rfl) hS (by intro w _; go_simp; try with_reducible rfl) ?_
    try simp only [Act.put, List.setIfInBounds_toArray, List.set_cons_zero, List.set_cons_succ]
    refine region_end (by kernel_rfl) ?_
    have HB := Lib.hid (below_trans QB.out hS)
    go_wp2_with fail
    go_ret
    exact ⟨rfl, HB.out⟩
  · have d5 : decide ((64 : Int) < (k : Int)) = false := decide_eq_false (by omega)
    have QK := Lib.hid (HA.out.below QB.out (Nat.le_refl _))
    have hO : Own (W.alloc (.cells #[] 5)) W.heap.size 5 (some ⟨W.heap.size, 0, none⟩) 0 0 (fun _ => 0) := World.ownsRow_lit W #[] 0 (Nat.le_refl _) (by decide) rfl
    have HO := Lib.hid hO
    have HBN := Lib.hid (below_alloc (Below.refl W.heap.size W) (.cells #[] 5))
    have HSK := Lib.hid (src_rd (c := c) (QK.out.below HBN.out (Nat.le_refl _)) HKN.out)
    clear hO
    go_upto_region 8 with (refine wpList_catFrom (W := W) rfl (.tmp 44) (.tmp 45) 22 5 (.int .u8 0) 1 rfl byte_info rfl rfl rfl HO.out HBN.out HBN.out.size k c A rfl HSK.out (by omega) (by omega) HT1.out ?_; intro A3 c3 w3 hO3 hb3 _ _ _)
    have HO3 := Lib.hid hO3
    have HB3 := Lib.hid hb3
    clear hO3 hb3 HO HBN HSK
    rw [Nat.zero_add] at HO3
    go_wp2_with fail
    go_loopw [9, 10] (fun s i wr => ∃ (j : Nat) (A' : Option Addr) (c' : Nat), i = .int .i64 j ∧ s = .slice A' (k + j) c' ∧ j ≤ m ∧ k + j ≤ 64 ∧ Own wr W.heap.size 5 A' (k + j) c' (padTo key k) ∧ Below W.heap.size W wr) (fun _ i _ => m - (intOf i).toNat)
    case atStart => exact ⟨0, A3, c3, rfl, rfl, by omega, by omega, HO3.out, HB3.out⟩
    case round =>
      obtain ⟨j, A', c', rfl, rfl, hj, hkj, ho, hb⟩ := hrel
      clear HO3 HB3
      have HO := Lib.hid ho
      have HB := Lib.hid hb
      clear ho hb
      by_cases hjm : j < m
      · have dm : decide ((j : Int) < (m : Int)) = true := decide_eq_true (by omega)
        by_cases h6 : k + j < 64
        · have d6 : decide (((k + j : Nat) : Int) < (64 : Int)) = true := decide_eq_true (by omega)
          have d6' : decide ((k : Int) + (j : Int) < (64 : Int)) = true := decide_eq_true (by omega)
          have HBN := Lib.hid (HB.out.alloc HB.out.size (.cells #[.int .u8 0] 5))
          have HOA := Lib.hid (HO.out.alloc (.cells #[.int .u8 0] 5))
          have HSK := Lib.hid (src_rd (c := 1) (Rd.of_new (w := wr) (t := 5) (cs := #[.int .u8 0]) (f := fun _ => 0) (n := 1) rfl rfl) (fun h => by cases h))
          have jm : (j : Int) + 1 ≤ (m : Int) := by omega
          have m64 : (m : Int) ≤ 64 := by omega
          go_upto_region 10 with (refine wpList_catFrom (W := W) rfl (.tmp 57) (.tmp 58) 22 5 (.int .u8 0) 1 rfl byte_info rfl rfl rfl HOA.out HBN.out HBN.out.size 1 1 (some ⟨wr.heap.size, 0, none⟩) rfl HSK.out (by omega) (by omega) (HT2.out j) ?_; intro A4 c4 w4 hO4 hb4 _ _ _)
          have HO4 := Lib.hid hO4
          have HB4 := Lib.hid hb4
          clear hO4 hb4 HO HB HBN HOA HSK
          rw [Nat.add_assoc] at HO4 ⊢
          go_wp2_with fail
          go_roundw
          case rel => exact ⟨j + 1, A4, c4, by go_num, rfl, by omega, by omega, HO4.out, HB4.out⟩
          case measure => simp [intOf]; omega
        · have d6 : decide (((k + j : Nat) : Int) < (64 : Int)) = false := decide_eq_false (by omega)
          have d6' : decide ((k : Int) + (j : Int) < (64 : Int)) = false := decide_eq_false (by omega)
          have HOC := Lib.hid (HO.out.rd)
          have HCC := Own.le_cap HO.out
          go_wp2_with fail
          refine region_drew (fun X => Below wr.heap.size wr X) (by kernel_rfl) (below_drewN (Below.refl _ _) 1) ?_
          intro hS
          have QLw := Lib.hid (laid_below QL.out HB.out)
          have Q1w := Lib.hid (Q1.out.below HB.out hl7)
          have QAw := Lib.hid (HA2.out.below (below_trans QB.out HB.out) (Nat.le_refl _))
          refine alone 0 rfl (by kernel_rfl) (by rfl) ?_
          intro K hK
          go_simp
          refine (Kdf.alive_any _ (laid_below QLw.out hS)).mono ?_
          rintro e v1 ⟨rfl, hb⟩
          go_simp
          have hS := below_trans (below_drewN (Below.refl _ wr) 1) hb
          refine hK.out _ _ hS ?_
          clear hK K hb
          try simp only [Act.put, List.setIfInBounds_toArray, List.set_cons_zero, List.set_cons_succ]
          refine take 1 _ rfl (by kernel_rfl) (by kernel_rfl) (by kernel_rfl) (fun _ _ _ h => h) (by rfl) hS (by intro w _; go_simp; try with_reducible rfl) ?_
          try simp only [Act.put, List.setIfInBounds_toArray, List.set_cons_zero, List.set_cons_succ]
          refine take 2 _ rfl (by kernel_rfl) (by kernel_rfl) (by kernel_rfl) (fun _ _ _ h => h) (by rfl) hS (fun w hw => run_load_op 27 (.tmp 7) rfl (G7) rfl (Q1w.out.below hw Q1w.out.lt) rfl rfl (by rw [HZ32.out]; kernel_rfl)) ?_
          try simp only [Act.put, List.setIfInBounds_toArray, List.set_cons_zero, List.set_cons_succ]
          refine take 3 _ rfl (by kernel_rfl) (by kernel_rfl) (by kernel_rfl) (fun _ _ _ h => h) (by rfl) hS (by intro w _; go_simp; try with_reducible rfl) ?_
          try simp only [Act.put, List.setIfInBounds_toArray, List.set_cons_zero, List.set_cons_succ]
          refine take 4 _ rfl (by kernel_rfl) (by kernel_rfl) (by kernel_rfl) (fun _ _ _ h => h) (by rfl) hS (by intro w _; go_simp; try with_reducible rfl) ?_
          try simp only [Act.put, List.setIfInBounds_toArray, List.set_cons_zero, List.set_cons_succ]

          refine alone 5 rfl (by kernel_rfl) (by rfl) ?_
          intro K hK
          go_simp
          refine (CL.out j hkj A' c' HCC _ (laid_below QLw.out hS) (HOC.out.below hS (Nat.le_refl _)) (QAw.out.below hS (Nat.le_refl _))).mono ?_
          rintro e v2 ⟨rfl, hb⟩
          rw [HPM.out j hkj]
          go_simp
          replace hS := below_trans hS hb
          refine hK.out _ _ hS ?_
          clear hK K hb
          try simp only [Act.put, List.setIfInBounds_toArray, List.set_cons_zero, List.set_cons_succ]
          refine take 6 _ rfl (by kernel_rfl) (by kernel_rfl) (by kernel_rfl) (fun _ _ _ h => h) (by rfl) hS (by intro w _; go_simp; simp only [EJ.out, Result.andThen_ok]; try with_reducible rfl) ?_
          try simp only [Act.put, List.setIfInBounds_toArray, List.set_cons_zero, List.set_cons_succ]
          refine take 7 _ rfl (by kernel_rfl) (by kernel_rfl) (by kernel_rfl) (fun _ _ _ h => h) (by rfl) hS (by intro w _; go_simp; try with_reducible rfl) ?_
          try simp only [Act.put, List.setIfInBounds_toArray, List.set_cons_zero, List.set_cons_succ]
          refine take 8 _ rfl (by kernel_rfl) (by kernel_rfl) (by kernel_rfl) (fun _ _ _ h => h) (by rfl) hS (by intro w _; go_simp; try with_reducible rfl) ?_
          try simp only [Act.put, List.setIfInBounds_toArray, List.set_cons_zero, List.set_cons_succ]

          refine region_end (by kernel_rfl) ?_
          have HBF := Lib.hid (below_trans (below_trans QB.out HB.out) hS)
          go_wp2_with fail
          go_ret
          exact ⟨rfl, HBF.out⟩
      · have dm : decide ((j : Int) < (m : Int)) = false := decide_eq_false (by omega)
        have HOC := Lib.hid (HO.out.rd)
        have HCC := Own.le_cap HO.out
        go_wp2_with fail
        refine region_drew (fun X => Below wr.heap.size wr X) (by kernel_rfl) (below_drewN (Below.refl _ _) 1) ?_
        intro hS
        have QLw := Lib.hid (laid_below QL.out HB.out)
        have Q1w := Lib.hid (Q1.out.below HB.out hl7)
        have QAw := Lib.hid (HA2.out.below (below_trans QB.out HB.out) (Nat.le_refl _))
        refine alone 0 rfl (by kernel_rfl) (by rfl) ?_
        intro K hK
        go_simp
        refine (Kdf.alive_any _ (laid_below QLw.out hS)).mono ?_
        rintro e v1 ⟨rfl, hb⟩
        go_simp
        have hS := below_trans (below_drewN (Below.refl _ wr) 1) hb
        refine hK.out _ _ hS ?_
        clear hK K hb
        try simp only [Act.put, List.setIfInBounds_toArray, List.set_cons_zero, List.set_cons_succ]
        refine take 1 _ rfl (by kernel_rfl) (by kernel_rfl) (by kernel_rfl) (fun _ _ _ h => h) (by rfl) hS (by intro w _; go_simp; try with_reducible rfl) ?_
        try simp only [Act.put, List.setIfInBounds_toArray, List.set_cons_zero, List.set_cons_succ]
        refine take 2 _ rfl (by kernel_rfl) (by kernel_rfl) (by kernel_rfl) (fun _ _ _ h => h) (by rfl) hS (fun w hw => run_load_op 27 (.tmp 7) rfl (G7) rfl (Q1w.out.below hw Q1w.out.lt) rfl rfl (by rw [HZ32.out]; kernel_rfl)) ?_
        try simp only [Act.put, List.setIfInBounds_toArray, List.set_cons_zero, List.set_cons_succ]
        refine take 3 _ rfl (by kernel_rfl) (by kernel_rfl) (by kernel_rfl) (fun _ _ _ h => h) (by rfl) hS (by intro w _; go_simp; try with_reducible rfl) ?_
        try simp only [Act.put, List.setIfInBounds_toArray, List.set_cons_zero, List.set_cons_succ]
        refine take 4 _ rfl (by kernel_rfl) (by kernel_rfl) (by kernel_rfl) (fun _ _ _ h => h) (by rfl) hS (by intro w _; go_simp; try with_reducible rfl) ?_
        try simp only [Act.put, List.setIfInBounds_toArray, List.set_cons_zero, List.set_cons_succ]

        refine alone 5 rfl (by kernel_rfl) (by rfl) ?_
        intro K hK
        go_simp
        refine (CL.out j hkj A' c' HCC _ (laid_below QLw.out hS) (HOC.out.below hS (Nat.le_refl _)) (QAw.out.below hS (Nat.le_refl _))).mono ?_
        rintro e v2 ⟨rfl, hb⟩
        rw [HPM.out j hkj]
        go_simp
        replace hS := below_trans hS hb
        refine hK.out _ _ hS ?_
        clear hK K hb
        try simp only [Act.put, List.setIfInBounds_toArray, List.set_cons_zero, List.set_cons_succ]
        refine take 6 _ rfl (by kernel_rfl) (by kernel_rfl) (by kernel_rfl) (fun _ _ _ h => h) (by rfl) hS (by intro w _; go_simp; simp only [EJ.out, Result.andThen_ok]; try with_reducible rfl) ?_
        try simp only [Act.put, List.setIfInBounds_toArray, List.set_cons_zero, List.set_cons_succ]
        refine take 7 _ rfl (by kernel_rfl) (by kernel_rfl) (by kernel_rfl) (fun _ _ _ h => h) (by rfl) hS (by intro w _; go_simp; try with_reducible rfl) ?_
        try simp only [Act.put, List.setIfInBounds_toArray, List.set_cons_zero, List.set_cons_succ]
        refine take 8 _ rfl (by kernel_rfl) (by kernel_rfl) (by kernel_rfl) (fun _ _ _ h => h) (by rfl) hS (by intro w _; go_simp; try with_reducible rfl) ?_
        try simp only [Act.put, List.setIfInBounds_toArray, List.set_cons_zero, List.set_cons_succ]

        refine region_end (by kernel_rfl) ?_
        have HBF := Lib.hid (below_trans (below_trans QB.out HB.out) hS)
        go_wp2_with fail
        go_ret
        exact ⟨rfl, HBF.out⟩

theorem walk (A : Option Addr) (k c : Nat) (ks : List Int) (A2 : Option Addr) (n c2 : Nat) (zs : List Int) (more : Int) (w : World) (hL : Laid w) (h1 : IsRow .u8 w A k c ks) (h2 : IsRow .u8 w A2 n c2 zs) (_ : (Lit.int .i64 more).wf = true) :
    Calls Tryd.prog 10 #[.slice A k c, .slice A2 n c2, .int .i64 more] w fun e w' => e = .returned (.bool true) ∧ Below w.heap.size w w' := by
  obtain ⟨key, hkey, hA, hkc, hkn⟩ := row_src h1
  obtain ⟨f, hf, hA2, hnc, _⟩ := row_src h2
  by_cases h : k ≤ 300 ∧ n ≤ 2000 ∧ 0 ≤ more ∧ more ≤ 64
  · exact run A k c key hkey hkc hkn A2 n c2 f hf hnc more h.1 h.2.1 h.2.2 w hL hA hA2
  · have HL := Lib.hid hL
    clear h1 h2 hA hA2 hL hkn hkey hf
    by_cases e1 : 300 < k
    · have d1 : decide ((300 : Int) < (k : Int)) = true := decide_eq_true (by omega)
      clear h
      go_enter Tryd.func10, Tryd.ntmps10
      go_wp2_with fail
      refine (Kdf.alive_any _ HL.out).mono ?_
      rintro e w1 ⟨rfl, hb⟩
      go_wp2_with fail
      go_ret
      exact ⟨rfl, hb⟩
    have d1 : decide ((300 : Int) < (k : Int)) = false := decide_eq_false (by omega)
    by_cases e2 : 2000 < n
    · have d2 : decide ((2000 : Int) < (n : Int)) = true := decide_eq_true (by omega)
      clear h
      go_enter Tryd.func10, Tryd.ntmps10
      go_wp2_with fail
      refine (Kdf.alive_any _ HL.out).mono ?_
      rintro e w1 ⟨rfl, hb⟩
      go_wp2_with fail
      go_ret
      exact ⟨rfl, hb⟩
    have d2 : decide ((2000 : Int) < (n : Int)) = false := decide_eq_false (by omega)
    by_cases e3 : more < 0
    · have d3 : decide (more < (0 : Int)) = true := decide_eq_true e3
      clear h
      go_enter Tryd.func10, Tryd.ntmps10
      go_wp2_with fail
      refine (Kdf.alive_any _ HL.out).mono ?_
      rintro e w1 ⟨rfl, hb⟩
      go_wp2_with fail
      go_ret
      exact ⟨rfl, hb⟩
    · have d3 : decide (more < (0 : Int)) = false := decide_eq_false e3
      have d4 : decide ((64 : Int) < more) = true := decide_eq_true (by omega)
      clear h
      go_enter Tryd.func10, Tryd.ntmps10
      go_wp2_with fail
      refine (Kdf.alive_any _ HL.out).mono ?_
      rintro e w1 ⟨rfl, hb⟩
      go_wp2_with fail
      go_ret
      exact ⟨rfl, hb⟩

end KdfKeys
end Go.Proofs.YtljepgddmfelpaaDoor
