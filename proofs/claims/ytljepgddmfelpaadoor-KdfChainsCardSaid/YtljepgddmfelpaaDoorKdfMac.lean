/- The calls Mac, Join and chain of package kdf. -/
import Derived.Test.YtljepgddmfelpaaDoorKdfMark
namespace Go.Proofs.YtljepgddmfelpaaDoor
namespace Kdf
open Go.ChangeShapes Go.WideShapes Go.ChangeAt Go.RowKit
open Num Mem Words State Chacha Quiet Blake

theorem keyPad_congr {key key' : Nat → Nat} {k : Nat} (h : ∀ i, i < k → key i = key' i) (i : Nat) : keyPad key k i = keyPad key' k i := by
  unfold keyPad
  by_cases h1 : k ≤ 64
  · rw [if_pos h1, if_pos h1]
    by_cases h2 : i < k
    · rw [if_pos h2, if_pos h2, h i h2]
    · rw [if_neg h2, if_neg h2]
  · rw [if_neg h1, if_neg h1, sum32_congr h]
theorem macF_congr {key key' T U : Nat → Nat} {k N : Nat} (hk : ∀ i, i < k → key i = key' i) (h : ∀ i, i < N → T i = U i) : macF key k T N = macF key' k U N := by
  have e1 : sum32 (inT key k T) (64 + N) = sum32 (inT key' k U) (64 + N) := sum32_congr fun i hi => by
    unfold inT
    rw [keyPad_congr hk]
    by_cases l : i < 64
    · rw [if_pos l, if_pos l]
    · rw [if_neg l, if_neg l, h _ (by omega)]
  unfold macF
  refine sum32_congr fun i _ => ?_
  unfold outT
  rw [keyPad_congr hk, e1]

/-- a row of parts that has just been laid -/
theorem parts_new {w : World} {l : List Part} (hl : l.length ≤ 10) (hcap : ∀ (j : Nat) (p : Part), l[j]? = some p → p.m ≤ p.c) (hrd : ∀ (j : Nat) (p : Part), l[j]? = some p → Rd w p.A p.m p.f) (hby : ∀ (j : Nat) (p : Part), l[j]? = some p → ∀ i, p.f i < 256) :
    PartsAt (w.alloc (.cells (l.map Part.val).toArray 22)) w.heap.size 0 l :=
  parts_of_own (B := 0) (c := l.length) (by
    have h := World.ownsRow_lit (base := 0) (e := 22) (size := 1) w (l.map Part.val).toArray l.length (Nat.zero_le _) (by simp only [maxLen]; omega) (by simp)
    simpa using h) (by simp) hcap (fun j p hj => (hrd j p hj).below (below_alloc (Below.refl _ _) _) (Nat.le_refl _)) hby

theorem parts_one {w : World} (p : Part) (h1 : p.m ≤ p.c) (h2 : Rd w p.A p.m p.f) (h3 : ∀ i, p.f i < 256) : PartsAt (w.alloc (.cells #[p.val] 22)) w.heap.size 0 [p] := by
  refine parts_new (l := [p]) (by simp) (fun j q hj => ?_) (fun j q hj => ?_) (fun j q hj => ?_)
  all_goals
    rcases j with _ | j
    · simp at hj
      subst hj
      assumption
    · simp at hj
theorem parts_two {w : World} (p p' : Part) (h1 : p.m ≤ p.c) (h2 : Rd w p.A p.m p.f) (h3 : ∀ i, p.f i < 256) (k1 : p'.m ≤ p'.c) (k2 : Rd w p'.A p'.m p'.f) (k3 : ∀ i, p'.f i < 256) : PartsAt (w.alloc (.cells #[p.val, p'.val] 22)) w.heap.size 0 [p, p'] := by
  refine parts_new (l := [p, p']) (by simp) (fun j q hj => ?_) (fun j q hj => ?_) (fun j q hj => ?_)
  all_goals
    rcases j with _ | _ | j
    · simp at hj
      subst hj
      assumption
    · simp at hj
      subst hj
      assumption
    · simp at hj

set_option maxRecDepth 100000 in
set_option maxHeartbeats 1000000 in
theorem mac_any (A : Option Addr) (k c : Nat) (key : Nat → Nat) (hkey : ∀ i, key i < 256) (hk : k ≤ 10000000) (hkc : k ≤ c) (A2 : Option Addr) (n c2 : Nat) (f : Nat → Nat) (hf : ∀ i, f i < 256) (hn : n ≤ 10000000) (hnc : n ≤ c2) (w : World) (hL : Laid w) (hA : Rd w A k key) (hA2 : Rd w A2 n f) :
    Calls Tryd.prog 21 #[.slice A k c, .slice A2 n c2] w fun e w' => e = .returned (.agg (byteCells (macF key k f n) 32).toArray) ∧ Below w.heap.size w w' := by
  have HL := Lib.hid hL
  have HA := Lib.hid hA
  have HA2 := Lib.hid hA2
  have HK := Lib.hid hkey
  have HF := Lib.hid hf
  have HZ32 := Lib.hid (show ∀ f, (byteCells f 32).toArray.size = 32 from fun f => by rw [List.size_toArray, byteCells_length])
  have HE := Lib.hid (show macF key k (textOf [⟨A2, n, c2, f⟩]) (lenAll [⟨A2, n, c2, f⟩]) = macF key k f n from by
    rw [show lenAll [⟨A2, n, c2, f⟩] = n by simp [lenAll]]
    exact macF_congr (fun _ _ => rfl) fun i hi => if_pos hi)
  clear hL hA hA2 hkey hf
  go_enter Tryd.func21, Tryd.ntmps21
  go_upto_region 1 with fail
  refine cut_world (fun X => Whole X w.heap.size 27 (byteCells (fun _ => 0) 32).toArray ∧ Laid X ∧ Below w.heap.size w X) ⟨whole_new _ _ rfl, laid_alloc HL.out _, below_alloc (Below.refl _ _) _⟩ ?_
  rintro W ⟨q1, ql, qb⟩
  have Q1 := Lib.hid q1
  have QL := Lib.hid ql
  have QB := Lib.hid qb
  have hl1 := q1.lt
  clear q1 ql qb
  have hbN : Below W.heap.size W (W.alloc (.cells #[.slice A2 n c2] 22)) := below_alloc (Below.refl _ _) _
  have HPA := Lib.hid (show PartsAt (W.alloc (.cells #[.slice A2 n c2] 22)) W.heap.size 0 [⟨A2, n, c2, f⟩] from parts_one ⟨A2, n, c2, f⟩ hnc (HA2.out.below QB.out (Nat.le_refl _)) HF.out)
  have HLN := Lib.hid (laid_below QL.out hbN)
  have HAN := Lib.hid (HA.out.below (QB.out.trans (hbN.mono (by omega))) (Nat.le_refl _))
  have HQ1 := Lib.hid (Q1.out.below hbN hl1)
  have HBN := Lib.hid (QB.out.trans (hbN.mono (by omega)))
  clear hbN Q1 QL QB HA HA2 HL
  go_wp2_with fail
  refine (mark_any A k c key HK.out hk hkc W.heap.size 0 1 [⟨A2, n, c2, f⟩] (by simp) (by simp [lenAll]; omega) _ HLN.out HAN.out HPA.out).mono ?_
  rintro e w3 ⟨rfl, hb3⟩
  rw [HE.out]
  have R1 := Lib.hid (HQ1.out.below hb3 HQ1.out.lt)
  have RB := Lib.hid (HBN.out.trans (hb3.mono (Nat.le_of_lt HQ1.out.lt)))
  clear hb3 HQ1 HBN HLN HAN HPA
  generalize hR : macF key k f n = R
  have HR := Lib.hid hR
  clear hR
  go_wp2_with (refine wpList_store_row rfl 27 (.tmp 4) (.tmp 8) rfl w.heap.size (byteCells R 32).toArray rfl rfl 27 _ R1.out (by rw [HZ32.out]; kernel_rfl) (by rw [HZ32.out, HZ32.out]) (bytes_one _ _) ?_)
  have hret : Whole (w3.setRow w.heap.size (byteCells R 32).toArray) w.heap.size 27 (byteCells R 32).toArray := setRow_heap w3 _ _ _ _ _ R1.out
  refine bodyPost_ret (results_cell_row rfl _ _ w.heap.size 27 _ (0, 0) _ rfl hret rfl rfl (by rw [HZ32.out]; kernel_rfl)) rfl ?_
  exact ⟨by rw [HR.out], below_setRow RB.out (Nat.le_refl _) _⟩

def catF (a : Nat → Nat) (m : Nat) (f : Nat → Nat) (i : Nat) : Nat := if i < m then a i else f (i - m)

set_option maxRecDepth 100000 in
set_option maxHeartbeats 1000000 in
theorem join_any (a : Nat → Nat) (ha : ∀ i, a i < 256) (A2 : Option Addr) (n c2 : Nat) (f : Nat → Nat) (hf : ∀ i, f i < 256) (hn : n ≤ 10000000) (hnc : n ≤ c2) (w : World) (hL : Laid w) (hA2 : Rd w A2 n f) :
    Calls Tryd.prog 22 #[.agg (byteCells a 32).toArray, .slice A2 n c2] w fun e w' => e = .returned (.agg (byteCells (sum32 (catF a 32 f) (32 + n)) 32).toArray) ∧ Below w.heap.size w w' := by
  have HL := Lib.hid hL
  have HA2 := Lib.hid hA2
  have HK := Lib.hid ha
  have HF := Lib.hid hf
  have HZ32 := Lib.hid (show ∀ f, (byteCells f 32).toArray.size = 32 from fun f => by rw [List.size_toArray, byteCells_length])
  have HE := Lib.hid (show ∀ G, sum32 (textOf [⟨some ⟨G, 0, none⟩, 32, 32, a⟩, ⟨A2, n, c2, f⟩]) (lenAll [⟨some ⟨G, 0, none⟩, 32, 32, a⟩, ⟨A2, n, c2, f⟩]) = sum32 (catF a 32 f) (32 + n) from fun G => by
    rw [show lenAll [⟨some ⟨G, 0, none⟩, 32, 32, a⟩, ⟨A2, n, c2, f⟩] = 32 + n by simp [lenAll]]
    refine sum32_congr fun i hi => ?_
    unfold catF textOf textOf
    by_cases l : i < 32
    · rw [if_pos l, if_pos l]
    · rw [if_neg l, if_neg l, if_pos (show i - 32 < n by omega)])
  clear hL hA2 ha hf
  go_enter Tryd.func22, Tryd.ntmps22
  go_upto_region 1 with fail
  refine cut_world (fun X => Whole X w.heap.size 27 (byteCells a 32).toArray ∧ Whole X (w.heap.size + 1) 27 (byteCells (fun _ => 0) 32).toArray ∧ Laid X ∧ Below w.heap.size w X) ⟨(whole_new _ _ rfl).alloc _, whole_new _ _ (by simp), laid_alloc (laid_alloc HL.out _) _, below_alloc (below_alloc (Below.refl _ _) _) _⟩ ?_
  rintro W ⟨q0, q1, ql, qb⟩
  have Q0 := Lib.hid q0
  have Q1 := Lib.hid q1
  have QL := Lib.hid ql
  have QB := Lib.hid qb
  have hl1 := q1.lt
  clear q0 q1 ql qb
  generalize hB : w.heap.size = B at Q0 Q1 QB hl1 ⊢
  have hbN : Below W.heap.size W (W.alloc (.cells #[.slice (some ⟨B, 0, none⟩) 32 32, .slice A2 n c2] 22)) := below_alloc (Below.refl _ _) _
  have HPA := Lib.hid (show PartsAt (W.alloc (.cells #[.slice (some ⟨B, 0, none⟩) 32 32, .slice A2 n c2] 22)) W.heap.size 0 [⟨some ⟨B, 0, none⟩, 32, 32, a⟩, ⟨A2, n, c2, f⟩] from parts_two ⟨some ⟨B, 0, none⟩, 32, 32, a⟩ ⟨A2, n, c2, f⟩ (Nat.le_refl _) (Rd.of_whole Q0.out) HK.out hnc (HA2.out.below QB.out (Nat.le_of_eq hB)) HF.out)
  have HLN := Lib.hid (laid_below QL.out hbN)
  have HQ1 := Lib.hid (Q1.out.below hbN hl1)
  have HBN := Lib.hid (QB.out.trans (hbN.mono (by omega)))
  clear hbN Q0 Q1 QL QB HA2 HL
  go_wp2_with fail
  refine (sum_any W.heap.size 0 2 [⟨some ⟨B, 0, none⟩, 32, 32, a⟩, ⟨A2, n, c2, f⟩] (by simp [lenAll]; omega) (by simp) _ HLN.out HPA.out).mono ?_
  rintro e w3 ⟨rfl, hb3⟩
  rw [HE.out]
  have R1 := Lib.hid (HQ1.out.below hb3 HQ1.out.lt)
  have RB := Lib.hid (HBN.out.trans (hb3.mono (Nat.le_of_lt (Nat.lt_of_succ_lt HQ1.out.lt))))
  clear hb3 HQ1 HBN HLN HPA
  generalize hR : sum32 (catF a 32 f) (32 + n) = R
  have HR := Lib.hid hR
  clear hR
  go_wp2_with (refine wpList_store_row rfl 27 (.tmp 4) (.tmp 8) rfl (B + 1) (byteCells R 32).toArray rfl rfl 27 _ R1.out (by rw [HZ32.out]; kernel_rfl) (by rw [HZ32.out, HZ32.out]) (bytes_one _ _) ?_)
  have hret : Whole (w3.setRow (B + 1) (byteCells R 32).toArray) (B + 1) 27 (byteCells R 32).toArray := setRow_heap w3 _ _ _ _ _ R1.out
  refine bodyPost_ret (results_cell_row rfl _ _ (B + 1) 27 _ (0, 0) _ rfl hret rfl rfl (by rw [HZ32.out]; kernel_rfl)) rfl ?_
  exact ⟨by rw [HR.out], by rw [hB]; exact below_setRow RB.out (by omega) _⟩

end Kdf
end Go.Proofs.YtljepgddmfelpaaDoor
