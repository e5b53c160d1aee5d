/- 'aditlaw07.BlakeSums' returns true at every input and writes nothing that was there: the walk. The condition: the tables read as the program's text lays them. -/
import Derived.Test.YtljepgddmfelpaaDoorBlakeAlive
import Derived.Test.YtljepgddmfelpaaDoorRefTotal
namespace Go.Proofs.YtljepgddmfelpaaDoor
namespace BlakeSums
open Go.ChangeShapes Go.WideShapes Go.ChangeAt Go.RowKit
open Num Mem Words State Chacha Quiet Blake RefB

theorem row_src {w : World} {A : Option Addr} {n c : Nat} {zs : List Int} (h : IsRow .u8 w A n c zs) : ∃ f : Nat → Nat, (∀ i, f i < 256) ∧ Rd w A n f ∧ n ≤ c ∧ Src w A n c f := by
  obtain ⟨f, h1, h2, h3, _⟩ := rd_of_row h
  refine ⟨f, h1, h2, h3, src_rd h2 fun e => ?_⟩
  rcases h with ⟨_, h4, h5, _⟩ | ⟨x, h4, _⟩
  · exact ⟨h4, h5⟩
  · rw [e] at h4
    cases h4

set_option maxRecDepth 100000 in
set_option maxHeartbeats 4000000 in
theorem walk (size : Int) (A : Option Addr) (k c : Nat) (ks : List Int) (A2 : Option Addr) (n c2 : Nat) (zs : List Int) (w : World) (hL : Laid w) (_ : (Lit.int .i64 size).wf = true) (h1 : IsRow .u8 w A k c ks) (h2 : IsRow .u8 w A2 n c2 zs) :
    Calls Tryd.prog 3 #[.int .i64 size, .slice A k c, .slice A2 n c2] w fun e w' => e = .returned (.bool true) ∧ Below w.heap.size w w' := by
  obtain ⟨key, hkey, hA, _, hSA⟩ := row_src h1
  obtain ⟨f, hf, hA2, hc2, hSB⟩ := row_src h2
  have HL := Lib.hid hL
  have HA := Lib.hid hA
  have HA2 := Lib.hid hA2
  have HSA := Lib.hid hSA
  have HSB := Lib.hid hSB
  have HF := Lib.hid hf
  have HK := Lib.hid hkey
  clear hL hA hA2 hSA hSB hf hkey h1 h2
  by_cases h1 : 600 < n
  · have d : decide ((600 : Int) < (n : Int)) = true := decide_eq_true (by omega)
    go_enter Tryd.func3, Tryd.ntmps3
    go_wp2_with fail
    refine (alive_any _ HL.out).mono ?_
    rintro e w1 ⟨rfl, hb⟩
    go_wp2_with fail
    go_ret
    exact ⟨rfl, hb⟩
  have d : decide ((600 : Int) < (n : Int)) = false := decide_eq_false (by omega)
  by_cases h2 : 100 < k
  · have d2 : decide ((100 : Int) < (k : Int)) = true := decide_eq_true (by omega)
    go_enter Tryd.func3, Tryd.ntmps3
    go_wp2_with fail
    refine (alive_any _ HL.out).mono ?_
    rintro e w1 ⟨rfl, hb⟩
    go_wp2_with fail
    go_ret
    exact ⟨rfl, hb⟩
  have d2 : decide ((100 : Int) < (k : Int)) = false := decide_eq_false (by omega)
  have HZ32 := Lib.hid (show ∀ f, (byteCells f 32).toArray.size = 32 from fun f => by rw [List.size_toArray, byteCells_length])
  have C0 := Lib.hid (sum32_any A2 n c2 f HF.out (by omega) hc2)
  have D0 := Lib.hid (sum_ref 32 none A2 0 0 n c2 (fun _ => 0) f (by omega) (by omega) (by omega) (fun _ => by omega) HF.out (by omega))
  obtain ⟨G, hG⟩ : ∃ F, digest 32 (fun _ => 0) 0 f n = F := ⟨_, rfl⟩
  rw [hG] at C0 D0
  clear hG
  by_cases hr : 1 ≤ size ∧ size ≤ 32 ∧ k ≤ 32
  · obtain ⟨s, rfl⟩ : ∃ s : Nat, size = (s : Int) := ⟨size.toNat, by omega⟩
    have C := Lib.hid (sum_ok s A A2 k c n c2 key f (by omega) (by omega) (by omega) HK.out HF.out (by omega) hc2)
    have D := Lib.hid (sum_ref s A A2 k c n c2 key f (by omega) (by omega) (by omega) HK.out HF.out (by omega))
    obtain ⟨F, hF⟩ : ∃ F, digest s key k f n = F := ⟨_, rfl⟩
    rw [hF] at C D
    clear hF
    go_enter Tryd.func3, Tryd.ntmps3
    go_wp2_with fail
    refine (C.out w HL.out HA.out HA2.out).mono ?_
    rintro e w1 ⟨g1, rfl, q1, _, hb1⟩
    have HL1 := Lib.hid (laid_below HL.out hb1)
    have HA1 := Lib.hid (src_below HSA.out hb1)
    have HS1 := Lib.hid (src_below HSB.out hb1)
    have HR1 := Lib.hid (HA2.out.below hb1 (Nat.le_refl _))
    have HX1 := Lib.hid (Rd.of_whole q1)
    have HB1 := Lib.hid hb1
    clear q1 hb1
    go_wp2_with fail
    refine (D.out _ HA1.out HS1.out).mono ?_
    rintro e w2 ⟨AY, cy, rfl, q2, hb2⟩
    have HL2 := Lib.hid (laid_below HL1.out hb2)
    have HS2 := Lib.hid (src_below HS1.out hb2)
    have HR2 := Lib.hid (HR1.out.below hb2 (Nat.le_refl _))
    have HRX := Lib.hid (HX1.out.below hb2 (Nat.le_refl _))
    have HRY := Lib.hid q2
    have HB2 := Lib.hid (below_trans HB1.out hb2)
    clear q2 hb2 HL1 HA1 HS1 HR1 HX1 HB1
    go_wp2_with fail
    refine (C0.out _ HL2.out HR2.out).mono ?_
    rintro e w3 ⟨rfl, hb3⟩

    have L3 := Lib.hid (laid_below HL2.out hb3)
    have B3 := Lib.hid (below_trans HB2.out hb3)
    have RX3 := Lib.hid (HRX.out.below hb3 (Nat.le_refl _))
    have RY3 := Lib.hid (HRY.out.below hb3 (Nat.le_refl _))
    have S3 := Lib.hid (src_below HS2.out hb3)
    clear hb3 HL2 HB2 HRX HRY HS2
    go_upto_region 6 with (refine wpList_store_row rfl 27 (.tmp 11) (.tmp 38) rfl w3.heap.size (byteCells G 32).toArray rfl rfl 27 _ (Whole.new _ _ _) (by rw [HZ32.out]; kernel_rfl) (by rw [HZ32.out]; rfl) (bytes_one _ _) ?_)
    try simp only [Act.put]
    refine cut_world (fun X => Whole X w3.heap.size 27 (byteCells G 32).toArray ∧ Below w3.heap.size w3 X) ⟨setRow_heap _ _ _ _ _ _ (Whole.new _ _ _), below_setRow (below_alloc (Below.refl _ _) _) (Nat.le_refl _) _⟩ ?_
    rintro W ⟨q3, hbW⟩
    have LW := Lib.hid (laid_below L3.out hbW)
    have BW := Lib.hid (below_trans B3.out hbW)
    have RXW := Lib.hid (RX3.out.below hbW (Nat.le_refl _))
    have RYW := Lib.hid (RY3.out.below hbW (Nat.le_refl _))
    have SW := Lib.hid (src_below S3.out hbW)
    have QW := Lib.hid q3
    clear q3 hbW L3 B3 RX3 RY3 S3
    generalize w3.heap.size = gz at QW ⊢
    go_wp2_with fail
    refine (D0.out _ (.inl ⟨rfl, rfl, rfl⟩) SW.out).mono ?_
    rintro e w5 ⟨AW, cw, rfl, q5, hb5⟩
    have L5 := Lib.hid (laid_below LW.out hb5)
    have B5 := Lib.hid (below_trans BW.out hb5)
    have RX5 := Lib.hid (RXW.out.below hb5 (Nat.le_refl _))
    have RY5 := Lib.hid (RYW.out.below hb5 (Nat.le_refl _))
    have QZ := Lib.hid (Rd.of_whole (QW.out.below hb5 QW.out.lt))
    have QW5 := Lib.hid q5
    clear q5 hb5 LW BW RXW RYW SW QW
    go_wp2_with fail
    refine region_drew (fun X => Below w5.heap.size w5 X) (by kernel_rfl) (below_drewN (Below.refl _ _) 1) ?_
    intro hS
    refine alone 0 rfl (by kernel_rfl) (by rfl) ?_
    intro K hK
    go_simp
    refine (alive_any _ (laid_below L5.out hS)).mono ?_
    rintro e v1 ⟨rfl, hb⟩
    go_simp
    have hS := below_trans (below_drewN (Below.refl _ w5) 1) hb
    refine hK.out _ _ hS ?_
    clear hK K hb
    try simp only [Act.put, List.setIfInBounds_toArray, List.set_cons_zero, List.set_cons_succ]
    refine take 1 _ rfl (by kernel_rfl) (by kernel_rfl) (by kernel_rfl) (fun _ _ _ h => h) (by rfl) hS (by intro w _; go_simp; with_reducible rfl) ?_
    try simp only [Act.put, List.setIfInBounds_toArray, List.set_cons_zero, List.set_cons_succ]
    refine take 2 _ rfl (by kernel_rfl) (by kernel_rfl) (by kernel_rfl) (fun _ _ _ h => h) (by rfl) hS (by intro w _; go_simp; with_reducible rfl) ?_
    try simp only [Act.put, List.setIfInBounds_toArray, List.set_cons_zero, List.set_cons_succ]
    refine take 3 _ rfl (by kernel_rfl) (by kernel_rfl) (by kernel_rfl) (fun _ _ _ h => h) (by rfl) hS (fun w hw => run_string_op 22 9 5 _ rfl rfl Tryd.underlying22 Tryd.underlying5 Tryd.underlying9 (RX5.out.below hw (Nat.le_refl _))) ?_
    try simp only [Act.put, List.setIfInBounds_toArray, List.set_cons_zero, List.set_cons_succ]
    refine take 4 _ rfl (by kernel_rfl) (by kernel_rfl) (by kernel_rfl) (fun _ _ _ h => h) (by rfl) hS (by intro w _; go_simp; with_reducible rfl) ?_
    try simp only [Act.put, List.setIfInBounds_toArray, List.set_cons_zero, List.set_cons_succ]
    refine take 5 _ rfl (by kernel_rfl) (by kernel_rfl) (by kernel_rfl) (fun _ _ _ h => h) (by rfl) hS (fun w hw => run_string_op 22 9 5 _ rfl rfl Tryd.underlying22 Tryd.underlying5 Tryd.underlying9 (RY5.out.below hw (Nat.le_refl _))) ?_
    try simp only [Act.put, List.setIfInBounds_toArray, List.set_cons_zero, List.set_cons_succ]
    refine take 6 _ rfl (by kernel_rfl) (by kernel_rfl) (by kernel_rfl) (fun _ _ _ h => h) (by rfl) hS (by intro w _; go_simp; with_reducible rfl) ?_
    try simp only [Act.put, List.setIfInBounds_toArray, List.set_cons_zero, List.set_cons_succ]
    refine take 7 _ rfl (by kernel_rfl) (by kernel_rfl) (by kernel_rfl) (fun _ _ _ h => h) (by rfl) hS (by intro w _; go_simp; with_reducible rfl) ?_
    try simp only [Act.put, List.setIfInBounds_toArray, List.set_cons_zero, List.set_cons_succ]
    refine take 8 _ rfl (by kernel_rfl) (by kernel_rfl) (by kernel_rfl) (fun _ _ _ h => h) (by rfl) hS (by intro w _; go_simp; with_reducible rfl) ?_
    try simp only [Act.put, List.setIfInBounds_toArray, List.set_cons_zero, List.set_cons_succ]
    refine take 9 _ rfl (by kernel_rfl) (by kernel_rfl) (by kernel_rfl) (fun _ _ _ h => h) (by rfl) hS (by intro w _; go_simp; with_reducible rfl) ?_
    try simp only [Act.put, List.setIfInBounds_toArray, List.set_cons_zero, List.set_cons_succ]
    refine take 10 _ rfl (by kernel_rfl) (by kernel_rfl) (by kernel_rfl) (fun _ _ _ h => h) (by rfl) hS (by intro w _; go_simp; with_reducible rfl) ?_
    try simp only [Act.put, List.setIfInBounds_toArray, List.set_cons_zero, List.set_cons_succ]
    refine take 11 _ rfl (by kernel_rfl) (by kernel_rfl) (by kernel_rfl) (fun _ _ _ h => h) (by rfl) hS (by intro w _; go_simp; with_reducible rfl) ?_
    try simp only [Act.put, List.setIfInBounds_toArray, List.set_cons_zero, List.set_cons_succ]
    refine take 12 _ rfl (by kernel_rfl) (by kernel_rfl) (by kernel_rfl) (fun _ _ _ h => h) (by rfl) hS (by intro w _; go_simp; with_reducible rfl) ?_
    try simp only [Act.put, List.setIfInBounds_toArray, List.set_cons_zero, List.set_cons_succ]
    refine take 13 _ rfl (by kernel_rfl) (by kernel_rfl) (by kernel_rfl) (fun _ _ _ h => h) (by rfl) hS (by intro w _; go_simp; with_reducible rfl) ?_
    try simp only [Act.put, List.setIfInBounds_toArray, List.set_cons_zero, List.set_cons_succ]
    refine take 14 _ rfl (by kernel_rfl) (by kernel_rfl) (by kernel_rfl) (fun _ _ _ h => h) (by rfl) hS (by intro w _; go_simp; with_reducible rfl) ?_
    try simp only [Act.put, List.setIfInBounds_toArray, List.set_cons_zero, List.set_cons_succ]
    refine take 15 _ rfl (by kernel_rfl) (by kernel_rfl) (by kernel_rfl) (fun _ _ _ h => h) (by rfl) hS (fun w hw => run_string_op 22 9 5 _ rfl rfl Tryd.underlying22 Tryd.underlying5 Tryd.underlying9 (QZ.out.below hw (Nat.le_refl _))) ?_
    try simp only [Act.put, List.setIfInBounds_toArray, List.set_cons_zero, List.set_cons_succ]
    refine take 16 _ rfl (by kernel_rfl) (by kernel_rfl) (by kernel_rfl) (fun _ _ _ h => h) (by rfl) hS (by intro w _; go_simp; with_reducible rfl) ?_
    try simp only [Act.put, List.setIfInBounds_toArray, List.set_cons_zero, List.set_cons_succ]
    refine take 17 _ rfl (by kernel_rfl) (by kernel_rfl) (by kernel_rfl) (fun _ _ _ h => h) (by rfl) hS (fun w hw => run_string_op 22 9 5 _ rfl rfl Tryd.underlying22 Tryd.underlying5 Tryd.underlying9 (QW5.out.below hw (Nat.le_refl _))) ?_
    try simp only [Act.put, List.setIfInBounds_toArray, List.set_cons_zero, List.set_cons_succ]
    refine take 18 _ rfl (by kernel_rfl) (by kernel_rfl) (by kernel_rfl) (fun _ _ _ h => h) (by rfl) hS (by intro w _; go_simp; with_reducible rfl) ?_
    try simp only [Act.put, List.setIfInBounds_toArray, List.set_cons_zero, List.set_cons_succ]
    refine take 19 _ rfl (by kernel_rfl) (by kernel_rfl) (by kernel_rfl) (fun _ _ _ h => h) (by rfl) hS (by intro w _; go_simp; with_reducible rfl) ?_
    try simp only [Act.put, List.setIfInBounds_toArray, List.set_cons_zero, List.set_cons_succ]
    refine take 20 _ rfl (by kernel_rfl) (by kernel_rfl) (by kernel_rfl) (fun _ _ _ h => h) (by rfl) hS (by intro w _; go_simp; with_reducible rfl) ?_
    try simp only [Act.put, List.setIfInBounds_toArray, List.set_cons_zero, List.set_cons_succ]
    refine region_end (by kernel_rfl) ?_
    have HBE := Lib.hid (below_trans B5.out hS)
    clear hS
    go_wp2_with fail
    go_ret
    exact ⟨rfl, HBE.out⟩
  · go_enter Tryd.func3, Tryd.ntmps3
    go_wp2_with fail
    refine (sum_no size A A2 k c n c2 hr w).mono ?_
    rintro e w1 ⟨rfl, rfl⟩
    go_wp2_with fail
    refine (sum_ref_no size A A2 k c n c2 hr w).mono ?_
    rintro e w1 ⟨rfl, rfl⟩
    have HL2 := HL
    have HS2 := HSB
    have HRX := Lib.hid (show Rd w none 0 (fun _ => 0) from .inl rfl)
    have HRY := Lib.hid (show Rd w none 0 (fun _ => 0) from .inl rfl)
    have HB2 := Lib.hid (Below.refl w.heap.size w)
    go_wp2_with fail
    refine (C0.out _ HL.out HA2.out).mono ?_
    rintro e w3 ⟨rfl, hb3⟩

    have L3 := Lib.hid (laid_below HL2.out hb3)
    have B3 := Lib.hid (below_trans HB2.out hb3)
    have RX3 := Lib.hid (HRX.out.below hb3 (Nat.le_refl _))
    have RY3 := Lib.hid (HRY.out.below hb3 (Nat.le_refl _))
    have S3 := Lib.hid (src_below HS2.out hb3)
    clear hb3 HL2 HB2 HRX HRY HS2
    go_upto_region 6 with (refine wpList_store_row rfl 27 (.tmp 11) (.tmp 38) rfl w3.heap.size (byteCells G 32).toArray rfl rfl 27 _ (Whole.new _ _ _) (by rw [HZ32.out]; kernel_rfl) (by rw [HZ32.out]; rfl) (bytes_one _ _) ?_)
    try simp only [Act.put]
    refine cut_world (fun X => Whole X w3.heap.size 27 (byteCells G 32).toArray ∧ Below w3.heap.size w3 X) ⟨setRow_heap _ _ _ _ _ _ (Whole.new _ _ _), below_setRow (below_alloc (Below.refl _ _) _) (Nat.le_refl _) _⟩ ?_
    rintro W ⟨q3, hbW⟩
    have LW := Lib.hid (laid_below L3.out hbW)
    have BW := Lib.hid (below_trans B3.out hbW)
    have RXW := Lib.hid (RX3.out.below hbW (Nat.le_refl _))
    have RYW := Lib.hid (RY3.out.below hbW (Nat.le_refl _))
    have SW := Lib.hid (src_below S3.out hbW)
    have QW := Lib.hid q3
    clear q3 hbW L3 B3 RX3 RY3 S3
    generalize w3.heap.size = gz at QW ⊢
    go_wp2_with fail
    refine (D0.out _ (.inl ⟨rfl, rfl, rfl⟩) SW.out).mono ?_
    rintro e w5 ⟨AW, cw, rfl, q5, hb5⟩
    have L5 := Lib.hid (laid_below LW.out hb5)
    have B5 := Lib.hid (below_trans BW.out hb5)
    have RX5 := Lib.hid (RXW.out.below hb5 (Nat.le_refl _))
    have RY5 := Lib.hid (RYW.out.below hb5 (Nat.le_refl _))
    have QZ := Lib.hid (Rd.of_whole (QW.out.below hb5 QW.out.lt))
    have QW5 := Lib.hid q5
    clear q5 hb5 LW BW RXW RYW SW QW
    go_wp2_with fail
    refine region_drew (fun X => Below w5.heap.size w5 X) (by kernel_rfl) (below_drewN (Below.refl _ _) 1) ?_
    intro hS
    refine alone 0 rfl (by kernel_rfl) (by rfl) ?_
    intro K hK
    go_simp
    refine (alive_any _ (laid_below L5.out hS)).mono ?_
    rintro e v1 ⟨rfl, hb⟩
    go_simp
    have hS := below_trans (below_drewN (Below.refl _ w5) 1) hb
    refine hK.out _ _ hS ?_
    clear hK K hb
    try simp only [Act.put, List.setIfInBounds_toArray, List.set_cons_zero, List.set_cons_succ]
    refine take 1 _ rfl (by kernel_rfl) (by kernel_rfl) (by kernel_rfl) (fun _ _ _ h => h) (by rfl) hS (by intro w _; go_simp; with_reducible rfl) ?_
    try simp only [Act.put, List.setIfInBounds_toArray, List.set_cons_zero, List.set_cons_succ]
    refine take 2 _ rfl (by kernel_rfl) (by kernel_rfl) (by kernel_rfl) (fun _ _ _ h => h) (by rfl) hS (by intro w _; go_simp; with_reducible rfl) ?_
    try simp only [Act.put, List.setIfInBounds_toArray, List.set_cons_zero, List.set_cons_succ]
    refine take 3 _ rfl (by kernel_rfl) (by kernel_rfl) (by kernel_rfl) (fun _ _ _ h => h) (by rfl) hS (fun w hw => run_string_op 22 9 5 _ rfl rfl Tryd.underlying22 Tryd.underlying5 Tryd.underlying9 (RX5.out.below hw (Nat.le_refl _))) ?_
    try simp only [Act.put, List.setIfInBounds_toArray, List.set_cons_zero, List.set_cons_succ]
    refine take 4 _ rfl (by kernel_rfl) (by kernel_rfl) (by kernel_rfl) (fun _ _ _ h => h) (by rfl) hS (by intro w _; go_simp; with_reducible rfl) ?_
    try simp only [Act.put, List.setIfInBounds_toArray, List.set_cons_zero, List.set_cons_succ]
    refine take 5 _ rfl (by kernel_rfl) (by kernel_rfl) (by kernel_rfl) (fun _ _ _ h => h) (by rfl) hS (fun w hw => run_string_op 22 9 5 _ rfl rfl Tryd.underlying22 Tryd.underlying5 Tryd.underlying9 (RY5.out.below hw (Nat.le_refl _))) ?_
    try simp only [Act.put, List.setIfInBounds_toArray, List.set_cons_zero, List.set_cons_succ]
    refine take 6 _ rfl (by kernel_rfl) (by kernel_rfl) (by kernel_rfl) (fun _ _ _ h => h) (by rfl) hS (by intro w _; go_simp; with_reducible rfl) ?_
    try simp only [Act.put, List.setIfInBounds_toArray, List.set_cons_zero, List.set_cons_succ]
    refine take 7 _ rfl (by kernel_rfl) (by kernel_rfl) (by kernel_rfl) (fun _ _ _ h => h) (by rfl) hS (by intro w _; go_simp; with_reducible rfl) ?_
    try simp only [Act.put, List.setIfInBounds_toArray, List.set_cons_zero, List.set_cons_succ]
    refine take 8 _ rfl (by kernel_rfl) (by kernel_rfl) (by kernel_rfl) (fun _ _ _ h => h) (by rfl) hS (by intro w _; go_simp; with_reducible rfl) ?_
    try simp only [Act.put, List.setIfInBounds_toArray, List.set_cons_zero, List.set_cons_succ]
    refine take 9 _ rfl (by kernel_rfl) (by kernel_rfl) (by kernel_rfl) (fun _ _ _ h => h) (by rfl) hS (by intro w _; go_simp; with_reducible rfl) ?_
    try simp only [Act.put, List.setIfInBounds_toArray, List.set_cons_zero, List.set_cons_succ]
    refine take 10 _ rfl (by kernel_rfl) (by kernel_rfl) (by kernel_rfl) (fun _ _ _ h => h) (by rfl) hS (by intro w _; go_simp; with_reducible rfl) ?_
    try simp only [Act.put, List.setIfInBounds_toArray, List.set_cons_zero, List.set_cons_succ]
    refine take 11 _ rfl (by kernel_rfl) (by kernel_rfl) (by kernel_rfl) (fun _ _ _ h => h) (by rfl) hS (by intro w _; go_simp; with_reducible rfl) ?_
    try simp only [Act.put, List.setIfInBounds_toArray, List.set_cons_zero, List.set_cons_succ]
    refine take 12 _ rfl (by kernel_rfl) (by kernel_rfl) (by kernel_rfl) (fun _ _ _ h => h) (by rfl) hS (by intro w _; go_simp; with_reducible rfl) ?_
    try simp only [Act.put, List.setIfInBounds_toArray, List.set_cons_zero, List.set_cons_succ]
    refine take 13 _ rfl (by kernel_rfl) (by kernel_rfl) (by kernel_rfl) (fun _ _ _ h => h) (by rfl) hS (by intro w _; go_simp; with_reducible rfl) ?_
    try simp only [Act.put, List.setIfInBounds_toArray, List.set_cons_zero, List.set_cons_succ]
    refine take 14 _ rfl (by kernel_rfl) (by kernel_rfl) (by kernel_rfl) (fun _ _ _ h => h) (by rfl) hS (by intro w _; go_simp; with_reducible rfl) ?_
    try simp only [Act.put, List.setIfInBounds_toArray, List.set_cons_zero, List.set_cons_succ]
    refine take 15 _ rfl (by kernel_rfl) (by kernel_rfl) (by kernel_rfl) (fun _ _ _ h => h) (by rfl) hS (fun w hw => run_string_op 22 9 5 _ rfl rfl Tryd.underlying22 Tryd.underlying5 Tryd.underlying9 (QZ.out.below hw (Nat.le_refl _))) ?_
    try simp only [Act.put, List.setIfInBounds_toArray, List.set_cons_zero, List.set_cons_succ]
    refine take 16 _ rfl (by kernel_rfl) (by kernel_rfl) (by kernel_rfl) (fun _ _ _ h => h) (by rfl) hS (by intro w _; go_simp; with_reducible rfl) ?_
    try simp only [Act.put, List.setIfInBounds_toArray, List.set_cons_zero, List.set_cons_succ]
    refine take 17 _ rfl (by kernel_rfl) (by kernel_rfl) (by kernel_rfl) (fun _ _ _ h => h) (by rfl) hS (fun w hw => run_string_op 22 9 5 _ rfl rfl Tryd.underlying22 Tryd.underlying5 Tryd.underlying9 (QW5.out.below hw (Nat.le_refl _))) ?_
    try simp only [Act.put, List.setIfInBounds_toArray, List.set_cons_zero, List.set_cons_succ]
    refine take 18 _ rfl (by kernel_rfl) (by kernel_rfl) (by kernel_rfl) (fun _ _ _ h => h) (by rfl) hS (by intro w _; go_simp; with_reducible rfl) ?_
    try simp only [Act.put, List.setIfInBounds_toArray, List.set_cons_zero, List.set_cons_succ]
    refine take 19 _ rfl (by kernel_rfl) (by kernel_rfl) (by kernel_rfl) (fun _ _ _ h => h) (by rfl) hS (by intro w _; go_simp; with_reducible rfl) ?_
    try simp only [Act.put, List.setIfInBounds_toArray, List.set_cons_zero, List.set_cons_succ]
    refine take 20 _ rfl (by kernel_rfl) (by kernel_rfl) (by kernel_rfl) (fun _ _ _ h => h) (by rfl) hS (by intro w _; go_simp; with_reducible rfl) ?_
    try simp only [Act.put, List.setIfInBounds_toArray, List.set_cons_zero, List.set_cons_succ]
    refine region_end (by kernel_rfl) ?_
    have HBE := Lib.hid (below_trans B5.out hS)
    clear hS
    go_wp2_with fail
    go_ret
    exact ⟨rfl, HBE.out⟩

end BlakeSums
end Go.Proofs.YtljepgddmfelpaaDoor
