/- 'aditlaw08.KdfMarks' returns true at every input and writes nothing that was there: the walk. The condition: the tables read as the program's text lays them. -/
import Derived.Test.YtljepgddmfelpaaDoorKdfAlive
import Derived.Test.YtljepgddmfelpaaDoorRefMac
import Derived.Test.YtljepgddmfelpaaDoorFloat
namespace Go.Proofs.YtljepgddmfelpaaDoor
namespace KdfMarks
open Go.ChangeShapes Go.WideShapes Go.ChangeAt Go.RowKit
open Num Mem Words State Chacha Quiet Blake Kdf RefB RefK

theorem row_src {w : World} {A : Option Addr} {n c : Nat} {zs : List Int} (h : IsRow .u8 w A n c zs) : ∃ f : Nat → Nat, (∀ i, f i < 256) ∧ Rd w A n f ∧ n ≤ c ∧ Src w A n c f := by
  obtain ⟨f, h1, h2, h3, _⟩ := rd_of_row h
  refine ⟨f, h1, h2, h3, src_rd h2 fun e => ?_⟩
  rcases h with ⟨_, h4, h5, _⟩ | ⟨x, h4, _⟩
  · exact ⟨h4, h5⟩
  · rw [e] at h4
    cases h4

set_option maxRecDepth 100000 in
set_option maxHeartbeats 4000000 in
theorem walk (A : Option Addr) (k c : Nat) (ks : List Int) (A2 : Option Addr) (n c2 : Nat) (zs : List Int) (a : Nat → Nat) (w : World) (hL : Laid w) (h1 : IsRow .u8 w A k c ks) (h2 : IsRow .u8 w A2 n c2 zs) (ha : ∀ i, a i < 256) :
    Calls Tryd.prog 8 #[.slice A k c, .slice A2 n c2, .agg (byteCells a 32).toArray] w fun e w' => e = .returned (.bool true) ∧ Below w.heap.size w w' := by
  obtain ⟨key, hkey, hA, hkc, hSA⟩ := row_src h1
  obtain ⟨f, hf, hA2, hnc, hSB⟩ := row_src h2
  have HL := Lib.hid hL
  have HZ32 := Lib.hid (show ∀ f, (byteCells f 32).toArray.size = 32 from fun f => by rw [List.size_toArray, byteCells_length])
  clear h1 h2 hL
  by_cases h1 : 300 < k
  · have d : decide ((300 : Int) < (k : Int)) = true := decide_eq_true (by omega)
    clear hA hA2 hSA hSB hkey hf
    go_enter Tryd.func8, Tryd.ntmps8
    go_upto_region 1 with fail
    refine cut_world (fun X => Laid X ∧ Below w.heap.size w X) ⟨laid_alloc HL.out _, below_alloc (Below.refl _ _) _⟩ ?_
    rintro W ⟨ql, qb⟩
    have QL := Lib.hid ql
    have QB := Lib.hid qb
    clear ql qb
    go_wp2_with fail
    refine (Kdf.alive_any _ QL.out).mono ?_
    rintro e w1 ⟨rfl, hb⟩
    have HB := Lib.hid (below_trans QB.out hb)
    clear hb
    go_wp2_with fail
    go_ret
    exact ⟨rfl, HB.out⟩
  have d : decide ((300 : Int) < (k : Int)) = false := decide_eq_false (by omega)
  by_cases h2 : 300 < n
  · have d2 : decide ((300 : Int) < (n : Int)) = true := decide_eq_true (by omega)
    clear hA hA2 hSA hSB hkey hf
    go_enter Tryd.func8, Tryd.ntmps8
    go_upto_region 1 with fail
    refine cut_world (fun X => Laid X ∧ Below w.heap.size w X) ⟨laid_alloc HL.out _, below_alloc (Below.refl _ _) _⟩ ?_
    rintro W ⟨ql, qb⟩
    have QL := Lib.hid ql
    have QB := Lib.hid qb
    clear ql qb
    go_wp2_with fail
    refine (Kdf.alive_any _ QL.out).mono ?_
    rintro e w1 ⟨rfl, hb⟩
    have HB := Lib.hid (below_trans QB.out hb)
    clear hb
    go_wp2_with fail
    go_ret
    exact ⟨rfl, HB.out⟩
  have d2 : decide ((300 : Int) < (n : Int)) = false := decide_eq_false (by omega)
  have CM := Lib.hid (mac_any A k c key hkey (by omega) hkc A2 n c2 f hf (by omega) hnc)
  have CJ := Lib.hid (join_any a ha A2 n c2 f hf (by omega) hnc)
  have RM := Lib.hid (mac_ref A A2 k c n c2 key f hkey hf (by omega) (by omega))
  have RJ := Lib.hid (join_ref (some ⟨w.heap.size, 0, none⟩) A2 32 32 n c2 a f ha hf (by omega) (by omega))
  obtain ⟨M, hM⟩ : ∃ M, macF key k f n = M := ⟨_, rfl⟩
  obtain ⟨J, hJ⟩ : ∃ J, sum32 (catF a 32 f) (32 + n) = J := ⟨_, rfl⟩
  rw [hM] at CM RM
  rw [hJ] at CJ RJ
  have HA := Lib.hid hA
  have HA2 := Lib.hid hA2
  have HSA := Lib.hid hSA
  have HSB := Lib.hid hSB
  clear hM hJ hA hA2 hSA hSB hkey hf
  go_enter Tryd.func8, Tryd.ntmps8
  go_upto_region 1 with fail
  refine cut_world (fun X => Whole X w.heap.size 27 (byteCells a 32).toArray ∧ Laid X ∧ Below w.heap.size w X) ⟨whole_new _ _ rfl, laid_alloc HL.out _, below_alloc (Below.refl _ _) _⟩ ?_
  rintro W ⟨k1, ql, qb⟩
  have K1 := Lib.hid k1
  have QL := Lib.hid ql
  have QB := Lib.hid qb
  have QA := Lib.hid (HA.out.below qb (Nat.le_refl _))
  have QA2 := Lib.hid (HA2.out.below qb (Nat.le_refl _))
  have QSA := Lib.hid (src_below HSA.out qb)
  have QSB := Lib.hid (src_below HSB.out qb)
  clear k1 ql qb HA HA2 HSA HSB HL
  generalize hB : w.heap.size = B at K1 QB RJ ⊢
  go_wp2_with fail
  refine region_drew (fun _ => True) (by kernel_rfl) trivial ?_
  intro hT
  have hS : Below W.heap.size W W.drew := below_drewN (Below.refl _ _) 1
  refine Float.float (W := W) [(0, 18, .is (.slice A k c)), (1, 19, .is (.slice A2 n c2)), (2, 20, .is (.agg (byteCells M 32).toArray)), (3, 21, .is (.agg (byteCells a 32).toArray)), (4, 22, .is (.slice A2 n c2)), (5, 23, .is (.agg (byteCells J 32).toArray)), (6, 7, .row 27 (byteCells (fun _ => 0) 32).toArray), (7, 8, .row 27 (byteCells (fun _ => 0) 32).toArray)] [0, 1, 2, 3, 4, 5, 6, 7] 2 rfl (by rfl) (by kernel_rfl) (by kernel_rfl) (by kernel_rfl) (by kernel_rfl) (by kernel_rfl) (fun γ => rfl) hS (fun _ _ => trivial) ?_ ?_
  · intro γ
    simp only [Float.puts, Act.put, List.setIfInBounds_toArray, List.set_cons_zero, List.set_cons_succ]
    refine ⟨?_, ?_, ?_, ?_, ?_, ?_, ?_, ?_, trivial⟩
    · exact ⟨_, _, rfl, Float.does_take (by intro w _; go_simp; try with_reducible rfl)⟩
    · exact ⟨_, _, rfl, Float.does_take (by intro w _; go_simp; try with_reducible rfl)⟩
    · exact ⟨_, _, rfl, Float.does_call 21 (#[.slice A k c, .slice A2 n c2]) (by intro w; go_simp; try with_reducible rfl) (fun w hw => CM.out w (laid_below QL.out hw) (QA.out.below hw (Nat.le_refl _)) (QA2.out.below hw (Nat.le_refl _)))⟩
    · exact ⟨_, _, rfl, Float.does_take (fun w hw => run_load_op 27 (.tmp 5) rfl B rfl (K1.out.below hw K1.out.lt) rfl rfl (by rw [HZ32.out]; kernel_rfl))⟩
    · exact ⟨_, _, rfl, Float.does_take (by intro w _; go_simp; try with_reducible rfl)⟩
    · exact ⟨_, _, rfl, Float.does_call 22 (#[.agg (byteCells a 32).toArray, .slice A2 n c2]) (by intro w; go_simp; try with_reducible rfl) (fun w hw => CJ.out w (laid_below QL.out hw) (QA2.out.below hw (Nat.le_refl _)))⟩
    · exact ⟨_, _, rfl, fun w => by go_simp; try rfl⟩
    · exact ⟨_, _, rfl, fun w => by go_simp; try rfl⟩
  · intro γ v hS hrows hne
    simp only [Float.puts, Act.put, List.setIfInBounds_toArray, List.set_cons_zero, List.set_cons_succ]
    obtain ⟨⟨hge7, hg7⟩, ⟨hge8, hg8⟩, -⟩ := hrows
    have hne7_8 := hne 6 7 rfl rfl (by decide) (by decide) (by decide)
    clear hne
    generalize γ 6 = b7 at *
    have Hg7 := Lib.hid hg7
    clear hg7
    generalize γ 7 = b8 at *
    have Hg8 := Lib.hid hg8
    clear hg8
    clear γ
    refine alone 8 rfl (by kernel_rfl) (by rfl) ?_
    intro K hK
    refine wp_store_row 27 (.tmp 7) (.tmp 20) rfl b7 (byteCells M 32).toArray (by rfl) (by rfl) 27 _ Hg7.out (by rw [HZ32.out]; kernel_rfl) (by rw [HZ32.out, HZ32.out]) (bytes_one _ _) ?_
    refine hK.out _ _ trivial ?_
    clear hK K
    try simp only [Act.put]
    refine alone 9 rfl (by kernel_rfl) (by rfl) ?_
    intro K hK
    refine wp_store_row 27 (.tmp 8) (.tmp 23) rfl b8 (byteCells J 32).toArray (by rfl) (by rfl) 27 _ (Whole.farRow Hg8.out (g := b7) (by omega) (byteCells M 32).toArray) (by rw [HZ32.out]; kernel_rfl) (by rw [HZ32.out, HZ32.out]) (bytes_one _ _) ?_
    refine hK.out _ _ trivial ?_
    clear hK K
    try simp only [Act.put]

    refine region_end (by kernel_rfl) ?_
    refine cut_post (F := Exit.then _ _) (fun X => Whole X b7 27 (byteCells M 32).toArray ∧ Whole X b8 27 (byteCells J 32).toArray ∧ Below W.heap.size W X) ⟨Whole.farRow (setRow_heap _ _ _ _ _ _ Hg7.out) (by omega) _, setRow_heap _ _ _ _ _ _ (Whole.farRow Hg8.out (g := b7) (by omega) (byteCells M 32).toArray), below_setRow (below_setRow hS hge7 _) hge8 _⟩ ?_
    clear hS Hg7 Hg8 hge7 hge8 hT
    rintro V ⟨q7, q8, hV⟩
    have K7 := Lib.hid (Rd.of_whole q7)
    have K8 := Lib.hid (Rd.of_whole q8)
    have KA := Lib.hid (Rd.of_whole (K1.out.below hV K1.out.lt))
    have VA := Lib.hid (QA.out.below hV (Nat.le_refl _))
    have VSA := Lib.hid (src_below QSA.out hV)
    have VSB := Lib.hid (src_below QSB.out hV)
    have VL := Lib.hid (laid_below QL.out hV)
    have VB := Lib.hid (QB.out.trans (hV.mono (Nat.le_of_lt K1.out.lt)))
    have hBV : B ≤ V.heap.size := Nat.le_trans (Nat.le_of_lt K1.out.lt) hV.size
    clear q7 q8 hV K1 QA QSA QSB QL QB QA2 CM CJ
    go_wp2_with fail
    refine region_drew (fun X => Below V.heap.size V X) (by kernel_rfl) (below_drewN (Below.refl _ _) 1) ?_
    intro hS
    refine alone 0 rfl (by kernel_rfl) (by rfl) ?_
    intro K hK
    go_simp
    refine (Kdf.alive_any _ (laid_below VL.out hS)).mono ?_
    rintro e q0 ⟨rfl, hb⟩
    go_simp
    replace hS := below_trans hS hb
    refine hK.out _ _ hS ?_
    clear hK hb K
    try simp only [Act.put, List.setIfInBounds_toArray, List.set_cons_zero, List.set_cons_succ]
    refine take 1 _ rfl (by kernel_rfl) (by kernel_rfl) (by kernel_rfl) (fun _ _ _ h => h) (by rfl) hS (by intro w _; go_simp; with_reducible rfl) ?_
    try simp only [Act.put, List.setIfInBounds_toArray, List.set_cons_zero, List.set_cons_succ]
    refine take 2 _ rfl (by kernel_rfl) (by kernel_rfl) (by kernel_rfl) (fun _ _ _ h => h) (by rfl) hS (by intro w _; go_simp; with_reducible rfl) ?_
    try simp only [Act.put, List.setIfInBounds_toArray, List.set_cons_zero, List.set_cons_succ]
    refine take 3 _ rfl (by kernel_rfl) (by kernel_rfl) (by kernel_rfl) (fun _ _ _ h => h) (by rfl) hS (fun w hw => run_string_op 22 9 5 _ rfl rfl Tryd.underlying22 Tryd.underlying5 Tryd.underlying9 (K7.out.below hw (Nat.le_refl _))) ?_
    try simp only [Act.put, List.setIfInBounds_toArray, List.set_cons_zero, List.set_cons_succ]
    refine take 4 _ rfl (by kernel_rfl) (by kernel_rfl) (by kernel_rfl) (fun _ _ _ h => h) (by rfl) hS (by intro w _; go_simp; with_reducible rfl) ?_
    try simp only [Act.put, List.setIfInBounds_toArray, List.set_cons_zero, List.set_cons_succ]
    refine take 5 _ rfl (by kernel_rfl) (by kernel_rfl) (by kernel_rfl) (fun _ _ _ h => h) (by rfl) hS (by intro w _; go_simp; with_reducible rfl) ?_
    try simp only [Act.put, List.setIfInBounds_toArray, List.set_cons_zero, List.set_cons_succ]
    refine alone 6 rfl (by kernel_rfl) (by rfl) ?_
    intro K hK
    go_simp
    refine (RM.out _ (VA.out.below hS (Nat.le_refl _)) (src_below VSA.out hS) (src_below VSB.out hS)).mono ?_
    rintro e q6 ⟨AC1, cc1, rfl, oc, hb⟩
    have OC1 := Lib.hid oc
    clear oc
    go_simp
    replace hS := below_trans hS hb
    refine hK.out _ _ hS ?_
    clear hK hb K
    try simp only [Act.put, List.setIfInBounds_toArray, List.set_cons_zero, List.set_cons_succ]
    refine alone_run 7 _ rfl (by kernel_rfl) (by rfl) hS (run_string_op 22 9 5 _ rfl rfl Tryd.underlying22 Tryd.underlying5 Tryd.underlying9 (OC1.out)) ?_
    try simp only [Act.put, List.setIfInBounds_toArray, List.set_cons_zero, List.set_cons_succ]
    refine take 8 _ rfl (by kernel_rfl) (by kernel_rfl) (by kernel_rfl) (fun _ _ _ h => h) (by rfl) hS (by intro w _; go_simp; with_reducible rfl) ?_
    try simp only [Act.put, List.setIfInBounds_toArray, List.set_cons_zero, List.set_cons_succ]
    refine take 9 _ rfl (by kernel_rfl) (by kernel_rfl) (by kernel_rfl) (fun _ _ _ h => h) (by rfl) hS (by intro w _; go_simp; with_reducible rfl) ?_
    try simp only [Act.put, List.setIfInBounds_toArray, List.set_cons_zero, List.set_cons_succ]
    refine take 10 _ rfl (by kernel_rfl) (by kernel_rfl) (by kernel_rfl) (fun _ _ _ h => h) (by rfl) hS (by intro w _; go_simp; with_reducible rfl) ?_
    try simp only [Act.put, List.setIfInBounds_toArray, List.set_cons_zero, List.set_cons_succ]
    refine take 11 _ rfl (by kernel_rfl) (by kernel_rfl) (by kernel_rfl) (fun _ _ _ h => h) (by rfl) hS (by intro w _; go_simp; with_reducible rfl) ?_
    try simp only [Act.put, List.setIfInBounds_toArray, List.set_cons_zero, List.set_cons_succ]
    refine take 12 _ rfl (by kernel_rfl) (by kernel_rfl) (by kernel_rfl) (fun _ _ _ h => h) (by rfl) hS (fun w hw => run_string_op 22 9 5 _ rfl rfl Tryd.underlying22 Tryd.underlying5 Tryd.underlying9 (K8.out.below hw (Nat.le_refl _))) ?_
    try simp only [Act.put, List.setIfInBounds_toArray, List.set_cons_zero, List.set_cons_succ]
    refine take 13 _ rfl (by kernel_rfl) (by kernel_rfl) (by kernel_rfl) (fun _ _ _ h => h) (by rfl) hS (by intro w _; go_simp; with_reducible rfl) ?_
    try simp only [Act.put, List.setIfInBounds_toArray, List.set_cons_zero, List.set_cons_succ]
    refine take 14 _ rfl (by kernel_rfl) (by kernel_rfl) (by kernel_rfl) (fun _ _ _ h => h) (by rfl) hS (by intro w _; go_simp; with_reducible rfl) ?_
    try simp only [Act.put, List.setIfInBounds_toArray, List.set_cons_zero, List.set_cons_succ]
    refine alone 15 rfl (by kernel_rfl) (by rfl) ?_
    intro K hK
    go_simp
    refine (RJ.out _ (src_of_rd (KA.out.below hS (Nat.le_refl _)) (by omega)) (src_below VSB.out hS)).mono ?_
    rintro e q15 ⟨AC2, cc2, rfl, oc, hb⟩
    have OC2 := Lib.hid oc
    clear oc
    go_simp
    replace hS := below_trans hS hb
    refine hK.out _ _ hS ?_
    clear hK hb K
    try simp only [Act.put, List.setIfInBounds_toArray, List.set_cons_zero, List.set_cons_succ]
    refine alone_run 16 _ rfl (by kernel_rfl) (by rfl) hS (run_string_op 22 9 5 _ rfl rfl Tryd.underlying22 Tryd.underlying5 Tryd.underlying9 (OC2.out)) ?_
    try simp only [Act.put, List.setIfInBounds_toArray, List.set_cons_zero, List.set_cons_succ]
    refine take 17 _ rfl (by kernel_rfl) (by kernel_rfl) (by kernel_rfl) (fun _ _ _ h => h) (by rfl) hS (by intro w _; go_simp; with_reducible rfl) ?_
    try simp only [Act.put, List.setIfInBounds_toArray, List.set_cons_zero, List.set_cons_succ]
    refine take 18 _ rfl (by kernel_rfl) (by kernel_rfl) (by kernel_rfl) (fun _ _ _ h => h) (by rfl) hS (by intro w _; go_simp; with_reducible rfl) ?_
    try simp only [Act.put, List.setIfInBounds_toArray, List.set_cons_zero, List.set_cons_succ]
    refine take 19 _ rfl (by kernel_rfl) (by kernel_rfl) (by kernel_rfl) (fun _ _ _ h => h) (by rfl) hS (by intro w _; go_simp; with_reducible rfl) ?_
    try simp only [Act.put, List.setIfInBounds_toArray, List.set_cons_zero, List.set_cons_succ]
    refine region_end (by kernel_rfl) ?_
    have HB9 := Lib.hid (VB.out.trans (hS.mono hBV))
    clear hS
    go_wp2_with fail
    go_ret
    exact ⟨by simp, by rw [hB]; exact HB9.out⟩

end KdfMarks
end Go.Proofs.YtljepgddmfelpaaDoor
