/- 'aditlaw09.StampOrder' returns true at every input and writes nothing that was there: the walk. No condition. -/
import Derived.Test.YthjmbfhakccomaaStampAlive
import Derived.Test.YthjmbfhakccomaaQuietB
namespace Go.Proofs.Ythjmbfhakccomaa
namespace StampOrder
open Go.ChangeShapes Go.WideShapes Go.ChangeAt Go.RowKit
open Num Mem Words Chacha Aead Ref Quiet Stamp

set_option maxRecDepth 100000 in
set_option maxHeartbeats 4000000 in
theorem run11 (s t : Int) (hs : right s) (ht : right t) (w : World) :
    Calls Try.prog 6 #[.int .i64 s, .int .i64 t] w fun e w' => e = .returned (.bool true) ∧ Below w.heap.size w w' := by
  have HZ12 := Lib.hid (show ∀ f, (byteCells f 12).toArray.size = 12 from fun f => by rw [List.size_toArray, byteCells_length])
  obtain ⟨n, rfl⟩ : ∃ n : Nat, s = (n : Int) := ⟨s.toNat, by have := hs.1; omega⟩
  obtain ⟨m, rfl⟩ : ∃ m : Nat, t = (m : Int) := ⟨t.toNat, by have := ht.1; omega⟩
  have hn : n ≤ 1099511627776 := by have := hs.2; omega
  have hm : m ≤ 1099511627776 := by have := ht.2; omega
  have CX := Lib.hid (fun w => write_ok n hn w)
  have CY := Lib.hid (fun w => write_ok m hm w)
  have CA := Lib.hid (fun w => after_any (label n) (label m) (label_lt n) (label_lt m) w)
  obtain ⟨d, hd⟩ : ∃ d, decide ((m : Int) < (n : Int)) = d := ⟨_, rfl⟩
  obtain ⟨r, hr⟩ : ∃ r, ((n : Int) == (m : Int)) = r := ⟨_, rfl⟩
  rw [show decide (whole (label m) < whole (label n)) = d from by rw [← hd]; exact decide_eq_decide.2 ((label_order m n hm hn).trans (by omega))] at CA
  have CL := Lib.hid (fun w => later_any (n : Int) (m : Int) d (by rw [← hd, decide_eq_true_eq]; exact ⟨fun h => ⟨hs, ht, h⟩, fun h => h.2.2⟩) w)
  have EQ := Lib.hid (fun w => run_eql_arr (P := Try.prog) 22 5 12 Try.underlying22 Try.underlying5 size_u8 (label n) (label m) (label_lt n) (label_lt m) r (by rw [← hr, beq_iff_eq, ← whole_inj _ _ (label_lt n) (label_lt m)]; have h1 := label_order n m hn hm; have h2 := label_order m n hm hn; constructor <;> intro h <;> omega) w)
  have hd2 : decide (m < n) = d := by rw [← hd]; exact decide_eq_decide.2 (by omega)
  have hr2 : (n == m) = r := by rw [← hr, Bool.eq_iff_iff, beq_iff_eq, beq_iff_eq]; omega
  have hr3 : decide (n = m) = r := by rw [← hr2, Bool.eq_iff_iff, beq_iff_eq, decide_eq_true_eq]
  obtain ⟨X, hX⟩ : ∃ X, label n = X := ⟨_, rfl⟩
  obtain ⟨Y, hY⟩ : ∃ Y, label m = Y := ⟨_, rfl⟩
  rw [hX] at CX CA EQ
  rw [hY] at CY CA EQ
  clear hX hY hs ht hn hm
  go_enter Try.func6, Try.ntmps6
  generalize hB : w.heap.size = B
  have HB := Lib.hid hB
  have KB := Lib.hid (show Below B w w from hB ▸ Below.refl w.heap.size w)
  have lo : B ≤ w.heap.size := by omega
  clear hB
  go_wp2_with fail
  refine (CX.out _).mono ?_
  rintro e w1 ⟨rfl, hb⟩
  have hsz := hb.size
  replace KB := Lib.hid (KB.out.trans (hb.mono (by omega)))
  clear hb
  go_upto_region 2 with (refine wpList_store_row rfl 22 (.tmp 5) (.tmp 12) rfl w1.heap.size (byteCells (X) 12).toArray rfl rfl 22 _ (Whole.new _ _ _) (by rw [HZ12.out]; kernel_rfl) (by rw [HZ12.out]; rfl) (bytes_one _ _) ?_)
  try simp only [Act.put]
  refine cut_world (fun V => Whole V w1.heap.size 22 (byteCells (X) 12).toArray ∧ Below B w V ∧ B ≤ w1.heap.size) ⟨setRow_heap _ _ _ _ _ _ (Whole.new _ _ _), below_setRow (KB.out.alloc (by omega) _) (by omega) _, by omega⟩ ?_
  clear KB 
  generalize w1.heap.size = G
  rintro XG ⟨kn, kb, loG⟩
  have KG := Lib.hid kn
  have KB := Lib.hid kb
  clear kn kb 
  go_wp2_with fail
  refine (CY.out _).mono ?_
  rintro e w2 ⟨rfl, hb⟩
  have lt_KG := KG.out.lt
  replace KG := Lib.hid (KG.out.below hb lt_KG)
  have hsz := hb.size
  replace KB := Lib.hid (KB.out.trans (hb.mono (by omega)))
  clear hb
  go_upto_region 3 with (refine wpList_store_row rfl 22 (.tmp 7) (.tmp 17) rfl w2.heap.size (byteCells (Y) 12).toArray rfl rfl 22 _ (Whole.new _ _ _) (by rw [HZ12.out]; kernel_rfl) (by rw [HZ12.out]; rfl) (bytes_one _ _) ?_)
  try simp only [Act.put]
  refine cut_world (fun V => Whole V (G) 22 (byteCells (X) 12).toArray ∧ Whole V w2.heap.size 22 (byteCells (Y) 12).toArray ∧ Below B w V ∧ B ≤ w2.heap.size) ⟨(setRow_other _ _ _ _ (by omega)).trans (KG.out.alloc _), setRow_heap _ _ _ _ _ _ (Whole.new _ _ _), below_setRow (KB.out.alloc (by omega) _) (by omega) _, by omega⟩ ?_
  clear KB KG lt_KG
  generalize w2.heap.size = H
  rintro XH ⟨kKG, kn, kb, loH⟩
  have KG := Lib.hid kKG
  have KH := Lib.hid kn
  have KB := Lib.hid kb
  clear kn kb kKG
  go_wp2_with fail
  refine (alive_any _).mono ?_
  rintro e w3 ⟨rfl, hb⟩
  have lt_KG := KG.out.lt
  have lt_KH := KH.out.lt
  replace KG := Lib.hid (KG.out.below hb lt_KG)
  replace KH := Lib.hid (KH.out.below hb lt_KH)
  have hsz := hb.size
  replace KB := Lib.hid (KB.out.trans (hb.mono (by omega)))
  clear hb
  go_wp2_with (first | (refine wpList_load_row_if (by rfl) 22 (.tmp 5) rfl (G) rfl 22 (byteCells (X) 12) _ KG.out rfl rfl (by rw [byteCells_length]; kernel_rfl) ?_) | (refine wpList_load_row_if (by rfl) 22 (.tmp 7) rfl (H) rfl 22 (byteCells (Y) 12) _ KH.out rfl rfl (by rw [byteCells_length]; kernel_rfl) ?_))
  refine (CA.out _).mono ?_
  rintro e w4 ⟨rfl, hb⟩
  have lt_KG := KG.out.lt
  have lt_KH := KH.out.lt
  replace KG := Lib.hid (KG.out.below hb lt_KG)
  replace KH := Lib.hid (KH.out.below hb lt_KH)
  have hsz := hb.size
  replace KB := Lib.hid (KB.out.trans (hb.mono (by omega)))
  clear hb
  go_wp2_with (first | (refine wpList_load_row_if (by rfl) 22 (.tmp 5) rfl (G) rfl 22 (byteCells (X) 12) _ KG.out rfl rfl (by rw [byteCells_length]; kernel_rfl) ?_) | (refine wpList_load_row_if (by rfl) 22 (.tmp 7) rfl (H) rfl 22 (byteCells (Y) 12) _ KH.out rfl rfl (by rw [byteCells_length]; kernel_rfl) ?_) | (simp only [EQ.out, Result.andThen_ok]))
  refine (CL.out _).mono ?_
  rintro e w5 ⟨rfl, rfl⟩
  go_wp2_with fail
  go_ret
  exact ⟨rfl, KB.out⟩

set_option maxRecDepth 100000 in
set_option maxHeartbeats 4000000 in
theorem run10 (s t : Int) (hs : right s) (ht : ¬ right t) (w : World) :
    Calls Try.prog 6 #[.int .i64 s, .int .i64 t] w fun e w' => e = .returned (.bool true) ∧ Below w.heap.size w w' := by
  have HZ12 := Lib.hid (show ∀ f, (byteCells f 12).toArray.size = 12 from fun f => by rw [List.size_toArray, byteCells_length])
  have CX := Lib.hid (fun w => write_any s w)
  rw [show wE s = 0 from by unfold wE; rw [if_pos hs]] at CX
  have CY := Lib.hid (fun w => write_any t w)
  rw [show wE t = 1 from by unfold wE; rw [if_neg ht]] at CY
  have CL := Lib.hid (fun w => later_any s t false ⟨fun e => (by cases e), fun k => absurd k.2.1 ht⟩ w)
  generalize wF s = X at CX
  generalize wF t = Y at CY
  clear hs ht
  go_enter Try.func6, Try.ntmps6
  generalize hB : w.heap.size = B
  have HB := Lib.hid hB
  have KB := Lib.hid (show Below B w w from hB ▸ Below.refl w.heap.size w)
  have lo : B ≤ w.heap.size := by omega
  clear hB
  go_wp2_with fail
  refine (CX.out _).mono ?_
  rintro e w1 ⟨rfl, hb⟩
  have hsz := hb.size
  replace KB := Lib.hid (KB.out.trans (hb.mono (by omega)))
  clear hb
  go_upto_region 2 with (refine wpList_store_row rfl 22 (.tmp 5) (.tmp 12) rfl w1.heap.size (byteCells (X) 12).toArray rfl rfl 22 _ (Whole.new _ _ _) (by rw [HZ12.out]; kernel_rfl) (by rw [HZ12.out]; rfl) (bytes_one _ _) ?_)
  try simp only [Act.put]
  refine cut_world (fun V => Whole V w1.heap.size 22 (byteCells (X) 12).toArray ∧ Below B w V ∧ B ≤ w1.heap.size) ⟨setRow_heap _ _ _ _ _ _ (Whole.new _ _ _), below_setRow (KB.out.alloc (by omega) _) (by omega) _, by omega⟩ ?_
  clear KB 
  generalize w1.heap.size = G
  rintro XG ⟨kn, kb, loG⟩
  have KG := Lib.hid kn
  have KB := Lib.hid kb
  clear kn kb 
  go_wp2_with fail
  refine (CY.out _).mono ?_
  rintro e w2 ⟨rfl, hb⟩
  have lt_KG := KG.out.lt
  replace KG := Lib.hid (KG.out.below hb lt_KG)
  have hsz := hb.size
  replace KB := Lib.hid (KB.out.trans (hb.mono (by omega)))
  clear hb
  go_upto_region 3 with (refine wpList_store_row rfl 22 (.tmp 7) (.tmp 17) rfl w2.heap.size (byteCells (Y) 12).toArray rfl rfl 22 _ (Whole.new _ _ _) (by rw [HZ12.out]; kernel_rfl) (by rw [HZ12.out]; rfl) (bytes_one _ _) ?_)
  try simp only [Act.put]
  refine cut_world (fun V => Whole V (G) 22 (byteCells (X) 12).toArray ∧ Whole V w2.heap.size 22 (byteCells (Y) 12).toArray ∧ Below B w V ∧ B ≤ w2.heap.size) ⟨(setRow_other _ _ _ _ (by omega)).trans (KG.out.alloc _), setRow_heap _ _ _ _ _ _ (Whole.new _ _ _), below_setRow (KB.out.alloc (by omega) _) (by omega) _, by omega⟩ ?_
  clear KB KG lt_KG
  generalize w2.heap.size = H
  rintro XH ⟨kKG, kn, kb, loH⟩
  have KG := Lib.hid kKG
  have KH := Lib.hid kn
  have KB := Lib.hid kb
  clear kn kb kKG
  go_wp2_with fail
  refine (alive_any _).mono ?_
  rintro e w3 ⟨rfl, hb⟩
  have lt_KG := KG.out.lt
  have lt_KH := KH.out.lt
  replace KG := Lib.hid (KG.out.below hb lt_KG)
  replace KH := Lib.hid (KH.out.below hb lt_KH)
  have hsz := hb.size
  replace KB := Lib.hid (KB.out.trans (hb.mono (by omega)))
  clear hb
  go_wp2_with fail
  refine (CL.out _).mono ?_
  rintro e w5 ⟨rfl, rfl⟩
  go_wp2_with fail
  go_ret
  exact ⟨rfl, KB.out⟩

set_option maxRecDepth 100000 in
set_option maxHeartbeats 4000000 in
theorem run01 (s t : Int) (hs : ¬ right s) (ht : right t) (w : World) :
    Calls Try.prog 6 #[.int .i64 s, .int .i64 t] w fun e w' => e = .returned (.bool true) ∧ Below w.heap.size w w' := by
  have HZ12 := Lib.hid (show ∀ f, (byteCells f 12).toArray.size = 12 from fun f => by rw [List.size_toArray, byteCells_length])
  have CX := Lib.hid (fun w => write_any s w)
  rw [show wE s = 1 from by unfold wE; rw [if_neg hs]] at CX
  have CY := Lib.hid (fun w => write_any t w)
  rw [show wE t = 0 from by unfold wE; rw [if_pos ht]] at CY
  have CL := Lib.hid (fun w => later_any s t false ⟨fun e => (by cases e), fun k => absurd k.1 hs⟩ w)
  generalize wF s = X at CX
  generalize wF t = Y at CY
  clear hs ht
  go_enter Try.func6, Try.ntmps6
  generalize hB : w.heap.size = B
  have HB := Lib.hid hB
  have KB := Lib.hid (show Below B w w from hB ▸ Below.refl w.heap.size w)
  have lo : B ≤ w.heap.size := by omega
  clear hB
  go_wp2_with fail
  refine (CX.out _).mono ?_
  rintro e w1 ⟨rfl, hb⟩
  have hsz := hb.size
  replace KB := Lib.hid (KB.out.trans (hb.mono (by omega)))
  clear hb
  go_upto_region 2 with (refine wpList_store_row rfl 22 (.tmp 5) (.tmp 12) rfl w1.heap.size (byteCells (X) 12).toArray rfl rfl 22 _ (Whole.new _ _ _) (by rw [HZ12.out]; kernel_rfl) (by rw [HZ12.out]; rfl) (bytes_one _ _) ?_)
  try simp only [Act.put]
  refine cut_world (fun V => Whole V w1.heap.size 22 (byteCells (X) 12).toArray ∧ Below B w V ∧ B ≤ w1.heap.size) ⟨setRow_heap _ _ _ _ _ _ (Whole.new _ _ _), below_setRow (KB.out.alloc (by omega) _) (by omega) _, by omega⟩ ?_
  clear KB 
  generalize w1.heap.size = G
  rintro XG ⟨kn, kb, loG⟩
  have KG := Lib.hid kn
  have KB := Lib.hid kb
  clear kn kb 
  go_wp2_with fail
  refine (CY.out _).mono ?_
  rintro e w2 ⟨rfl, hb⟩
  have lt_KG := KG.out.lt
  replace KG := Lib.hid (KG.out.below hb lt_KG)
  have hsz := hb.size
  replace KB := Lib.hid (KB.out.trans (hb.mono (by omega)))
  clear hb
  go_upto_region 3 with (refine wpList_store_row rfl 22 (.tmp 7) (.tmp 17) rfl w2.heap.size (byteCells (Y) 12).toArray rfl rfl 22 _ (Whole.new _ _ _) (by rw [HZ12.out]; kernel_rfl) (by rw [HZ12.out]; rfl) (bytes_one _ _) ?_)
  try simp only [Act.put]
  refine cut_world (fun V => Whole V (G) 22 (byteCells (X) 12).toArray ∧ Whole V w2.heap.size 22 (byteCells (Y) 12).toArray ∧ Below B w V ∧ B ≤ w2.heap.size) ⟨(setRow_other _ _ _ _ (by omega)).trans (KG.out.alloc _), setRow_heap _ _ _ _ _ _ (Whole.new _ _ _), below_setRow (KB.out.alloc (by omega) _) (by omega) _, by omega⟩ ?_
  clear KB KG lt_KG
  generalize w2.heap.size = H
  rintro XH ⟨kKG, kn, kb, loH⟩
  have KG := Lib.hid kKG
  have KH := Lib.hid kn
  have KB := Lib.hid kb
  clear kn kb kKG
  go_wp2_with fail
  refine (alive_any _).mono ?_
  rintro e w3 ⟨rfl, hb⟩
  have lt_KG := KG.out.lt
  have lt_KH := KH.out.lt
  replace KG := Lib.hid (KG.out.below hb lt_KG)
  replace KH := Lib.hid (KH.out.below hb lt_KH)
  have hsz := hb.size
  replace KB := Lib.hid (KB.out.trans (hb.mono (by omega)))
  clear hb
  go_wp2_with fail
  refine (CL.out _).mono ?_
  rintro e w5 ⟨rfl, rfl⟩
  go_wp2_with fail
  go_ret
  exact ⟨rfl, KB.out⟩

set_option maxRecDepth 100000 in
set_option maxHeartbeats 4000000 in
theorem run00 (s t : Int) (hs : ¬ right s) (ht : ¬ right t) (w : World) :
    Calls Try.prog 6 #[.int .i64 s, .int .i64 t] w fun e w' => e = .returned (.bool true) ∧ Below w.heap.size w w' := by
  have HZ12 := Lib.hid (show ∀ f, (byteCells f 12).toArray.size = 12 from fun f => by rw [List.size_toArray, byteCells_length])
  have CX := Lib.hid (fun w => write_any s w)
  rw [show wE s = 1 from by unfold wE; rw [if_neg hs]] at CX
  have CY := Lib.hid (fun w => write_any t w)
  rw [show wE t = 1 from by unfold wE; rw [if_neg ht]] at CY
  have CL := Lib.hid (fun w => later_any s t false ⟨fun e => (by cases e), fun k => absurd k.2.1 ht⟩ w)
  generalize wF s = X at CX
  generalize wF t = Y at CY
  clear hs ht
  go_enter Try.func6, Try.ntmps6
  generalize hB : w.heap.size = B
  have HB := Lib.hid hB
  have KB := Lib.hid (show Below B w w from hB ▸ Below.refl w.heap.size w)
  have lo : B ≤ w.heap.size := by omega
  clear hB
  go_wp2_with fail
  refine (CX.out _).mono ?_
  rintro e w1 ⟨rfl, hb⟩
  have hsz := hb.size
  replace KB := Lib.hid (KB.out.trans (hb.mono (by omega)))
  clear hb
  go_upto_region 2 with (refine wpList_store_row rfl 22 (.tmp 5) (.tmp 12) rfl w1.heap.size (byteCells (X) 12).toArray rfl rfl 22 _ (Whole.new _ _ _) (by rw [HZ12.out]; kernel_rfl) (by rw [HZ12.out]; rfl) (bytes_one _ _) ?_)
  try simp only [Act.put]
  refine cut_world (fun V => Whole V w1.heap.size 22 (byteCells (X) 12).toArray ∧ Below B w V ∧ B ≤ w1.heap.size) ⟨setRow_heap _ _ _ _ _ _ (Whole.new _ _ _), below_setRow (KB.out.alloc (by omega) _) (by omega) _, by omega⟩ ?_
  clear KB 
  generalize w1.heap.size = G
  rintro XG ⟨kn, kb, loG⟩
  have KG := Lib.hid kn
  have KB := Lib.hid kb
  clear kn kb 
  go_wp2_with fail
  refine (CY.out _).mono ?_
  rintro e w2 ⟨rfl, hb⟩
  have lt_KG := KG.out.lt
  replace KG := Lib.hid (KG.out.below hb lt_KG)
  have hsz := hb.size
  replace KB := Lib.hid (KB.out.trans (hb.mono (by omega)))
  clear hb
  go_upto_region 3 with (refine wpList_store_row rfl 22 (.tmp 7) (.tmp 17) rfl w2.heap.size (byteCells (Y) 12).toArray rfl rfl 22 _ (Whole.new _ _ _) (by rw [HZ12.out]; kernel_rfl) (by rw [HZ12.out]; rfl) (bytes_one _ _) ?_)
  try simp only [Act.put]
  refine cut_world (fun V => Whole V (G) 22 (byteCells (X) 12).toArray ∧ Whole V w2.heap.size 22 (byteCells (Y) 12).toArray ∧ Below B w V ∧ B ≤ w2.heap.size) ⟨(setRow_other _ _ _ _ (by omega)).trans (KG.out.alloc _), setRow_heap _ _ _ _ _ _ (Whole.new _ _ _), below_setRow (KB.out.alloc (by omega) _) (by omega) _, by omega⟩ ?_
  clear KB KG lt_KG
  generalize w2.heap.size = H
  rintro XH ⟨kKG, kn, kb, loH⟩
  have KG := Lib.hid kKG
  have KH := Lib.hid kn
  have KB := Lib.hid kb
  clear kn kb kKG
  go_wp2_with fail
  refine (alive_any _).mono ?_
  rintro e w3 ⟨rfl, hb⟩
  have lt_KG := KG.out.lt
  have lt_KH := KH.out.lt
  replace KG := Lib.hid (KG.out.below hb lt_KG)
  replace KH := Lib.hid (KH.out.below hb lt_KH)
  have hsz := hb.size
  replace KB := Lib.hid (KB.out.trans (hb.mono (by omega)))
  clear hb
  go_wp2_with fail
  refine (CL.out _).mono ?_
  rintro e w5 ⟨rfl, rfl⟩
  go_wp2_with fail
  go_ret
  exact ⟨rfl, KB.out⟩

theorem walk (a0 a1 : Int) (w : World) (_ : (Lit.int .i64 a0).wf = true) (_ : (Lit.int .i64 a1).wf = true) :
    Calls Try.prog 6 #[.int .i64 a0, .int .i64 a1] w fun e w' => e = .returned (.bool true) ∧ Below w.heap.size w w' := by
  by_cases h : right a0
  · by_cases k : right a1
    · exact run11 a0 a1 h k w
    · exact run10 a0 a1 h k w
  · by_cases k : right a1
    · exact run01 a0 a1 h k w
    · exact run00 a0 a1 h k w

end StampOrder
end Go.Proofs.Ythjmbfhakccomaa
