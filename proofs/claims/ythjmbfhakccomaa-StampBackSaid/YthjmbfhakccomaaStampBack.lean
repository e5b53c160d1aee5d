/- 'aditlaw09.StampBack' returns true at every input and writes nothing that was there: the walk. No condition. -/
import Derived.Test.YthjmbfhakccomaaStampAlive
import Derived.Test.YthjmbfhakccomaaQuietB
namespace Go.Proofs.Ythjmbfhakccomaa
namespace StampBack
open Go.ChangeShapes Go.WideShapes Go.ChangeAt Go.RowKit
open Num Mem Words Chacha Aead Ref Quiet Stamp

theorem wE_of {t : Int} : wE t = 0 ↔ right t := by
  unfold wE
  split <;> simp_all

set_option maxRecDepth 100000 in
set_option maxHeartbeats 4000000 in
theorem run11 (t : Int) (f : Nat → Nat) (hf : ∀ i, f i < 256) (ht : right t) (hl : IsLabel f) (w : World) :
    Calls Try.prog 5 #[.int .i64 t, .agg (byteCells f 12).toArray] w fun e w' => e = .returned (.bool true) ∧ Below w.heap.size w w' := by
  have HZ12 := Lib.hid (show ∀ f, (byteCells f 12).toArray.size = 12 from fun f => by rw [List.size_toArray, byteCells_length])
  have HF := Lib.hid hf
  obtain ⟨n, rfl⟩ : ∃ n : Nat, t = (n : Int) := ⟨t.toNat, by have := ht.1; omega⟩
  have hn : n ≤ 1099511627776 := by have := ht.2; omega
  have CW := Lib.hid (fun w => write_ok n hn w)
  have CR := Lib.hid (fun w => read_any (label n) (label_lt n) w)
  have e1 := label_is n hn
  rw [show readV (label n) = n from by unfold readV; rw [if_pos e1.1, e1.2], show readE (label n) = 0 from by unfold readE; rw [if_pos e1.1]] at CR
  clear e1
  have HR := Lib.hid ht
  obtain ⟨T, hT⟩ : ∃ T, label n = T := ⟨_, rfl⟩
  rw [hT] at CW CR
  clear hT ht
  have CB := Lib.hid (fun w => read_any f hf w)
  rw [show readV f = timeOf f from by unfold readV; rw [if_pos hl], show readE f = 0 from by unfold readE; rw [if_pos hl]] at CB
  have CY := Lib.hid (fun w => write_ok (timeOf f) hl.2.2.2.2 w)
  have EQ := Lib.hid (fun w => run_eql_arr (P := Try.prog) 22 5 12 Try.underlying22 Try.underlying5 size_u8 (label (timeOf f)) f (label_lt _) hf true ⟨fun _ => is_label f hf hl, fun _ => rfl⟩ w)
  obtain ⟨Y, hY⟩ : ∃ Y, label (timeOf f) = Y := ⟨_, rfl⟩
  rw [hY] at CY EQ
  generalize timeOf f = u at CB CY
  clear hY hl hf
  rw [byteCells_lit12 f]
  go_enter Try.func5, Try.ntmps5
  go_upto_region 1 with fail
  rw [← byteCells_lit12 f]
  refine cut_world (fun W => Whole W (w.heap.size) 22 (byteCells f 12).toArray ∧ Below w.heap.size w W) ⟨whole_new _ _ rfl, below_alloc (Below.refl _ _) _⟩ ?_
  rintro W ⟨kf, kb⟩
  have Kf := Lib.hid kf
  have KB := Lib.hid kb
  have lo := kb.size
  have lt := kf.lt
  clear kf kb
  generalize hB : w.heap.size = B at Kf KB lo lt ⊢
  have HB := Lib.hid hB
  clear hB
  go_wp2_with fail
  refine (CW.out _).mono ?_
  rintro e w1 ⟨rfl, hb⟩
  have lt_Kf := Kf.out.lt
  replace Kf := Lib.hid (Kf.out.below hb lt_Kf)
  have hsz := hb.size
  replace KB := Lib.hid (KB.out.trans (hb.mono (by omega)))
  clear hb
  go_upto_region 2 with (refine wpList_store_row rfl 22 (.tmp 5) (.tmp 16) rfl w1.heap.size (byteCells (T) 12).toArray rfl rfl 22 _ (Whole.new _ _ _) (by rw [HZ12.out]; kernel_rfl) (by rw [HZ12.out]; rfl) (bytes_one _ _) ?_)
  try simp only [Act.put]
  refine cut_world (fun V => Whole V (B) 22 (byteCells (f) 12).toArray ∧ Whole V w1.heap.size 22 (byteCells (T) 12).toArray ∧ Below B w V ∧ B ≤ w1.heap.size) ⟨(setRow_other _ _ _ _ (by omega)).trans (Kf.out.alloc _), setRow_heap _ _ _ _ _ _ (Whole.new _ _ _), below_setRow (KB.out.alloc (by omega) _) (by omega) _, by omega⟩ ?_
  clear KB Kf lt_Kf
  generalize w1.heap.size = G
  rintro XG ⟨kKf, kn, kb, loG⟩
  have Kf := Lib.hid kKf
  have KG := Lib.hid kn
  have KB := Lib.hid kb
  clear kn kb kKf
  go_wp2_with (refine wpList_load_row_if (by rfl) 22 (.tmp 5) rfl (G) rfl 22 (byteCells (T) 12) _ KG.out rfl rfl (by rw [byteCells_length]; kernel_rfl) ?_)
  refine (CR.out _).mono ?_
  rintro e w2 ⟨rfl, hb⟩
  have lt_Kf := Kf.out.lt
  have lt_KG := KG.out.lt
  replace Kf := Lib.hid (Kf.out.below hb lt_Kf)
  replace KG := Lib.hid (KG.out.below hb lt_KG)
  have hsz := hb.size
  replace KB := Lib.hid (KB.out.trans (hb.mono (by omega)))
  clear hb
  go_wp2_with (refine wpList_load_row_if (by rfl) 22 (.tmp 3) rfl (B) rfl 22 (byteCells (f) 12) _ Kf.out rfl rfl (by rw [byteCells_length]; kernel_rfl) ?_)
  refine (CB.out _).mono ?_
  rintro e w3 ⟨rfl, hb⟩
  have lt_Kf := Kf.out.lt
  replace Kf := Lib.hid (Kf.out.below hb lt_Kf)
  have hsz := hb.size
  replace KB := Lib.hid (KB.out.trans (hb.mono (by omega)))
  clear hb
  go_wp2_with fail
  refine (CY.out _).mono ?_
  rintro e w4 ⟨rfl, hb⟩
  have lt_Kf := Kf.out.lt
  replace Kf := Lib.hid (Kf.out.below hb lt_Kf)
  have hsz := hb.size
  replace KB := Lib.hid (KB.out.trans (hb.mono (by omega)))
  clear hb
  go_upto_region 8 with (refine wpList_store_row rfl 22 (.tmp 11) (.tmp 40) rfl w4.heap.size (byteCells (Y) 12).toArray rfl rfl 22 _ (Whole.new _ _ _) (by rw [HZ12.out]; kernel_rfl) (by rw [HZ12.out]; rfl) (bytes_one _ _) ?_)
  try simp only [Act.put]
  refine cut_world (fun V => Whole V (B) 22 (byteCells (f) 12).toArray ∧ Whole V w4.heap.size 22 (byteCells (Y) 12).toArray ∧ Below B w V ∧ B ≤ w4.heap.size) ⟨(setRow_other _ _ _ _ (by omega)).trans (Kf.out.alloc _), setRow_heap _ _ _ _ _ _ (Whole.new _ _ _), below_setRow (KB.out.alloc (by omega) _) (by omega) _, by omega⟩ ?_
  clear KB Kf lt_Kf
  generalize w4.heap.size = H
  rintro XH ⟨kKf, kn, kb, loH⟩
  have Kf := Lib.hid kKf
  have KH := Lib.hid kn
  have KB := Lib.hid kb
  clear kn kb kKf
  go_wp2_with fail
  refine (alive_any _).mono ?_
  rintro e w5 ⟨rfl, hb⟩
  have lt_Kf := Kf.out.lt
  have lt_KH := KH.out.lt
  replace Kf := Lib.hid (Kf.out.below hb lt_Kf)
  replace KH := Lib.hid (KH.out.below hb lt_KH)
  have hsz := hb.size
  replace KB := Lib.hid (KB.out.trans (hb.mono (by omega)))
  clear hb
  go_wp2_with (first | (refine wpList_load_row_if (by rfl) 22 (.tmp 11) rfl (H) rfl 22 (byteCells (Y) 12) _ KH.out rfl rfl (by rw [byteCells_length]; kernel_rfl) ?_) | (refine wpList_load_row_if (by rfl) 22 (.tmp 3) rfl (B) rfl 22 (byteCells (f) 12) _ Kf.out rfl rfl (by rw [byteCells_length]; kernel_rfl) ?_) | (simp only [EQ.out, Result.andThen_ok]))
  refine (right_any _ true ⟨fun _ => HR.out, fun _ => rfl⟩ _).mono ?_
  rintro e w6 ⟨rfl, rfl⟩
  go_wp2_with fail
  go_ret
  exact ⟨rfl, by rw [HB.out]; exact KB.out⟩

set_option maxRecDepth 100000 in
set_option maxHeartbeats 4000000 in
theorem run10 (t : Int) (f : Nat → Nat) (hf : ∀ i, f i < 256) (ht : right t) (hl : ¬ IsLabel f) (w : World) :
    Calls Try.prog 5 #[.int .i64 t, .agg (byteCells f 12).toArray] w fun e w' => e = .returned (.bool true) ∧ Below w.heap.size w w' := by
  have HZ12 := Lib.hid (show ∀ f, (byteCells f 12).toArray.size = 12 from fun f => by rw [List.size_toArray, byteCells_length])
  have HF := Lib.hid hf
  obtain ⟨n, rfl⟩ : ∃ n : Nat, t = (n : Int) := ⟨t.toNat, by have := ht.1; omega⟩
  have hn : n ≤ 1099511627776 := by have := ht.2; omega
  have CW := Lib.hid (fun w => write_ok n hn w)
  have CR := Lib.hid (fun w => read_any (label n) (label_lt n) w)
  have e1 := label_is n hn
  rw [show readV (label n) = n from by unfold readV; rw [if_pos e1.1, e1.2], show readE (label n) = 0 from by unfold readE; rw [if_pos e1.1]] at CR
  clear e1
  have HR := Lib.hid ht
  obtain ⟨T, hT⟩ : ∃ T, label n = T := ⟨_, rfl⟩
  rw [hT] at CW CR
  clear hT ht
  have CB := Lib.hid (fun w => read_any f hf w)
  rw [show readV f = 0 from by unfold readV; rw [if_neg hl], show readE f = 3 from by unfold readE; rw [if_neg hl]] at CB
  have CY := Lib.hid (fun w => write_ok 0 (by omega) w)
  obtain ⟨Y, hY⟩ : ∃ Y, label 0 = Y := ⟨_, rfl⟩
  rw [hY] at CY
  clear hY hl hf
  rw [byteCells_lit12 f]
  go_enter Try.func5, Try.ntmps5
  go_upto_region 1 with fail
  rw [← byteCells_lit12 f]
  refine cut_world (fun W => Whole W (w.heap.size) 22 (byteCells f 12).toArray ∧ Below w.heap.size w W) ⟨whole_new _ _ rfl, below_alloc (Below.refl _ _) _⟩ ?_
  rintro W ⟨kf, kb⟩
  have Kf := Lib.hid kf
  have KB := Lib.hid kb
  have lo := kb.size
  have lt := kf.lt
  clear kf kb
  generalize hB : w.heap.size = B at Kf KB lo lt ⊢
  have HB := Lib.hid hB
  clear hB
  go_wp2_with fail
  refine (CW.out _).mono ?_
  rintro e w1 ⟨rfl, hb⟩
  have lt_Kf := Kf.out.lt
  replace Kf := Lib.hid (Kf.out.below hb lt_Kf)
  have hsz := hb.size
  replace KB := Lib.hid (KB.out.trans (hb.mono (by omega)))
  clear hb
  go_upto_region 2 with (refine wpList_store_row rfl 22 (.tmp 5) (.tmp 16) rfl w1.heap.size (byteCells (T) 12).toArray rfl rfl 22 _ (Whole.new _ _ _) (by rw [HZ12.out]; kernel_rfl) (by rw [HZ12.out]; rfl) (bytes_one _ _) ?_)
  try simp only [Act.put]
  refine cut_world (fun V => Whole V (B) 22 (byteCells (f) 12).toArray ∧ Whole V w1.heap.size 22 (byteCells (T) 12).toArray ∧ Below B w V ∧ B ≤ w1.heap.size) ⟨(setRow_other _ _ _ _ (by omega)).trans (Kf.out.alloc _), setRow_heap _ _ _ _ _ _ (Whole.new _ _ _), below_setRow (KB.out.alloc (by omega) _) (by omega) _, by omega⟩ ?_
  clear KB Kf lt_Kf
  generalize w1.heap.size = G
  rintro XG ⟨kKf, kn, kb, loG⟩
  have Kf := Lib.hid kKf
  have KG := Lib.hid kn
  have KB := Lib.hid kb
  clear kn kb kKf
  go_wp2_with (refine wpList_load_row_if (by rfl) 22 (.tmp 5) rfl (G) rfl 22 (byteCells (T) 12) _ KG.out rfl rfl (by rw [byteCells_length]; kernel_rfl) ?_)
  refine (CR.out _).mono ?_
  rintro e w2 ⟨rfl, hb⟩
  have lt_Kf := Kf.out.lt
  have lt_KG := KG.out.lt
  replace Kf := Lib.hid (Kf.out.below hb lt_Kf)
  replace KG := Lib.hid (KG.out.below hb lt_KG)
  have hsz := hb.size
  replace KB := Lib.hid (KB.out.trans (hb.mono (by omega)))
  clear hb
  go_wp2_with (refine wpList_load_row_if (by rfl) 22 (.tmp 3) rfl (B) rfl 22 (byteCells (f) 12) _ Kf.out rfl rfl (by rw [byteCells_length]; kernel_rfl) ?_)
  refine (CB.out _).mono ?_
  rintro e w3 ⟨rfl, hb⟩
  have lt_Kf := Kf.out.lt
  replace Kf := Lib.hid (Kf.out.below hb lt_Kf)
  have hsz := hb.size
  replace KB := Lib.hid (KB.out.trans (hb.mono (by omega)))
  clear hb
  go_wp2_with fail
  refine (CY.out _).mono ?_
  rintro e w4 ⟨rfl, hb⟩
  have lt_Kf := Kf.out.lt
  replace Kf := Lib.hid (Kf.out.below hb lt_Kf)
  have hsz := hb.size
  replace KB := Lib.hid (KB.out.trans (hb.mono (by omega)))
  clear hb
  go_upto_region 8 with (refine wpList_store_row rfl 22 (.tmp 11) (.tmp 40) rfl w4.heap.size (byteCells (Y) 12).toArray rfl rfl 22 _ (Whole.new _ _ _) (by rw [HZ12.out]; kernel_rfl) (by rw [HZ12.out]; rfl) (bytes_one _ _) ?_)
  try simp only [Act.put]
  refine cut_world (fun V => Whole V (B) 22 (byteCells (f) 12).toArray ∧ Whole V w4.heap.size 22 (byteCells (Y) 12).toArray ∧ Below B w V ∧ B ≤ w4.heap.size) ⟨(setRow_other _ _ _ _ (by omega)).trans (Kf.out.alloc _), setRow_heap _ _ _ _ _ _ (Whole.new _ _ _), below_setRow (KB.out.alloc (by omega) _) (by omega) _, by omega⟩ ?_
  clear KB Kf lt_Kf
  generalize w4.heap.size = H
  rintro XH ⟨kKf, kn, kb, loH⟩
  have Kf := Lib.hid kKf
  have KH := Lib.hid kn
  have KB := Lib.hid kb
  clear kn kb kKf
  go_wp2_with fail
  refine (alive_any _).mono ?_
  rintro e w5 ⟨rfl, hb⟩
  have lt_Kf := Kf.out.lt
  have lt_KH := KH.out.lt
  replace Kf := Lib.hid (Kf.out.below hb lt_Kf)
  replace KH := Lib.hid (KH.out.below hb lt_KH)
  have hsz := hb.size
  replace KB := Lib.hid (KB.out.trans (hb.mono (by omega)))
  clear hb
  go_wp2_with fail
  refine (right_any _ true ⟨fun _ => HR.out, fun _ => rfl⟩ _).mono ?_
  rintro e w6 ⟨rfl, rfl⟩
  go_wp2_with fail
  go_ret
  exact ⟨rfl, by rw [HB.out]; exact KB.out⟩

set_option maxRecDepth 100000 in
set_option maxHeartbeats 4000000 in
theorem run01 (t : Int) (f : Nat → Nat) (hf : ∀ i, f i < 256) (ht : ¬ right t) (hl : IsLabel f) (w : World) :
    Calls Try.prog 5 #[.int .i64 t, .agg (byteCells f 12).toArray] w fun e w' => e = .returned (.bool true) ∧ Below w.heap.size w w' := by
  have HZ12 := Lib.hid (show ∀ f, (byteCells f 12).toArray.size = 12 from fun f => by rw [List.size_toArray, byteCells_length])
  have HF := Lib.hid hf
  have CW := Lib.hid (fun w => write_no t ht w)
  have HR := Lib.hid ht
  clear ht
  obtain ⟨T, hT⟩ : ∃ T : Nat → Nat, (fun _ => 0) = T := ⟨_, rfl⟩
  rw [hT] at CW
  clear hT
  have CB := Lib.hid (fun w => read_any f hf w)
  rw [show readV f = timeOf f from by unfold readV; rw [if_pos hl], show readE f = 0 from by unfold readE; rw [if_pos hl]] at CB
  have CY := Lib.hid (fun w => write_ok (timeOf f) hl.2.2.2.2 w)
  have EQ := Lib.hid (fun w => run_eql_arr (P := Try.prog) 22 5 12 Try.underlying22 Try.underlying5 size_u8 (label (timeOf f)) f (label_lt _) hf true ⟨fun _ => is_label f hf hl, fun _ => rfl⟩ w)
  obtain ⟨Y, hY⟩ : ∃ Y, label (timeOf f) = Y := ⟨_, rfl⟩
  rw [hY] at CY EQ
  generalize timeOf f = u at CB CY
  clear hY hl hf
  rw [byteCells_lit12 f]
  go_enter Try.func5, Try.ntmps5
  go_upto_region 1 with fail
  rw [← byteCells_lit12 f]
  refine cut_world (fun W => Whole W (w.heap.size) 22 (byteCells f 12).toArray ∧ Below w.heap.size w W) ⟨whole_new _ _ rfl, below_alloc (Below.refl _ _) _⟩ ?_
  rintro W ⟨kf, kb⟩
  have Kf := Lib.hid kf
  have KB := Lib.hid kb
  have lo := kb.size
  have lt := kf.lt
  clear kf kb
  generalize hB : w.heap.size = B at Kf KB lo lt ⊢
  have HB := Lib.hid hB
  clear hB
  go_wp2_with fail
  refine (CW.out _).mono ?_
  rintro e w1 ⟨rfl, hb⟩
  have lt_Kf := Kf.out.lt
  replace Kf := Lib.hid (Kf.out.below hb lt_Kf)
  have hsz := hb.size
  replace KB := Lib.hid (KB.out.trans (hb.mono (by omega)))
  clear hb
  go_upto_region 2 with (refine wpList_store_row rfl 22 (.tmp 5) (.tmp 16) rfl w1.heap.size (byteCells (T) 12).toArray rfl rfl 22 _ (Whole.new _ _ _) (by rw [HZ12.out]; kernel_rfl) (by rw [HZ12.out]; rfl) (bytes_one _ _) ?_)
  try simp only [Act.put]
  refine cut_world (fun V => Whole V (B) 22 (byteCells (f) 12).toArray ∧ Whole V w1.heap.size 22 (byteCells (T) 12).toArray ∧ Below B w V ∧ B ≤ w1.heap.size) ⟨(setRow_other _ _ _ _ (by omega)).trans (Kf.out.alloc _), setRow_heap _ _ _ _ _ _ (Whole.new _ _ _), below_setRow (KB.out.alloc (by omega) _) (by omega) _, by omega⟩ ?_
  clear KB Kf lt_Kf
  generalize w1.heap.size = G
  rintro XG ⟨kKf, kn, kb, loG⟩
  have Kf := Lib.hid kKf
  have KG := Lib.hid kn
  have KB := Lib.hid kb
  clear kn kb kKf
  go_wp2_with (refine wpList_load_row_if (by rfl) 22 (.tmp 3) rfl (B) rfl 22 (byteCells (f) 12) _ Kf.out rfl rfl (by rw [byteCells_length]; kernel_rfl) ?_)
  refine (CB.out _).mono ?_
  rintro e w3 ⟨rfl, hb⟩
  have lt_Kf := Kf.out.lt
  replace Kf := Lib.hid (Kf.out.below hb lt_Kf)
  have hsz := hb.size
  replace KB := Lib.hid (KB.out.trans (hb.mono (by omega)))
  clear hb
  go_wp2_with fail
  refine (CY.out _).mono ?_
  rintro e w4 ⟨rfl, hb⟩
  have lt_Kf := Kf.out.lt
  replace Kf := Lib.hid (Kf.out.below hb lt_Kf)
  have hsz := hb.size
  replace KB := Lib.hid (KB.out.trans (hb.mono (by omega)))
  clear hb
  go_upto_region 8 with (refine wpList_store_row rfl 22 (.tmp 11) (.tmp 40) rfl w4.heap.size (byteCells (Y) 12).toArray rfl rfl 22 _ (Whole.new _ _ _) (by rw [HZ12.out]; kernel_rfl) (by rw [HZ12.out]; rfl) (bytes_one _ _) ?_)
  try simp only [Act.put]
  refine cut_world (fun V => Whole V (B) 22 (byteCells (f) 12).toArray ∧ Whole V w4.heap.size 22 (byteCells (Y) 12).toArray ∧ Below B w V ∧ B ≤ w4.heap.size) ⟨(setRow_other _ _ _ _ (by omega)).trans (Kf.out.alloc _), setRow_heap _ _ _ _ _ _ (Whole.new _ _ _), below_setRow (KB.out.alloc (by omega) _) (by omega) _, by omega⟩ ?_
  clear KB Kf lt_Kf
  generalize w4.heap.size = H
  rintro XH ⟨kKf, kn, kb, loH⟩
  have Kf := Lib.hid kKf
  have KH := Lib.hid kn
  have KB := Lib.hid kb
  clear kn kb kKf
  go_wp2_with fail
  refine (alive_any _).mono ?_
  rintro e w5 ⟨rfl, hb⟩
  have lt_Kf := Kf.out.lt
  have lt_KH := KH.out.lt
  replace Kf := Lib.hid (Kf.out.below hb lt_Kf)
  replace KH := Lib.hid (KH.out.below hb lt_KH)
  have hsz := hb.size
  replace KB := Lib.hid (KB.out.trans (hb.mono (by omega)))
  clear hb
  go_wp2_with (first | (refine wpList_load_row_if (by rfl) 22 (.tmp 11) rfl (H) rfl 22 (byteCells (Y) 12) _ KH.out rfl rfl (by rw [byteCells_length]; kernel_rfl) ?_) | (refine wpList_load_row_if (by rfl) 22 (.tmp 3) rfl (B) rfl 22 (byteCells (f) 12) _ Kf.out rfl rfl (by rw [byteCells_length]; kernel_rfl) ?_) | (simp only [EQ.out, Result.andThen_ok]))
  refine (right_any _ false ⟨fun e => (by cases e), fun k => absurd k HR.out⟩ _).mono ?_
  rintro e w6 ⟨rfl, rfl⟩
  go_wp2_with fail
  go_ret
  exact ⟨rfl, by rw [HB.out]; exact KB.out⟩

set_option maxRecDepth 100000 in
set_option maxHeartbeats 4000000 in
theorem run00 (t : Int) (f : Nat → Nat) (hf : ∀ i, f i < 256) (ht : ¬ right t) (hl : ¬ IsLabel f) (w : World) :
    Calls Try.prog 5 #[.int .i64 t, .agg (byteCells f 12).toArray] w fun e w' => e = .returned (.bool true) ∧ Below w.heap.size w w' := by
  have HZ12 := Lib.hid (show ∀ f, (byteCells f 12).toArray.size = 12 from fun f => by rw [List.size_toArray, byteCells_length])
  have HF := Lib.hid hf
  have CW := Lib.hid (fun w => write_no t ht w)
  have HR := Lib.hid ht
  clear ht
  obtain ⟨T, hT⟩ : ∃ T : Nat → Nat, (fun _ => 0) = T := ⟨_, rfl⟩
  rw [hT] at CW
  clear hT
  have CB := Lib.hid (fun w => read_any f hf w)
  rw [show readV f = 0 from by unfold readV; rw [if_neg hl], show readE f = 3 from by unfold readE; rw [if_neg hl]] at CB
  have CY := Lib.hid (fun w => write_ok 0 (by omega) w)
  obtain ⟨Y, hY⟩ : ∃ Y, label 0 = Y := ⟨_, rfl⟩
  rw [hY] at CY
  clear hY hl hf
  rw [byteCells_lit12 f]
  go_enter Try.func5, Try.ntmps5
  go_upto_region 1 with fail
  rw [← byteCells_lit12 f]
  refine cut_world (fun W => Whole W (w.heap.size) 22 (byteCells f 12).toArray ∧ Below w.heap.size w W) ⟨whole_new _ _ rfl, below_alloc (Below.refl _ _) _⟩ ?_
  rintro W ⟨kf, kb⟩
  have Kf := Lib.hid kf
  have KB := Lib.hid kb
  have lo := kb.size
  have lt := kf.lt
  clear kf kb
  generalize hB : w.heap.size = B at Kf KB lo lt ⊢
  have HB := Lib.hid hB
  clear hB
  go_wp2_with fail
  refine (CW.out _).mono ?_
  rintro e w1 ⟨rfl, hb⟩
  have lt_Kf := Kf.out.lt
  replace Kf := Lib.hid (Kf.out.below hb lt_Kf)
  have hsz := hb.size
  replace KB := Lib.hid (KB.out.trans (hb.mono (by omega)))
  clear hb
  go_upto_region 2 with (refine wpList_store_row rfl 22 (.tmp 5) (.tmp 16) rfl w1.heap.size (byteCells (T) 12).toArray rfl rfl 22 _ (Whole.new _ _ _) (by rw [HZ12.out]; kernel_rfl) (by rw [HZ12.out]; rfl) (bytes_one _ _) ?_)
  try simp only [Act.put]
  refine cut_world (fun V => Whole V (B) 22 (byteCells (f) 12).toArray ∧ Whole V w1.heap.size 22 (byteCells (T) 12).toArray ∧ Below B w V ∧ B ≤ w1.heap.size) ⟨(setRow_other _ _ _ _ (by omega)).trans (Kf.out.alloc _), setRow_heap _ _ _ _ _ _ (Whole.new _ _ _), below_setRow (KB.out.alloc (by omega) _) (by omega) _, by omega⟩ ?_
  clear KB Kf lt_Kf
  generalize w1.heap.size = G
  rintro XG ⟨kKf, kn, kb, loG⟩
  have Kf := Lib.hid kKf
  have KG := Lib.hid kn
  have KB := Lib.hid kb
  clear kn kb kKf
  go_wp2_with (refine wpList_load_row_if (by rfl) 22 (.tmp 3) rfl (B) rfl 22 (byteCells (f) 12) _ Kf.out rfl rfl (by rw [byteCells_length]; kernel_rfl) ?_)
  refine (CB.out _).mono ?_
  rintro e w3 ⟨rfl, hb⟩
  have lt_Kf := Kf.out.lt
  replace Kf := Lib.hid (Kf.out.below hb lt_Kf)
  have hsz := hb.size
  replace KB := Lib.hid (KB.out.trans (hb.mono (by omega)))
  clear hb
  go_wp2_with fail
  refine (CY.out _).mono ?_
  rintro e w4 ⟨rfl, hb⟩
  have lt_Kf := Kf.out.lt
  replace Kf := Lib.hid (Kf.out.below hb lt_Kf)
  have hsz := hb.size
  replace KB := Lib.hid (KB.out.trans (hb.mono (by omega)))
  clear hb
  go_upto_region 8 with (refine wpList_store_row rfl 22 (.tmp 11) (.tmp 40) rfl w4.heap.size (byteCells (Y) 12).toArray rfl rfl 22 _ (Whole.new _ _ _) (by rw [HZ12.out]; kernel_rfl) (by rw [HZ12.out]; rfl) (bytes_one _ _) ?_)
  try simp only [Act.put]
  refine cut_world (fun V => Whole V (B) 22 (byteCells (f) 12).toArray ∧ Whole V w4.heap.size 22 (byteCells (Y) 12).toArray ∧ Below B w V ∧ B ≤ w4.heap.size) ⟨(setRow_other _ _ _ _ (by omega)).trans (Kf.out.alloc _), setRow_heap _ _ _ _ _ _ (Whole.new _ _ _), below_setRow (KB.out.alloc (by omega) _) (by omega) _, by omega⟩ ?_
  clear KB Kf lt_Kf
  generalize w4.heap.size = H
  rintro XH ⟨kKf, kn, kb, loH⟩
  have Kf := Lib.hid kKf
  have KH := Lib.hid kn
  have KB := Lib.hid kb
  clear kn kb kKf
  go_wp2_with fail
  refine (alive_any _).mono ?_
  rintro e w5 ⟨rfl, hb⟩
  have lt_Kf := Kf.out.lt
  have lt_KH := KH.out.lt
  replace Kf := Lib.hid (Kf.out.below hb lt_Kf)
  replace KH := Lib.hid (KH.out.below hb lt_KH)
  have hsz := hb.size
  replace KB := Lib.hid (KB.out.trans (hb.mono (by omega)))
  clear hb
  go_wp2_with fail
  refine (right_any _ false ⟨fun e => (by cases e), fun k => absurd k HR.out⟩ _).mono ?_
  rintro e w6 ⟨rfl, rfl⟩
  go_wp2_with fail
  go_ret
  exact ⟨rfl, by rw [HB.out]; exact KB.out⟩

theorem walk (a0 : Int) (f : Nat → Nat) (w : World) (_ : (Lit.int .i64 a0).wf = true) (w1 : ∀ i, f i < 256) :
    Calls Try.prog 5 #[.int .i64 a0, .agg (byteCells f 12).toArray] w fun e w' => e = .returned (.bool true) ∧ Below w.heap.size w w' := by
  by_cases h : right a0
  · by_cases k : IsLabel f
    · exact run11 a0 f w1 h k w
    · exact run10 a0 f w1 h k w
  · by_cases k : IsLabel f
    · exact run01 a0 f w1 h k w
    · exact run00 a0 f w1 h k w

end StampBack
end Go.Proofs.Ythjmbfhakccomaa
