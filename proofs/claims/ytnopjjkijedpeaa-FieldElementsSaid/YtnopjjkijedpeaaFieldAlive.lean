/- 'alive' of the statements of layer 5: the fixed calls come out as they must, and nothing that was there is written. -/
import Derived.Test.YtnopjjkijedpeaaFieldKit
namespace Go.Proofs.Ytnopjjkijedpeaa
namespace Field
open Go.ChangeShapes Go.WideShapes Go.ChangeAt Go.RowKit
open Num Mem Words Radix FieldN Chacha Quiet

def fillP (k i : Nat) : Nat := if i < k then 255 else 0
theorem fillP_next (k : Nat) : byteCells (fun i => if i = k then 255 else fillP k i) 32 = byteCells (fillP (k + 1)) 32 := by
  refine byteCells_congr fun i _ => ?_
  unfold fillP
  by_cases e : i = k
  · rw [if_pos e, if_pos (by omega)]
  · rw [if_neg e]
    by_cases l : i < k
    · rw [if_pos l, if_pos (by omega)]
    · rw [if_neg l, if_neg (by omega)]
theorem fillP_P : byteCells (fun i => if i = 31 then 127 else if i = 0 then 237 else fillP 32 i) 32 = byteCells (byteAt P) 32 := by
  refine byteCells_congr ?_
  unfold P fillP
  decide +kernel
theorem fillP_Q : byteCells (fun i => if i = 0 then 236 else byteAt P i) 32 = byteCells (byteAt (P - 1)) 32 := by
  refine byteCells_congr ?_
  unfold P
  decide +kernel
theorem tk_P : tk (byteAt P) = 0 := by
  unfold tk
  rw [le_byteAt32 P (by have := P_T; omega), Nat.mod_eq_of_lt (a := P) (b := T) (by have := P_T; omega), Nat.mod_self]

set_option maxRecDepth 100000 in
theorem alive_any (w : World) : Calls Try.prog 15 #[] w fun e w' => e = .returned (.bool true) ∧ Below w.heap.size w w' := by
  go_enter Try.func15, Try.ntmps15
  go_upto_region 2 with fail
  have HZ := Lib.hid (show ∀ f, (byteCells f 32).toArray.size = 32 from fun f => by rw [List.size_toArray, byteCells_length])
  refine cut_world (fun W => Whole W w.heap.size 22 (byteCells (fillP 0) 32).toArray ∧ Whole W (w.heap.size + 1) 22 (byteCells (fun _ => 0) 32).toArray ∧ Below w.heap.size w W) ⟨?_, ?_, ?_⟩ ?_
  · rw [byteCells_congr (g := fun _ => 0) (fun i _ => by unfold fillP; rw [if_neg (by omega)]), byteCells_lit32]
    exact (whole_new _ _ rfl).alloc _
  · rw [byteCells_lit32]
    exact whole_new _ _ (by simp)
  · exact below_alloc (below_alloc (Below.refl _ _) _) _
  rintro W ⟨k1, k2, kb⟩
  have K1 := Lib.hid k1
  have K2 := Lib.hid k2
  have KB := Lib.hid kb
  clear k1 k2 kb
  generalize hB : w.heap.size = B at K1 K2 KB ⊢
  go_wp2_with fail
  go_loopw [3] (fun i wr => ∃ k : Nat, k ≤ 32 ∧ i = .int .i64 k ∧ Whole wr B 22 (byteCells (fillP k) 32).toArray ∧ Whole wr (B + 1) 22 (byteCells (fun _ => 0) 32).toArray ∧ Below B w wr) (fun i _ => 32 - (intOf i).toNat)
  case atStart => exact ⟨0, by omega, rfl, K1.out, K2.out, KB.out⟩
  case round =>
    obtain ⟨k, hk, rfl, q1, q2, qb⟩ := hrel
    by_cases hlt : k < 32
    · have f1 := q1.free k
      have c1 := q1.bytes k hlt
      rw [Nat.zero_add] at c1
      have Q1 := Lib.hid q1
      have Q2 := Lib.hid q2
      have QB := Lib.hid qb
      have HN := Lib.hid (fillP_next k)
      clear q1 q2 qb
      go_wp2_with fail
      go_roundw
      case rel =>
        refine ⟨k + 1, by omega, by go_num, ?_, Q2.out.far (by simp) _, QB.out.setCell (by simp) _⟩
        have h := Q1.out.put k (.int .u8 (255 : Nat))
        rw [byteCells_set, HN.out] at h
        exact h
      case measure => simp [intOf]; omega
    · obtain rfl : k = 32 := by omega
      rw [show ((32 : Nat) : Int) = 32 from rfl]
      have f1 := q1.free 0
      have c1 := q1.bytes 0 (by omega)
      have f2 := q1.free 31
      have c2 := q1.bytes 31 (by omega)
      rw [Nat.zero_add] at c1 c2
      have h := (q1.put 0 (.int .u8 (237 : Nat))).put 31 (.int .u8 (127 : Nat))
      rw [byteCells_set, byteCells_set, fillP_P] at h
      have Q1 := Lib.hid h
      have Q2 := Lib.hid q2
      have QB := Lib.hid qb
      clear h q1 q2 qb
      obtain ⟨Pn, hPn⟩ : ∃ v, v = P := ⟨_, rfl⟩
      have HQF := Lib.hid fillP_Q
      have tp : tk (byteAt Pn) = 0 := by rw [hPn]; exact tk_P
      obtain ⟨Qn, hQn⟩ : ∃ v, v = P - 1 := ⟨_, rfl⟩
      rw [← hQn] at HQF
      rw [← hPn] at Q1 HQF
      go_upto_region 7 with fail
      refine cut_world (fun X => Whole X B 22 (byteCells (byteAt Pn) 32).toArray ∧ Whole X (B + 1) 22 (byteCells (fun _ => 0) 32).toArray ∧ Below B w X) ⟨Q1.out, (Q2.out.far (by simp) _).far (by simp) _, (QB.out.setCell (by simp) _).setCell (by simp) _⟩ ?_
      clear Q1 Q2 QB f1 f2 c1 c2
      rintro X ⟨k1, k2, kb⟩
      have K1 := Lib.hid k1
      have K2 := Lib.hid k2
      have KB := Lib.hid kb
      clear k1 k2 kb
      go_upto_region 8 with (first | (refine wpList_load_row rfl 22 (.tmp 1) rfl B rfl 22 (byteCells (byteAt Pn) 32).toArray (0, 0) _ K1.out rfl rfl (by rw [HZ.out]; kernel_rfl) ?_) | (refine wpList_store_row rfl 22 (.tmp 2) (.tmp 12) rfl (B + 1) (byteCells (byteAt Pn) 32).toArray rfl rfl 22 _ K2.out (by rw [HZ.out]; kernel_rfl) (by rw [HZ.out, HZ.out]) (bytes_one _ _) ?_))
      refine cut_world (fun X => Whole X B 22 (byteCells (byteAt Pn) 32).toArray ∧ Whole X (B + 1) 22 (byteCells (byteAt Pn) 32).toArray ∧ Below B w X) ⟨Whole.farRow K1.out (by omega) _, setRow_heap _ _ _ _ _ _ K2.out, below_setRow KB.out (by omega) _⟩ ?_
      clear K1 K2 KB
      rintro X2 ⟨k1, k2, kb⟩
      have f2 := k2.free 0
      have c2 := k2.bytes 0 (by omega)
      rw [Nat.zero_add] at c2
      have K1 := Lib.hid k1
      have h := k2.put 0 (.int .u8 (236 : Nat))
      rw [byteCells_set, HQF.out] at h
      have K2 := Lib.hid h
      have KB := Lib.hid kb
      clear k1 k2 kb h
      go_upto_region 9 with fail
      refine cut_world (fun X => Whole X B 22 (byteCells (byteAt Pn) 32).toArray ∧ Whole X (B + 1) 22 (byteCells (byteAt Qn) 32).toArray ∧ Below B w X) ⟨K1.out.far (by simp) _, K2.out, KB.out.setCell (by simp) _⟩ ?_
      clear K1 K2 KB f2 c2
      rintro X3 ⟨k1, k2, kb⟩
      have hB1 := k1.lt
      have K1 := Lib.hid k1
      have K2 := Lib.hid k2
      have KB := Lib.hid kb
      clear k1 k2 kb
      have l_Qn : Qn < P := by rw [hQn]; have := P_pos; omega
      have tq : tk (byteAt Qn) = Qn := tk_byteAt l_Qn
      have cz := Lib.hid (zerV (byteAt_lt Pn) tp true (by simp))
      have c_r_p := Lib.hid (redV (byteAt_lt Pn) tp)
      obtain ⟨v1, h_v1⟩ : ∃ v, v = (0 + (P - 1)) % P := ⟨_, rfl⟩
      have l_v1 : v1 < P := by rw [h_v1]; exact Nat.mod_lt _ P_pos
      have c1 := Lib.hid (subV (byteAt_lt Pn) (byteAt_lt 1) tp (tk_byteAt (show 1 < P by have := P_big; omega)) h_v1)
      obtain ⟨v2, h_v2⟩ : ∃ v, v = Qn * Qn % P := ⟨_, rfl⟩
      have l_v2 : v2 < P := by rw [h_v2]; exact Nat.mod_lt _ P_pos
      have c2 := Lib.hid (mulV (byteAt_lt Qn) (byteAt_lt Qn) tq tq h_v2)
      have e_r_p_k0 := Lib.hid (show ∀ w, (Op.equalIn 10000 22 (.agg (byteCells (byteAt 0) 32).toArray) (.agg (byteCells (byteAt 0) 32).toArray)).run Try.prog w = .ok true w from same_of rfl)
      have e_v1_q := Lib.hid (show ∀ w, (Op.equalIn 10000 22 (.agg (byteCells (byteAt v1) 32).toArray) (.agg (byteCells (byteAt Qn) 32).toArray)).run Try.prog w = .ok true w from same_of (by rw [h_v1, hQn]; unfold P; decide))
      have e_v2_k1 := Lib.hid (show ∀ w, (Op.equalIn 10000 22 (.agg (byteCells (byteAt v2) 32).toArray) (.agg (byteCells (byteAt 1) 32).toArray)).run Try.prog w = .ok true w from same_of (by rw [h_v2, hQn]; unfold P; decide))
      clear h_v1 h_v2 l_v1 l_v2 hPn hQn l_Qn tq tp
      refine q_start (by kernel_rfl) (by kernel_rfl) ?_
      refine q_take _ (by rfl) (fun x hx => run_load_in 22 (.tmp 1) rfl (B) rfl (byteCells (byteAt Pn) 32).toArray 32 (by rw [List.size_toArray, byteCells_length]) ((K1.out).below hx (K1.out).lt) rfl rfl (by kernel_rfl)) ?_
      try simp only [Act.put, List.setIfInBounds_toArray, List.set_cons_zero, List.set_cons_succ]
      refine q_call (.bool true) 18 (#[B32 (byteAt Pn)]) (by rfl) (by intro w; go_simp; try with_reducible rfl) (fun x hx => (cz.out x).mono fun e w' ⟨he, hb⟩ => ⟨he, below_trans hx hb⟩) ?_
      try simp only [Act.put, List.setIfInBounds_toArray, List.set_cons_zero, List.set_cons_succ]
      refine q_take _ (by rfl) (by intro w _; go_simp; with_reducible rfl) ?_
      try simp only [Act.put, List.setIfInBounds_toArray, List.set_cons_zero, List.set_cons_succ]
      refine q_take _ (by rfl) (fun x hx => run_load_in 22 (.tmp 1) rfl (B) rfl (byteCells (byteAt Pn) 32).toArray 32 (by rw [List.size_toArray, byteCells_length]) ((K1.out).below hx (K1.out).lt) rfl rfl (by kernel_rfl)) ?_
      try simp only [Act.put, List.setIfInBounds_toArray, List.set_cons_zero, List.set_cons_succ]
      refine q_call (B32 (byteAt 0)) 13 (#[B32 (byteAt Pn)]) (by rfl) (by intro w; go_simp; try with_reducible rfl) (fun x hx => (c_r_p.out x).mono fun e w' ⟨he, hb⟩ => ⟨he, below_trans hx hb⟩) ?_
      try simp only [Act.put, List.setIfInBounds_toArray, List.set_cons_zero, List.set_cons_succ]
      refine q_take (B32 (byteAt 0)) (by rfl) (fun w _ => run_built0 22 rfl (byteCells (byteAt 0) 32).toArray none_built) ?_
      try simp only [Act.put, List.setIfInBounds_toArray, List.set_cons_zero, List.set_cons_succ]
      refine q_take _ (by rfl) (by intro w _; go_simp; simp only [e_r_p_k0.out, Result.andThen_ok]; with_reducible rfl) ?_
      try simp only [Act.put, List.setIfInBounds_toArray, List.set_cons_zero, List.set_cons_succ]
      refine q_take _ (by rfl) (by intro w _; go_simp; with_reducible rfl) ?_
      try simp only [Act.put, List.setIfInBounds_toArray, List.set_cons_zero, List.set_cons_succ]
      refine q_take _ (by rfl) (by intro w _; go_simp; with_reducible rfl) ?_
      try simp only [Act.put, List.setIfInBounds_toArray, List.set_cons_zero, List.set_cons_succ]
      refine q_take _ (by rfl) (fun x hx => run_load_in 22 (.tmp 1) rfl (B) rfl (byteCells (byteAt Pn) 32).toArray 32 (by rw [List.size_toArray, byteCells_length]) ((K1.out).below hx (K1.out).lt) rfl rfl (by kernel_rfl)) ?_
      try simp only [Act.put, List.setIfInBounds_toArray, List.set_cons_zero, List.set_cons_succ]
      refine q_take (B32 (byteAt 1)) (by rfl) (fun w _ => run_built1 22 0 (.const (.int .u8 1)) rfl (.int .u8 1) rfl (byteCells (byteAt 1) 32).toArray one_built) ?_
      try simp only [Act.put, List.setIfInBounds_toArray, List.set_cons_zero, List.set_cons_succ]
      refine q_call (B32 (byteAt v1)) 12 (#[B32 (byteAt Pn), B32 (byteAt 1)]) (by rfl) (by intro w; go_simp; try with_reducible rfl) (fun x hx => (c1.out x).mono fun e w' ⟨he, hb⟩ => ⟨he, below_trans hx hb⟩) ?_
      try simp only [Act.put, List.setIfInBounds_toArray, List.set_cons_zero, List.set_cons_succ]
      refine q_take _ (by rfl) (fun x hx => run_load_in 22 (.tmp 2) rfl (B+1) rfl (byteCells (byteAt Qn) 32).toArray 32 (by rw [List.size_toArray, byteCells_length]) ((K2.out).below hx (K2.out).lt) rfl rfl (by kernel_rfl)) ?_
      try simp only [Act.put, List.setIfInBounds_toArray, List.set_cons_zero, List.set_cons_succ]
      refine q_take _ (by rfl) (by intro w _; go_simp; simp only [e_v1_q.out, Result.andThen_ok]; with_reducible rfl) ?_
      try simp only [Act.put, List.setIfInBounds_toArray, List.set_cons_zero, List.set_cons_succ]
      refine q_take _ (by rfl) (by intro w _; go_simp; with_reducible rfl) ?_
      try simp only [Act.put, List.setIfInBounds_toArray, List.set_cons_zero, List.set_cons_succ]
      refine q_take _ (by rfl) (by intro w _; go_simp; with_reducible rfl) ?_
      try simp only [Act.put, List.setIfInBounds_toArray, List.set_cons_zero, List.set_cons_succ]
      refine q_take _ (by rfl) (fun x hx => run_load_in 22 (.tmp 2) rfl (B+1) rfl (byteCells (byteAt Qn) 32).toArray 32 (by rw [List.size_toArray, byteCells_length]) ((K2.out).below hx (K2.out).lt) rfl rfl (by kernel_rfl)) ?_
      try simp only [Act.put, List.setIfInBounds_toArray, List.set_cons_zero, List.set_cons_succ]
      refine q_take _ (by rfl) (fun x hx => run_load_in 22 (.tmp 2) rfl (B+1) rfl (byteCells (byteAt Qn) 32).toArray 32 (by rw [List.size_toArray, byteCells_length]) ((K2.out).below hx (K2.out).lt) rfl rfl (by kernel_rfl)) ?_
      try simp only [Act.put, List.setIfInBounds_toArray, List.set_cons_zero, List.set_cons_succ]
      refine q_call (B32 (byteAt v2)) 39 (#[B32 (byteAt Qn), B32 (byteAt Qn)]) (by rfl) (by intro w; go_simp; try with_reducible rfl) (fun x hx => (c2.out x).mono fun e w' ⟨he, hb⟩ => ⟨he, below_trans hx hb⟩) ?_
      try simp only [Act.put, List.setIfInBounds_toArray, List.set_cons_zero, List.set_cons_succ]
      refine q_take (B32 (byteAt 1)) (by rfl) (fun w _ => run_built1 22 0 (.const (.int .u8 1)) rfl (.int .u8 1) rfl (byteCells (byteAt 1) 32).toArray one_built) ?_
      try simp only [Act.put, List.setIfInBounds_toArray, List.set_cons_zero, List.set_cons_succ]
      refine q_take _ (by rfl) (by intro w _; go_simp; simp only [e_v2_k1.out, Result.andThen_ok]; with_reducible rfl) ?_
      try simp only [Act.put, List.setIfInBounds_toArray, List.set_cons_zero, List.set_cons_succ]
      refine q_take _ (by rfl) (by intro w _; go_simp; with_reducible rfl) ?_
      try simp only [Act.put, List.setIfInBounds_toArray, List.set_cons_zero, List.set_cons_succ]
      refine q_take _ (by rfl) (by intro w _; go_simp; with_reducible rfl) ?_
      try simp only [Act.put, List.setIfInBounds_toArray, List.set_cons_zero]
      refine wpQuiet_nil ?_
      intro w' hw'
      go_wp2_with fail
      go_ret
      exact ⟨rfl, by rw [hB]; exact KB.out.trans (hw'.mono (by omega))⟩

end Field
end Go.Proofs.Ytnopjjkijedpeaa
