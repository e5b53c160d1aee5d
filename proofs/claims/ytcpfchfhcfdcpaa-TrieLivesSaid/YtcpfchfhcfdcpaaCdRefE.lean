/- The document's own RightPrefix and Holds. -/
import Derived.Test.YtcpfchfhcfdcpaaCdRefD
namespace Go.Proofs.Ytcpfchfhcfdcpaa
namespace Tri
open Go.ChangeShapes Go.WideShapes Go.ChangeAt Go.RowKit
open Num Mem Words Chacha Aead Poly Quiet Ops Adr RowS

set_option maxRecDepth 100000 in
set_option maxHeartbeats 2000000 in
theorem rRightP_any (s : Bool) (f : Nat → Nat) (hf : ∀ i, f i < 256) (z : Int) (w : World) :
    Calls Try.prog 39 #[.agg (prefL s f z).toArray] w fun e w' => e = .returned (.bool (rightPB s f z)) ∧ Below w.heap.size w w' := by
  have HM := Lib.hid (fun w => rMask_any s f hf z w)
  unfold maskV at HM
  obtain ⟨R, hR⟩ : ∃ R, rightPB s f z = R := ⟨_, rfl⟩
  rw [hR]
  have HQ := Lib.hid (show maskE s f z = 0 → ∀ w, (Op.equalIn 10000 29 (.agg (prefL (mS s f z) (mF s f z) (mZ s f z)).toArray) (.agg (prefL s f z).toArray)).run Try.prog w = .ok R w from fun h0 w =>
    eqin_pref 9996 _ _ _ _ _ _ (mF_lt hf s z) hf R (by
      rw [← hR, rightPB_iff]
      unfold mS mF mZ
      rw [if_pos h0, if_pos h0, if_pos h0]
      exact ⟨fun h => ⟨⟨rfl, h.2⟩, rfl⟩, fun h => ⟨h0, h.1.2⟩⟩) w)
  have HR0 := Lib.hid (show maskE s f z ≠ 0 → R = false from fun h0 => by rw [← hR]; unfold rightPB; rw [decide_eq_false h0]; rfl)
  have HS := Lib.hid (prefL_length s f z)
  have HS2 := Lib.hid (prefL_length (mS s f z) (mF s f z) (mZ s f z))
  have H12 := Lib.hid (pref_one (mS s f z) (mF s f z) (mZ s f z))
  obtain ⟨E, hE⟩ : ∃ E, maskE s f z = E := ⟨_, rfl⟩
  obtain ⟨L, hL⟩ : ∃ L, prefL s f z = L := ⟨_, rfl⟩
  obtain ⟨L2, hL2⟩ : ∃ L, prefL (mS s f z) (mF s f z) (mZ s f z) = L := ⟨_, rfl⟩
  rw [hL, hL2, hE] at HM
  rw [hL, hL2, hE] at HQ
  rw [hE] at HR0
  rw [hL] at HS ⊢
  rw [hL2] at HS2 H12
  obtain ⟨zs, hz, hzs⟩ : ∃ zs : Array Value, (∀ w, (zeroValue 29).run Try.prog w = .ok (.agg zs) w) ∧ zs.size = 18 := ⟨_, zero_pref, pref_size _ _ _⟩
  have HZS := Lib.hid hzs
  clear hL hL2 hE hR hf hzs
  go_enter Try.func39, Try.ntmps39
  go_upto_region 1 with fail
  refine cut_world (fun X => Whole X w.heap.size 29 L.toArray ∧ Below w.heap.size w X) ⟨Whole.new _ _ _, below_alloc (Below.refl _ _) _⟩ ?_
  rintro W ⟨p1, pb⟩
  have P1 := Lib.hid p1
  have PB := Lib.hid pb
  clear p1 pb
  generalize hB : w.heap.size = B at P1 PB ⊢
  have HB := Lib.hid hB
  clear hB
  go_upto_region 2 with (first
    | (refine Poly.wpList_load_row_if rfl 29 (.tmp 1) rfl B rfl 29 L _ P1.out rfl rfl (by rw [HS.out]; kernel_rfl) ?_)
    | (go_at_call 53; refine (HM.out _).mono ?_; rintro e w1 ⟨rfl, hb1⟩; replace PB := Lib.hid (PB.out.trans (hb1.mono (Nat.le_of_lt P1.out.lt))); replace P1 := Lib.hid (P1.out.below hb1 P1.out.lt); clear hb1)
    | (refine wpList_store_row rfl 29 (.tmp 3) (.tmp 8) rfl w1.heap.size L2.toArray rfl rfl 29 _ (Whole.new _ _ _) (by rw [List.size_toArray, HS2.out]; kernel_rfl) (by simp [HS2.out, HZS.out]) H12.out ?_))
  clear hz
  have hlt := P1.out.lt
  refine cut_world (fun X => Whole X B 29 L.toArray ∧ Whole X w1.heap.size 29 L2.toArray ∧ Below B w X) ⟨Whole.farRow (P1.out.alloc _) (by omega) _, setRow_heap _ _ _ _ _ _ (Whole.new _ _ _), below_setRow (below_alloc' PB.out (by omega) _) (by omega) _⟩ ?_
  rintro X ⟨q1, q2, qb⟩
  generalize w1.heap.size = g at q2 ⊢
  have Q1 := Lib.hid q1
  have Q2 := Lib.hid q2
  have QB := Lib.hid qb
  clear q1 q2 qb P1 PB hlt
  by_cases h0 : E = 0
  · have HEQ := Lib.hid (HQ.out h0)
    have hd : ((E : Int) == 0) = true := by simp [h0]
    have hd2 : ((E : Int) = 0) = True := by simp [h0]
    clear h0 HQ
    go_wp2_with (first
      | (refine Poly.wpList_load_row_if rfl 29 (.tmp 3) rfl g rfl 29 L2 _ Q2.out rfl rfl (by rw [HS2.out]; kernel_rfl) ?_)
      | (refine Poly.wpList_load_row_if rfl 29 (.tmp 1) rfl B rfl 29 L _ Q1.out rfl rfl (by rw [HS.out]; kernel_rfl) ?_)
      | (refine Ops.wpList_value_if (by rfl) (.bool R) (Ops.run_eql_op 29 (.tmp 13) (.tmp 14) 29 rfl L2.toArray L.toArray rfl rfl R (by kernel_rfl) HEQ.out _) ?_))
    go_ret
    exact ⟨rfl, by rw [HB.out]; exact QB.out⟩
  · have hd : ((E : Int) == 0) = false := by simp; exact h0
    have hd2 : ((E : Int) = 0) = False := by simp; exact h0
    have HRF := Lib.hid (HR0.out h0)
    clear h0
    go_wp2_with fail
    go_ret
    exact ⟨by rw [HRF.out]; rfl, by rw [HB.out]; exact QB.out⟩

structure HoW (w : World) (B : Nat) (L A : List Value) (X : World) : Prop where
  pre : Whole X B 29 L.toArray
  adr : Whole X (B + 1) 27 A.toArray
  bel : Below B w X
theorem HoW.below {w : World} {B : Nat} {L A : List Value} {X Y : World} (h : HoW w B L A X) (hb : Below X.heap.size X Y) : HoW w B L A Y :=
  ⟨h.pre.below hb h.pre.lt, h.adr.below hb h.adr.lt, h.bel.trans (hb.mono (Nat.le_of_lt h.pre.lt))⟩
theorem dig_b (f : Nat → Nat) (k : Nat) : dig f k = (f (k / 8) / 2 ^ (7 - k % 8) % 2 == 1) := rfl
set_option maxRecDepth 100000 in
set_option maxHeartbeats 4000000 in
theorem rHolds_any (s : Bool) (f : Nat → Nat) (hf : ∀ i, f i < 256) (m : Nat) (hp : rightPB s f (m : Int) = true) (s' : Bool) (f' : Nat → Nat) (hf' : ∀ i, f' i < 256) (w : World) :
    Calls Try.prog 28 #[.agg (prefL s f m).toArray, .agg (addrL s' f').toArray] w fun e w' => e = .returned (.bool (holdsPB s f m s' f')) ∧ Below w.heap.size w w' := by
  have HH := Lib.hid (holds_iff (s' := s') hf hf' hp)
  obtain ⟨hrs, _, hmd, _⟩ := right_parts hp
  have HMD := Lib.hid hmd
  have HM128 := Lib.hid (show m ≤ 128 from by have := digits_le s; omega)
  have HRP := Lib.hid (fun X => rRightP_any s f hf m X)
  rw [hp] at HRP
  have HRI := Lib.hid (fun X => rRight_any s' f' hf' X)
  have HBI := Lib.hid (fun (n : Nat) (hn : (n : Int) < digitsI s) (X : World) => rBit_any s f hf hrs n hn X)
  have HBJ := Lib.hid (fun (hr : rightB s' f' = true) (n : Nat) (hn : (n : Int) < digitsI s') (X : World) => rBit_any s' f' hf' hr n hn X)
  have HPR := Lib.hid (show ∀ X g, Whole X g 29 (prefL s f m).toArray → X.rangeAt g 0 (addrL s f) from fun X g h => pref_range h)
  have HC := Lib.hid (show ∀ X g, Whole X g 29 (prefL s f m).toArray → X.cell? ⟨g, 0, none⟩ = some (.bool s) ∧ X.cell? ⟨g, 17, none⟩ = some (.int .i64 m) from fun X g h => ⟨by rw [h.cell, List.getElem?_toArray]; rfl, by rw [h.cell, List.getElem?_toArray]; exact pref_bits _ _ _⟩)
  have HC2 := Lib.hid (show ∀ X g, Whole X g 27 (addrL s' f').toArray → X.cell? ⟨g, 0, none⟩ = some (.bool s') from fun X g h => by rw [h.cell, List.getElem?_toArray]; rfl)
  have HL := Lib.hid (prefL_length s f m)
  have HA := Lib.hid (addrL_length s f)
  have HA2 := Lib.hid (addrL_length s' f')
  obtain ⟨L, hL⟩ : ∃ L, prefL s f m = L := ⟨_, rfl⟩
  obtain ⟨A, hA⟩ : ∃ L, addrL s f = L := ⟨_, rfl⟩
  obtain ⟨A2, hA2⟩ : ∃ L, addrL s' f' = L := ⟨_, rfl⟩
  obtain ⟨R, hR⟩ : ∃ R, holdsPB s f m s' f' = R := ⟨_, rfl⟩
  rw [hL] at HRP HPR HC HL ⊢
  rw [hA] at HBI HPR HA
  rw [hA2] at HRI HBJ HC2 HA2 ⊢
  rw [hR] at HH ⊢
  obtain ⟨r2, hr2⟩ : ∃ r, rightB s' f' = r := ⟨_, rfl⟩
  rw [hr2] at HRI HBJ HH
  clear hL hA hA2 hR hr2 hf hf' hp hrs hmd
  have hno : ∀ {P : Prop}, ¬ P → (R = true ↔ P) → R = false := fun hp h => by cases R with | false => rfl | true => exact absurd (h.1 rfl) hp
  have HNO := Lib.hid (fun (h : ¬ (r2 = true ∧ s' = s ∧ bs f m <+: bs f' (digitsI s).toNat)) => hno h HH.out)
  clear hno
  go_enter Try.func28, Try.ntmps28
  go_upto_region 1 with fail
  refine cut_world (fun X => HoW w w.heap.size L A2 X) ⟨(Whole.new _ _ _).alloc _, whole_new _ _ (by simp), below_alloc (below_alloc (Below.refl _ _) _) _⟩ ?_
  intro W hW
  generalize hB : w.heap.size = B at hW ⊢
  have HB := Lib.hid hB
  have HW := Lib.hid hW
  clear hB hW
  cases r2 with
  | false =>
    go_wp2_with (first
      | (refine Poly.wpList_load_row_if rfl 29 (.tmp 2) rfl B rfl 29 L _ HW.out.pre rfl rfl (by rw [HL.out]; kernel_rfl) ?_)
      | (go_at_call 39; refine (HRP.out _).mono ?_; rintro e w1 ⟨rfl, hb1⟩; have HW1 := Lib.hid (HW.out.below hb1); clear hb1)
      | (refine Poly.wpList_load_row_if rfl 27 (.tmp 3) rfl (B + 1) rfl 27 A2 _ HW1.out.adr rfl rfl (by rw [HA2.out]; kernel_rfl) ?_)
      | (go_at_call 44; refine (HRI.out _).mono ?_; rintro e w2 ⟨rfl, hb1⟩; have HW2 := Lib.hid (HW1.out.below hb1); clear hb1))
    go_ret
    exact ⟨by rw [HNO.out (fun h => by cases h.1)]; rfl, by rw [HB.out]; exact HW2.out.bel⟩
  | true =>
    have HCC := Lib.hid (show ∀ X, HoW w B L A2 X → X.cell? ⟨B, 0, none⟩ = some (.bool s) ∧ X.cell? ⟨B, 17, none⟩ = some (.int .i64 m) ∧ X.cell? ⟨B + 1, 0, none⟩ = some (.bool s') from fun X h => ⟨(HC.out _ _ h.pre).1, (HC.out _ _ h.pre).2, HC2.out _ _ h.adr⟩)
    by_cases hss : s' = s
    · subst hss
      have hne : (s' != s') = false := by simp
      go_upto_region 3 with (first
        | (refine Poly.wpList_load_row_if rfl 29 (.tmp 2) rfl B rfl 29 L _ HW.out.pre rfl rfl (by rw [HL.out]; kernel_rfl) ?_)
        | (go_at_call 39; refine (HRP.out _).mono ?_; rintro e w1 ⟨rfl, hb1⟩; have HW1 := Lib.hid (HW.out.below hb1); clear hb1)
        | (refine Poly.wpList_load_row_if rfl 27 (.tmp 3) rfl (B + 1) rfl 27 A2 _ HW1.out.adr rfl rfl (by rw [HA2.out]; kernel_rfl) ?_)
        | (go_at_call 44; refine (HRI.out _).mono ?_; rintro e w2 ⟨rfl, hb1⟩; have HW2 := Lib.hid (HW1.out.below hb1); have hc0 := (HCC.out _ HW2.out).1; have hc2 := (HCC.out _ HW2.out).2.2; clear hb1))
      clear hc0 hc2 HW HW1 hne
      go_wp2_with fail
      go_loopw [5] (fun i X => ∃ k : Nat, k ≤ m ∧ i = .int .i64 k ∧ HoW w B L A2 X ∧ ∀ i, i < k → dig f i = dig f' i) (fun i _ => m - (intOf i).toNat)
      case atStart => exact ⟨0, Nat.zero_le _, rfl, HW2.out, fun i hi => by omega⟩
      case round =>
        obtain ⟨k, hk, rfl, hX, hd⟩ := hrel
        have HX := Lib.hid hX
        have HD := Lib.hid hd
        have hk128 := HM128.out
        clear hX HW2 hd
        have hc17 := (HCC.out _ HX.out).2.1
        by_cases hlt : k < m
        · have HB1 := Lib.hid (HBI.out k (by have := HMD.out; omega))
          have HB2 := Lib.hid (HBJ.out (by trivial) k (by have := HMD.out; omega))
          have hd1 := dig_b f k
          have hd2 := dig_b f' k
          have hl1 : f (k / 8) / 2 ^ (7 - k % 8) % 2 < 2 := Nat.mod_lt _ (by decide)
          have hl2 : f' (k / 8) / 2 ^ (7 - k % 8) % 2 < 2 := Nat.mod_lt _ (by decide)
          obtain ⟨b, hb⟩ : ∃ b, f (k / 8) / 2 ^ (7 - k % 8) % 2 = b := ⟨_, rfl⟩
          obtain ⟨c, hc⟩ : ∃ b, f' (k / 8) / 2 ^ (7 - k % 8) % 2 = b := ⟨_, rfl⟩
          rw [hb] at HB1 hd1 hl1
          rw [hc] at HB2 hd2 hl2
          have HE := Lib.hid (show b = c ↔ dig f k = dig f' k from by
            rw [hd1, hd2]
            rcases Nat.lt_or_ge b 1 with h1 | h1 <;> rcases Nat.lt_or_ge c 1 with h2 | h2
            · obtain rfl : b = 0 := by omega
              obtain rfl : c = 0 := by omega
              simp
            · obtain rfl : b = 0 := by omega
              obtain rfl : c = 1 := by omega
              simp
            · obtain rfl : b = 1 := by omega
              obtain rfl : c = 0 := by omega
              simp
            · obtain rfl : b = 1 := by omega
              obtain rfl : c = 1 := by omega
              simp)
          clear hb hc hd1 hd2 hl1 hl2
          go_upto_region 6 with fail
          refine q_start (by kernel_rfl) (by kernel_rfl) ?_
          refine Ops.wq_in ?_
          refine Ops.wq_take _ (by rfl) (fun X hx => by go_simp; try with_reducible rfl) ?_
          try simp only [Act.put, List.setIfInBounds_toArray, List.set_cons_zero, List.set_cons_succ]
          refine Ops.wq_take (.agg A.toArray) (by rfl) (fun X hx => run_mid_in 27 (.tmp 28) rfl B 0 rfl A _ (HPR.out X _ (HX.out.below hx).pre) rfl rfl (by rw [HA.out]; kernel_rfl)) ?_
          try simp only [Act.put, List.setIfInBounds_toArray, List.set_cons_zero, List.set_cons_succ]
          refine Ops.wq_take _ (by rfl) (fun X hx => by go_simp; try with_reducible rfl) ?_
          try simp only [Act.put, List.setIfInBounds_toArray, List.set_cons_zero, List.set_cons_succ]
          refine Ops.wq_call (.int .i64 (b : Nat)) 45 #[.agg A.toArray, .int .i64 (k : Nat)] (by rfl) (by intro w; go_simp; try with_reducible rfl) (fun X hx => (HB1.out X).mono (fun e w' ⟨h1, h2⟩ => ⟨h1, below_trans hx h2⟩)) ?_
          try simp only [Act.put, List.setIfInBounds_toArray, List.set_cons_zero, List.set_cons_succ]
          refine Ops.wq_take (.agg A2.toArray) (by rfl) (fun X hx => run_load_in 27 (.tmp 3) rfl (B + 1) rfl A2.toArray 17 (by rw [List.size_toArray, HA2.out]) (HX.out.below hx).adr rfl rfl (by kernel_rfl)) ?_
          try simp only [Act.put, List.setIfInBounds_toArray, List.set_cons_zero, List.set_cons_succ]
          refine Ops.wq_take _ (by rfl) (fun X hx => by go_simp; try with_reducible rfl) ?_
          try simp only [Act.put, List.setIfInBounds_toArray, List.set_cons_zero, List.set_cons_succ]
          refine Ops.wq_call (.int .i64 (c : Nat)) 45 #[.agg A2.toArray, .int .i64 (k : Nat)] (by rfl) (by intro w; go_simp; try with_reducible rfl) (fun X hx => (HB2.out X).mono (fun e w' ⟨h1, h2⟩ => ⟨h1, below_trans hx h2⟩)) ?_
          try simp only [Act.put, List.setIfInBounds_toArray, List.set_cons_zero, List.set_cons_succ]
          refine Ops.wq_take _ (by rfl) (fun X hx => by go_simp; try with_reducible rfl) ?_
          try simp only [Act.put, List.setIfInBounds_toArray, List.set_cons_zero, List.set_cons_succ]
          refine Ops.wq_end ?_
          intro w3 hb3
          have HX3 := Lib.hid (HX.out.below hb3)
          clear hb3 HX hc17
          by_cases hbc : b = c
          · have hq : (((b : Nat) : Int) != ((c : Nat) : Int)) = false := by simp; omega
            have HEQ := Lib.hid (HE.out.1 hbc)
            clear hbc
            go_wp2_with fail
            go_round
            case rel =>
              refine ⟨k + 1, by omega, by go_num, HX3.out, fun i hi => ?_⟩
              by_cases e : i = k
              · rw [e]; exact HEQ.out
              · exact HD.out i (by omega)
            case measure => simp only [intOf]; omega
          · have hq : (((b : Nat) : Int) != ((c : Nat) : Int)) = true := by simp; omega
            have HNE := Lib.hid (fun e => hbc (HE.out.2 e))
            clear hbc
            go_wp2_with fail
            go_ret
            exact ⟨by rw [HNO.out (fun h => HNE.out ((bs_pre.1 h.2.2).2 k hlt))]; rfl, by rw [HB.out]; exact HX3.out.bel⟩
        · obtain rfl : k = m := by omega
          go_wp2_with fail
          go_ret
          refine ⟨?_, by rw [HB.out]; exact HX.out.bel⟩
          have : R = true := HH.out.2 ⟨by trivial, by trivial, bs_pre.2 ⟨by have := HMD.out; omega, HD.out⟩⟩
          rw [this]
          rfl
    · have hne : (s = true ∧ s' = false) ∨ (s = false ∧ s' = true) := by cases s <;> cases s' <;> simp_all
      have HF := Lib.hid (HNO.out (fun h => hss h.2.1))
      clear hss
      rcases hne with ⟨rfl, rfl⟩ | ⟨rfl, rfl⟩
      ·
        go_wp2_with (first
          | (refine Poly.wpList_load_row_if rfl 29 (.tmp 2) rfl B rfl 29 L _ HW.out.pre rfl rfl (by rw [HL.out]; kernel_rfl) ?_)
          | (go_at_call 39; refine (HRP.out _).mono ?_; rintro e w1 ⟨rfl, hb1⟩; have HW1 := Lib.hid (HW.out.below hb1); clear hb1)
          | (refine Poly.wpList_load_row_if rfl 27 (.tmp 3) rfl (B + 1) rfl 27 A2 _ HW1.out.adr rfl rfl (by rw [HA2.out]; kernel_rfl) ?_)
          | (go_at_call 44; refine (HRI.out _).mono ?_; rintro e w2 ⟨rfl, hb1⟩; have HW2 := Lib.hid (HW1.out.below hb1); have hc0 := (HCC.out _ HW2.out).1; have hc2 := (HCC.out _ HW2.out).2.2; clear hb1))
        go_ret
        exact ⟨by rw [HF.out]; rfl, by rw [HB.out]; exact HW2.out.bel⟩
      ·
        go_wp2_with (first
          | (refine Poly.wpList_load_row_if rfl 29 (.tmp 2) rfl B rfl 29 L _ HW.out.pre rfl rfl (by rw [HL.out]; kernel_rfl) ?_)
          | (go_at_call 39; refine (HRP.out _).mono ?_; rintro e w1 ⟨rfl, hb1⟩; have HW1 := Lib.hid (HW.out.below hb1); clear hb1)
          | (refine Poly.wpList_load_row_if rfl 27 (.tmp 3) rfl (B + 1) rfl 27 A2 _ HW1.out.adr rfl rfl (by rw [HA2.out]; kernel_rfl) ?_)
          | (go_at_call 44; refine (HRI.out _).mono ?_; rintro e w2 ⟨rfl, hb1⟩; have HW2 := Lib.hid (HW1.out.below hb1); have hc0 := (HCC.out _ HW2.out).1; have hc2 := (HCC.out _ HW2.out).2.2; clear hb1))
        go_ret
        exact ⟨by rw [HF.out]; rfl, by rw [HB.out]; exact HW2.out.bel⟩
end Tri
end Go.Proofs.Ytcpfchfhcfdcpaa
