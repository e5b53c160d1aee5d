/- The calls RightPrefix, Holds and Bit of package cidr, at any input. -/
import Derived.Test.YtcpfchfhcfdcpaaMask
namespace Go.Proofs.Ytcpfchfhcfdcpaa
namespace Adr
open Go.ChangeShapes Go.WideShapes Go.ChangeAt Go.RowKit
open Num Mem Words Chacha Aead Poly Ops Quiet

/-- the walk's state of RightPrefix and Holds: the argument's block, and the mask's -/
theorem wpList_built2' {P : Program} {ops : Array Oper} {rest : List Oper} {o : Oper} {a : Act} {w : World} {Q : Exit → Act → World → Prop} (hg : o.guard = none) (t : TypeId) (k1 k2 : Nat) (x1 x2 : Operand) (ho : o.op = .build t #[(k1, x1), (k2, x2)])
    (v1 v2 : Value) (h1 : a.eval x1 = v1) (h2 : a.eval x2 = v2) (vs : Array Value) (hb : P.built t [(k1, v1), (k2, v2)] = some vs) (h : wpList P ops Q rest (a.put o.dst (.agg vs)) w) : wpList P ops Q (o :: rest) a w := by
  have e : P.built t ((#[(k1, x1), (k2, x2)] : Array (Nat × Operand)).map fun (i, x) => (i, a.eval x)).toList = some vs := by simpa [h1, h2] using hb
  refine wpList_build hg t #[(k1, x1), (k2, x2)] ho (by rw [e]; rfl) ?_
  rw [e]
  exact h

set_option maxRecDepth 100000 in
set_option maxHeartbeats 2000000 in
theorem rightP_any (s : Bool) (f : Nat → Nat) (hf : ∀ i, f i < 256) (z : Int) (hz0 : -9223372036854775808 ≤ z) (hz1 : z ≤ 9223372036854775807) (w : World) :
    Calls Try.prog 33 #[.agg (prefL s f z).toArray] w fun e w' => e = .returned (.bool (rightPB s f z)) ∧ Below w.heap.size w w' := by
  have HM := Lib.hid (fun w => mask_any s f hf z hz0 hz1 w)
  unfold maskV at HM
  obtain ⟨R, hR⟩ : ∃ R, rightPB s f z = R := ⟨_, rfl⟩
  rw [hR]
  have HQ := Lib.hid (show maskE s f z = 0 → ∀ w, (Op.equalIn 10000 29 (.agg (prefL (mS s f z) (mF s f z) (mZ s f z)).toArray) (.agg (prefL s f z).toArray)).run Try.prog w = .ok R w from fun h0 w =>
    eqin_pref 9996 _ _ _ _ _ _ (mF_lt hf s z) hf R (by
      rw [← hR, rightPB_iff]
      unfold mS mF mZ
      rw [if_pos h0, if_pos h0, if_pos h0]
      exact ⟨fun h => ⟨⟨rfl, h.2⟩, rfl⟩, fun h => ⟨h0, h.1.2⟩⟩) w)
  have HR0 := Lib.hid (show maskE s f z ≠ 0 → R = false from fun h0 => by rw [← hR]; unfold rightPB; rw [decide_eq_false h0]; rfl)
  have HS := Lib.hid (prefL_length s f z)
  have HS2 := Lib.hid (prefL_length (mS s f z) (mF s f z) (mZ s f z))
  have H12 := Lib.hid (pref_one (mS s f z) (mF s f z) (mZ s f z))
  obtain ⟨E, hE⟩ : ∃ E, maskE s f z = E := ⟨_, rfl⟩
  obtain ⟨L, hL⟩ : ∃ L, prefL s f z = L := ⟨_, rfl⟩
  obtain ⟨L2, hL2⟩ : ∃ L, prefL (mS s f z) (mF s f z) (mZ s f z) = L := ⟨_, rfl⟩
  rw [hL, hL2, hE] at HM
  rw [hL, hL2, hE] at HQ
  rw [hE] at HR0
  rw [hL] at HS ⊢
  rw [hL2] at HS2 H12
  obtain ⟨zs, hz, hzs⟩ : ∃ zs : Array Value, (∀ w, (zeroValue 29).run Try.prog w = .ok (.agg zs) w) ∧ zs.size = 18 := ⟨_, zero_pref, pref_size _ _ _⟩
  have HZS := Lib.hid hzs
  clear hL hL2 hE hR hf hz0 hz1 hzs
  go_enter Try.func33, Try.ntmps33
  go_upto_region 1 with fail
  refine cut_world (fun X => Whole X w.heap.size 29 L.toArray ∧ Below w.heap.size w X) ⟨Whole.new _ _ _, below_alloc (Below.refl _ _) _⟩ ?_
  rintro W ⟨p1, pb⟩
  have P1 := Lib.hid p1
  have PB := Lib.hid pb
  clear p1 pb
  generalize hB : w.heap.size = B at P1 PB ⊢
  have HB := Lib.hid hB
  clear hB
  go_upto_region 2 with (first
    | (refine Poly.wpList_load_row_if rfl 29 (.tmp 1) rfl B rfl 29 L _ P1.out rfl rfl (by rw [HS.out]; kernel_rfl) ?_)
    | (go_at_call 34; refine (HM.out _).mono ?_; rintro e w1 ⟨rfl, hb1⟩; replace PB := Lib.hid (PB.out.trans (hb1.mono (Nat.le_of_lt P1.out.lt))); replace P1 := Lib.hid (P1.out.below hb1 P1.out.lt); clear hb1)
    | (refine wpList_store_row rfl 29 (.tmp 3) (.tmp 8) rfl w1.heap.size L2.toArray rfl rfl 29 _ (Whole.new _ _ _) (by rw [List.size_toArray, HS2.out]; kernel_rfl) (by simp [HS2.out, HZS.out]) H12.out ?_))
  clear hz
  have hlt := P1.out.lt
  refine cut_world (fun X => Whole X B 29 L.toArray ∧ Whole X w1.heap.size 29 L2.toArray ∧ Below B w X) ⟨Whole.farRow (P1.out.alloc _) (by omega) _, setRow_heap _ _ _ _ _ _ (Whole.new _ _ _), below_setRow (below_alloc' PB.out (by omega) _) (by omega) _⟩ ?_
  rintro X ⟨q1, q2, qb⟩
  generalize w1.heap.size = g at q2 ⊢
  have Q1 := Lib.hid q1
  have Q2 := Lib.hid q2
  have QB := Lib.hid qb
  clear q1 q2 qb P1 PB hlt
  by_cases h0 : E = 0
  · have HEQ := Lib.hid (HQ.out h0)
    have hd : ((E : Int) == 0) = true := by simp [h0]
    have hd2 : ((E : Int) = 0) = True := by simp [h0]
    clear h0 HQ
    go_wp2_with (first
      | (refine Poly.wpList_load_row_if rfl 29 (.tmp 3) rfl g rfl 29 L2 _ Q2.out rfl rfl (by rw [HS2.out]; kernel_rfl) ?_)
      | (refine Poly.wpList_load_row_if rfl 29 (.tmp 1) rfl B rfl 29 L _ Q1.out rfl rfl (by rw [HS.out]; kernel_rfl) ?_)
      | (refine Ops.wpList_value_if (by rfl) (.bool R) (Ops.run_eql_op 29 (.tmp 13) (.tmp 14) 29 rfl L2.toArray L.toArray rfl rfl R (by kernel_rfl) HEQ.out _) ?_))
    go_ret
    exact ⟨rfl, by rw [HB.out]; exact QB.out⟩
  · have hd : ((E : Int) == 0) = false := by simp; exact h0
    have hd2 : ((E : Int) = 0) = False := by simp; exact h0
    have HRF := Lib.hid (HR0.out h0)
    clear h0
    go_wp2_with fail
    go_ret
    exact ⟨by rw [HRF.out]; rfl, by rw [HB.out]; exact QB.out⟩

set_option maxRecDepth 100000 in
set_option maxHeartbeats 2000000 in
theorem holds_any (s : Bool) (f : Nat → Nat) (hf : ∀ i, f i < 256) (z : Int) (hz0 : -9223372036854775808 ≤ z) (hz1 : z ≤ 9223372036854775807) (s' : Bool) (f' : Nat → Nat) (hf' : ∀ i, f' i < 256) (w : World) :
    Calls Try.prog 20 #[.agg (prefL s f z).toArray, .agg (addrL s' f').toArray] w fun e w' => e = .returned (.bool (holdsPB s f z s' f')) ∧ Below w.heap.size w w' := by
  have HP := Lib.hid (fun w => rightP_any s f hf z hz0 hz1 w)
  have HM := Lib.hid (fun w => mask_any s' f' hf' z hz0 hz1 w)
  unfold maskV at HM
  obtain ⟨R, hR⟩ : ∃ R, holdsPB s f z s' f' = R := ⟨_, rfl⟩
  rw [hR]
  have HR0 := Lib.hid (show rightPB s f z = false → R = false from fun h0 => by rw [← hR]; unfold holdsPB; rw [h0]; rfl)
  have HR1 := Lib.hid (show maskE s' f' z ≠ 0 → R = false from fun h0 => by rw [← hR]; unfold holdsPB; rw [decide_eq_false h0, Bool.false_and, Bool.and_false])
  have HQ := Lib.hid (show rightPB s f z = true → maskE s' f' z = 0 → ∀ w, (Op.equalIn 10000 29 (.agg (prefL (mS s' f' z) (mF s' f' z) (mZ s' f' z)).toArray) (.agg (prefL s f z).toArray)).run Try.prog w = .ok R w from fun h1 h0 w =>
    eqin_pref 9996 _ _ _ _ _ _ (mF_lt hf' s' z) hf R (by
      rw [← hR, holdsPB_iff]
      unfold mS mF mZ
      rw [if_pos h0, if_pos h0, if_pos h0]
      exact ⟨fun h => ⟨h.2.2, rfl⟩, fun h => ⟨h1, h0, h.1⟩⟩) w)
  have HS := Lib.hid (prefL_length s f z)
  have HA := Lib.hid (addrL_length s' f')
  have HS2 := Lib.hid (prefL_length (mS s' f' z) (mF s' f' z) (mZ s' f' z))
  have H12 := Lib.hid (pref_one (mS s' f' z) (mF s' f' z) (mZ s' f' z))
  have HB2 := Lib.hid (pref_built2 s' f' z)
  have HZ := Lib.hid (show ∀ X B T, Whole X B T (prefL s f z).toArray → X.cell? ⟨B, 17, none⟩ = some (.int .i64 z) from fun X B T h => by rw [h.cell, List.getElem?_toArray]; exact pref_bits s f z)
  obtain ⟨r, hr⟩ : ∃ r, rightPB s f z = r := ⟨_, rfl⟩
  obtain ⟨E, hE⟩ : ∃ E, maskE s' f' z = E := ⟨_, rfl⟩
  obtain ⟨L, hL⟩ : ∃ L, prefL s f z = L := ⟨_, rfl⟩
  obtain ⟨A, hA⟩ : ∃ L, addrL s' f' = L := ⟨_, rfl⟩
  obtain ⟨Q, hQ⟩ : ∃ L, prefL s' f' z = L := ⟨_, rfl⟩
  obtain ⟨L2, hL2⟩ : ∃ L, prefL (mS s' f' z) (mF s' f' z) (mZ s' f' z) = L := ⟨_, rfl⟩
  rw [hr] at HP HR0 HQ
  rw [hE] at HM HR1 HQ
  rw [hL] at HP HQ HS HZ ⊢
  rw [hA] at HA HB2 ⊢
  rw [hQ] at HM HB2
  rw [hL2] at HM HQ HS2 H12
  obtain ⟨zs, hz, hzs⟩ : ∃ zs : Array Value, (∀ w, (zeroValue 29).run Try.prog w = .ok (.agg zs) w) ∧ zs.size = 18 := ⟨_, zero_pref, pref_size _ _ _⟩
  have HZS := Lib.hid hzs
  clear hL hL2 hE hR hf hf' hz0 hz1 hzs hr hA hQ
  go_enter Try.func20, Try.ntmps20
  go_upto_region 1 with fail
  refine cut_world (fun X => Whole X w.heap.size 29 L.toArray ∧ Whole X (w.heap.size + 1) 27 A.toArray ∧ Below w.heap.size w X) ⟨(Whole.new _ _ _).alloc _, whole_new _ _ (by simp), below_alloc (below_alloc (Below.refl _ _) _) _⟩ ?_
  rintro W ⟨p1, p2, pb⟩
  have P1 := Lib.hid p1
  have P2 := Lib.hid p2
  have PB := Lib.hid pb
  clear p1 p2 pb
  generalize hB : w.heap.size = B at P1 P2 PB ⊢
  have HB := Lib.hid hB
  clear hB
  cases r
  · go_wp2_with (first
      | (refine Poly.wpList_load_row_if rfl 29 (.tmp 2) rfl B rfl 29 L _ P1.out rfl rfl (by rw [HS.out]; kernel_rfl) ?_)
      | (go_at_call 33; refine (HP.out _).mono ?_; rintro e w1 ⟨rfl, hb1⟩; replace PB := Lib.hid (PB.out.trans (hb1.mono (Nat.le_of_lt P1.out.lt))); clear hb1))
    go_ret
    exact ⟨by rw [HR0.out trivial]; rfl, by rw [HB.out]; exact PB.out⟩
  go_upto_region 3 with (first
    | (refine Poly.wpList_load_row_if rfl 29 (.tmp 2) rfl B rfl 29 L _ P1.out rfl rfl (by rw [HS.out]; kernel_rfl) ?_)
    | (go_at_call 33; refine (HP.out _).mono ?_; rintro e w1 ⟨rfl, hb1⟩; replace PB := Lib.hid (PB.out.trans (hb1.mono (Nat.le_of_lt P1.out.lt))); replace P1 := Lib.hid (P1.out.below hb1 P1.out.lt); replace P2 := Lib.hid (P2.out.below hb1 P2.out.lt); clear hb1))
  have hcz := HZ.out _ _ _ P1.out
  go_upto_region 4 with (first
    | (refine Poly.wpList_load_row_if rfl 27 (.tmp 3) rfl (B + 1) rfl 27 A _ P2.out rfl rfl (by rw [HA.out]; kernel_rfl) ?_)
    | (refine wpList_built2' rfl 29 0 1 (.tmp 11) (.tmp 13) rfl (.agg A.toArray) (.int .i64 z) rfl rfl Q.toArray HB2.out ?_)
    | (go_at_call 34; refine (HM.out _).mono ?_; rintro e w2 ⟨rfl, hb1⟩; replace PB := Lib.hid (PB.out.trans (hb1.mono (Nat.le_of_lt P1.out.lt))); replace P1 := Lib.hid (P1.out.below hb1 P1.out.lt); clear hb1)
    | (refine wpList_store_row rfl 29 (.tmp 5) (.tmp 16) rfl w2.heap.size L2.toArray rfl rfl 29 _ (Whole.new _ _ _) (by rw [List.size_toArray, HS2.out]; kernel_rfl) (by simp [HS2.out, HZS.out]) H12.out ?_))
  clear hz hcz
  have hlt := P1.out.lt
  refine cut_world (fun X => Whole X B 29 L.toArray ∧ Whole X w2.heap.size 29 L2.toArray ∧ Below B w X) ⟨Whole.farRow (P1.out.alloc _) (by omega) _, setRow_heap _ _ _ _ _ _ (Whole.new _ _ _), below_setRow (below_alloc' PB.out (by omega) _) (by omega) _⟩ ?_
  rintro X ⟨q1, q2, qb⟩
  generalize w2.heap.size = g at q2 ⊢
  have Q1 := Lib.hid q1
  have Q2 := Lib.hid q2
  have QB := Lib.hid qb
  clear q1 q2 qb P1 PB P2 hlt
  by_cases h0 : E = 0
  · have HEQ := Lib.hid (HQ.out trivial h0)
    have hd : ((E : Int) == 0) = true := by simp [h0]
    have hd2 : ((E : Int) = 0) = True := by simp [h0]
    clear h0 HQ
    go_wp2_with (first
      | (refine Poly.wpList_load_row_if rfl 29 (.tmp 5) rfl g rfl 29 L2 _ Q2.out rfl rfl (by rw [HS2.out]; kernel_rfl) ?_)
      | (refine Poly.wpList_load_row_if rfl 29 (.tmp 2) rfl B rfl 29 L _ Q1.out rfl rfl (by rw [HS.out]; kernel_rfl) ?_)
      | (refine Ops.wpList_value_if (by rfl) (.bool R) (Ops.run_eql_op 29 (.tmp 21) (.tmp 22) 29 rfl L2.toArray L.toArray rfl rfl R (by kernel_rfl) HEQ.out _) ?_))
    go_ret
    exact ⟨rfl, by rw [HB.out]; exact QB.out⟩
  · have hd : ((E : Int) == 0) = false := by simp; exact h0
    have hd2 : ((E : Int) = 0) = False := by simp; exact h0
    have HRF := Lib.hid (HR1.out h0)
    clear h0
    go_wp2_with fail
    go_ret
    exact ⟨by rw [HRF.out]; rfl, by rw [HB.out]; exact QB.out⟩

theorem shr_bit : ∀ r, r < 8 → ∀ x : Nat, x < 256 → bits .and .u8 (((x / 2 ^ r : Nat) : Nat) : Int) 1 = ((x / 2 ^ r % 2 : Nat) : Int) := by decide +kernel

set_option maxRecDepth 100000 in
set_option maxHeartbeats 2000000 in
theorem bit_any (s : Bool) (f : Nat → Nat) (hf : ∀ i, f i < 256) (n : Int) (w : World) :
    Calls Try.prog 51 #[.agg (addrL s f).toArray, .int .i64 n] w fun e w' => e = .returned (.int .i64 (bitI s f n)) ∧ Below w.heap.size w w' := by
  have HR := Lib.hid (fun w => right_any s f hf w)
  have HD := Lib.hid (fun w => digits_any s f w)
  have HA := Lib.hid (addrL_length s f)
  have HC := Lib.hid (show ∀ X B T, Whole X B T (addrL s f).toArray → ∀ i, i < 16 → X.cell? ⟨B, 1 + i, none⟩ = some (.int .u8 (f i : Nat)) from fun X B T h i hi => by
    rw [h.cell, List.getElem?_toArray]
    unfold addrL
    rw [Nat.add_comm 1 i, List.getElem?_cons_succ, byteCells_get _ _ _ hi])
  obtain ⟨R, hR⟩ : ∃ R, bitI s f n = R := ⟨_, rfl⟩
  rw [hR]
  have HRR := Lib.hid hR
  obtain ⟨r, hr⟩ : ∃ r, rightB s f = r := ⟨_, rfl⟩
  have HRB := Lib.hid hr
  rw [hr] at HR
  obtain ⟨d, hd⟩ : ∃ d, digitsI s = d := ⟨_, rfl⟩
  have HDD := Lib.hid hd
  rw [hd] at HD
  have hd2 : d = 32 ∨ d = 128 := by rw [← hd]; unfold digitsI; cases s <;> simp
  obtain ⟨A, hA⟩ : ∃ L, addrL s f = L := ⟨_, rfl⟩
  rw [hA] at HR HD HA HC ⊢
  clear hA hR hr hd
  go_enter Try.func51, Try.ntmps51
  go_upto_region 1 with fail
  refine cut_world (fun X => Whole X w.heap.size 27 A.toArray ∧ Below w.heap.size w X) ⟨Whole.new _ _ _, below_alloc (Below.refl _ _) _⟩ ?_
  rintro W ⟨p1, pb⟩
  have P1 := Lib.hid p1
  have PB := Lib.hid pb
  clear p1 pb
  generalize hB : w.heap.size = B at P1 PB ⊢
  have HB := Lib.hid hB
  clear hB
  cases r
  · clear hd2
    go_wp2_with (first
      | (refine Poly.wpList_load_row_if rfl 27 (.tmp 2) rfl B rfl 27 A _ P1.out rfl rfl (by rw [HA.out]; kernel_rfl) ?_)
      | (go_at_call 48; refine (HR.out _).mono ?_; rintro e w1 ⟨rfl, hb1⟩; replace PB := Lib.hid (PB.out.trans (hb1.mono (Nat.le_of_lt P1.out.lt))); clear hb1))
    go_ret
    exact ⟨by rw [← HRR.out]; unfold bitI; rw [if_pos (.inl HRB.out)]; rfl, by rw [HB.out]; exact PB.out⟩
  by_cases h0 : n < 0
  · clear hd2
    have H0 := Lib.hid h0
    go_wp2_with (first
      | (refine Poly.wpList_load_row_if rfl 27 (.tmp 2) rfl B rfl 27 A _ P1.out rfl rfl (by rw [HA.out]; kernel_rfl) ?_)
      | (go_at_call 48; refine (HR.out _).mono ?_; rintro e w1 ⟨rfl, hb1⟩; replace PB := Lib.hid (PB.out.trans (hb1.mono (Nat.le_of_lt P1.out.lt))); clear hb1))
    go_ret
    exact ⟨by rw [← HRR.out]; unfold bitI; rw [if_pos (.inr (.inl H0.out))]; rfl, by rw [HB.out]; exact PB.out⟩
  have h0d : decide (n < 0) = false := decide_eq_false h0
  by_cases h1 : d ≤ n
  · have H1 := Lib.hid h1
    have h1d : decide (d ≤ n) = true := decide_eq_true h1
    clear h1 h0 hd2
    go_wp2_with (first
      | (refine Poly.wpList_load_row_if rfl 27 (.tmp 2) rfl B rfl 27 A _ P1.out rfl rfl (by rw [HA.out]; kernel_rfl) ?_)
      | (go_at_call 48; refine (HR.out _).mono ?_; rintro e w1 ⟨rfl, hb1⟩; replace PB := Lib.hid (PB.out.trans (hb1.mono (Nat.le_of_lt P1.out.lt))); replace P1 := Lib.hid (P1.out.below hb1 P1.out.lt); clear hb1)
      | (go_at_call 49; refine (HD.out _).mono ?_; rintro e w2 ⟨rfl, hb1⟩; replace PB := Lib.hid (PB.out.trans (hb1.mono (Nat.le_of_lt P1.out.lt))); clear hb1))
    go_ret
    exact ⟨by rw [← HRR.out]; unfold bitI; rw [if_pos (.inr (.inr (by rw [HDD.out]; exact H1.out)))]; rfl, by rw [HB.out]; exact PB.out⟩
  have h1d : decide (d ≤ n) = false := decide_eq_false h1
  obtain ⟨k, rfl⟩ : ∃ k : Nat, n = (k : Int) := ⟨n.toNat, by omega⟩
  have hk : k < 128 := by omega
  have HRV := Lib.hid (show bitI s f (k : Int) = ((f (k / 8) / 2 ^ (7 - k % 8) % 2 : Nat) : Int) by
    unfold bitI
    rw [if_neg]
    · rw [Int.toNat_natCast]
    · rintro (h | h | h)
      · rw [HRB.out] at h; cases h
      · omega
      · rw [HDD.out] at h; omega)
  clear h0 h1 hd2
  go_upto_region 3 with (first
    | (refine Poly.wpList_load_row_if rfl 27 (.tmp 2) rfl B rfl 27 A _ P1.out rfl rfl (by rw [HA.out]; kernel_rfl) ?_)
    | (go_at_call 48; refine (HR.out _).mono ?_; rintro e w1 ⟨rfl, hb1⟩; replace PB := Lib.hid (PB.out.trans (hb1.mono (Nat.le_of_lt P1.out.lt))); replace P1 := Lib.hid (P1.out.below hb1 P1.out.lt); clear hb1)
    | (go_at_call 49; refine (HD.out _).mono ?_; rintro e w2 ⟨rfl, hb1⟩; replace PB := Lib.hid (PB.out.trans (hb1.mono (Nat.le_of_lt P1.out.lt))); replace P1 := Lib.hid (P1.out.below hb1 P1.out.lt); clear hb1))
  have hcell := HC.out _ _ _ P1.out (k / 8) (by omega)
  have hx := hf (k / 8)
  generalize f (k / 8) = x at hcell hx HRV
  have hsh := shr_bit (7 - k % 8) (by omega) x hx
  have hq1 : (k : Int).tdiv 8 = ((k / 8 : Nat) : Int) := by rw [Int.tdiv_eq_ediv_of_nonneg (by omega)]; omega
  have hq2 : (k : Int) / 8 = ((k / 8 : Nat) : Int) := by omega
  have hr1 : (k : Int).tmod 8 = ((k % 8 : Nat) : Int) := by rw [Int.tmod_eq_emod_of_nonneg (by omega)]; omega
  have hr2 : (k : Int) % 8 = ((k % 8 : Nat) : Int) := by omega
  have hk7 : ((7 : Int) - ((k % 8 : Nat) : Int)) = ((7 - k % 8 : Nat) : Int) := by omega
  have hq16 : k / 8 < 16 := by omega
  obtain ⟨q, hq⟩ : ∃ q, k / 8 = q := ⟨_, rfl⟩
  obtain ⟨m, hm⟩ : ∃ m, k % 8 = m := ⟨_, rfl⟩
  have hm8 : m < 8 := by omega
  obtain ⟨j, hj⟩ : ∃ j, 7 - m = j := ⟨_, rfl⟩
  have hj8 : j < 8 := by omega
  rw [hm, hj] at hsh hk7 HRV
  rw [hq] at hq1 hq2 hq16 hcell
  rw [hm] at hr1 hr2
  have hk7w : wrap64 (7 - (m : Int)) = (j : Int) := by rw [hk7]; unfold wrap64; omega
  have hk7v : IntKind.i64.wrap (7 - (m : Int)) = (j : Int) := by rw [hk7, IntKind.wrap_i64]; omega
  clear hq hm hj hk
  have e2 : ((x / 2 ^ j : Nat) : Int) = (x : Int) / 2 ^ j := by simp
  rw [e2] at hsh
  have hlt : x / 2 ^ j % 2 < 2 := Nat.mod_lt _ (by omega)
  have HV := Lib.hid (show Value.int .i64 (wrap64 (bits .and .u8 ((x : Int) / 2 ^ j) 1)) = .int .i64 R by
    rw [hsh, ← HRR.out, HRV.out]
    generalize x / 2 ^ j % 2 = y at hlt
    congr 1
    unfold wrap64
    omega)
  clear hsh e2 hlt
  go_wp2_with fail
  go_ret
  exact ⟨by rw [← HV.out]; rfl, by rw [HB.out]; exact PB.out⟩

end Adr
end Go.Proofs.Ytcpfchfhcfdcpaa
