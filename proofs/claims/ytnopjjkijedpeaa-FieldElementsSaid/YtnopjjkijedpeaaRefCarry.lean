/- The document's own answers of layer 5 (package aditref05): carry. -/
import Derived.Test.YtnopjjkijedpeaaFieldTake
import Derived.Test.YtnopjjkijedpeaaRowI
import Derived.Test.YtnopjjkijedpeaaTree
namespace Go.Proofs.Ytnopjjkijedpeaa
namespace RefF
open Go.ChangeShapes Go.WideShapes Go.ChangeAt Go.RowKit
open Num Mem Words Radix FieldN Chacha Quiet

@[irreducible] def M256 : Nat := 115792089237316195423570985008687907853269984665640564039457584007913129639936
theorem M_pow : (65536 : Nat) ^ 16 = M256 := by unfold M256; decide
theorem M_two : (2 : Nat) ^ 256 = M256 := by unfold M256; decide
theorem M_big : 1000000000000000000000000000000 ≤ M256 := by unfold M256; decide
theorem M_T : M256 = 2 * T := by unfold M256 T; decide
theorem M_P : M256 = 38 + 2 * P := by rw [M_T, ← P_T]; omega

/-- what leaves at the top counts 38 -/
def cv (v : Nat) : Nat := v % M256 + 38 * (v / M256)
theorem cv_le (v : Nat) : cv v ≤ v := by
  unfold cv
  have h := Nat.div_add_mod v M256
  have h2 := M_big
  have : 38 * (v / M256) ≤ M256 * (v / M256) := Nat.mul_le_mul_right _ (by omega)
  omega
theorem cv_mod (v : Nat) : cv v % P = v % P := by
  unfold cv
  have h := Nat.div_add_mod v M256
  have e : v = v % M256 + 38 * (v / M256) + P * (2 * (v / M256)) := by
    have : ∀ q, M256 * q = 38 * q + P * (2 * q) := fun q => by
      rw [M_P, Nat.add_mul, show 2 * P * q = P * (2 * q) by ac_rfl]
    have := this (v / M256)
    omega
  conv => rhs; rw [e, Nat.add_mul_mod_self_left]
theorem cv_fix {v : Nat} (h : v < M256) : cv v = v := by
  unfold cv
  rw [Nat.mod_eq_of_lt h, Nat.div_eq_of_lt h, Nat.mul_zero, Nat.add_zero]
/-- two rounds are enough -/
theorem cv_two {v : Nat} (h : v / M256 < 2147483648) : cv (cv v) < M256 := by
  have hb := M_big
  have h1 : cv v < M256 + 81604378624 := by
    unfold cv
    have := Nat.mod_lt v (show 0 < M256 by omega)
    omega
  rcases Nat.lt_or_ge (cv v) M256 with k | k
  · rw [cv_fix k]; exact k
  · generalize cv v = u at h1 k
    unfold cv
    rw [show u = u - M256 + M256 by omega, Nat.add_mod_right, Nat.add_div_right _ (by omega), Nat.mod_eq_of_lt (by omega), Nat.div_eq_of_lt (by omega)]
    omega

/-- the limbs behind a round -/
def nx (v i : Nat) : Nat := if i = 0 then dg 65536 v 0 + 38 * (v / M256) else dg 65536 v i
theorem rv_nx (v : Nat) : rv 65536 (nx v) 16 = cv v := by
  have h : ∀ (a : Nat → Nat) (x k : Nat), rv 65536 (fun i => if i = 0 then a 0 + x else a i) (k + 1) = rv 65536 a (k + 1) + x := by
    intro a x k
    induction k with
    | zero => simp [rv]
    | succ k ih =>
      rw [show k + 1 + 1 = (k + 1) + 1 from rfl, rv, ih, show rv 65536 a (k + 1 + 1) = rv 65536 a (k + 1) + a (k + 1) * 65536 ^ (k + 1) from rfl, if_neg (by omega)]
      omega
  have := h (dg 65536 v) (38 * (v / M256)) 15
  rw [show 15 + 1 = 16 from rfl, rv_dg, M_pow] at this
  exact this

/-- so many rounds -/
def cn (v : Nat) : Nat → Nat
  | 0 => v
  | n + 1 => cv (cn v n)
theorem cn_le (v : Nat) : ∀ n, cn v n ≤ v
  | 0 => Nat.le_refl _
  | n + 1 => Nat.le_trans (cv_le _) (cn_le v n)

set_option maxRecDepth 100000 in
theorem carry_any (B b d : Nat) (t : Nat → Nat) (ht : ∀ i, i < 16 → t i < 70368744177664) (w : World) (hw : OwnI w B (some ⟨b, 0, none⟩) 16 d t) (hB : B ≤ b) :
    Calls Try.prog 40 #[.slice (some ⟨b, 0, none⟩) 16 d] w fun e w' => e = .returned (.agg (icells (dg 65536 (cv (cv (rv 65536 t 16)))) 16).toArray) ∧ Below B w w' := by
  obtain ⟨V, hV⟩ : ∃ V, V = rv 65536 t 16 := ⟨_, rfl⟩
  have hv : V / M256 < 2147483648 := by
    have h := cy_div (X := 65536) (by omega) t 0 16
    rw [M_pow, Nat.add_zero, ← hV] at h
    rw [← h]
    exact cy_lt (X := 65536) t 0 16 2147483648 (by omega) (fun i c hi hc => by have := ht i hi; omega) 16 (by omega)
  rw [← hV]
  have hsmall : ∀ n, cn V n / M256 < 2147483648 := fun n => Nat.lt_of_le_of_lt (Nat.div_le_div_right (cn_le V n)) hv
  have HSM := Lib.hid hsmall
  have hfix : ∀ n, cn V (n + 2) = cv (cv V) := fun n => by
    induction n with
    | zero => rfl
    | succ n ih =>
      rw [show n + 1 + 2 = (n + 2) + 1 from rfl, cn, ih]
      exact cv_fix (cv_two hv)
  have HFIX := Lib.hid hfix
  have HLAST := Lib.hid (cv_two hv)
  have HT := Lib.hid ht
  have HW := Lib.hid hw
  have HV := Lib.hid hV
  have hbs : b < w.heap.size := by
    obtain ⟨_, h1, _, h3⟩ := hw.at (by omega)
    injection h1 with h1
    injection h1 with h1
    omega
  clear hsmall hfix hv ht hw hV
  go_enter Try.func40, Try.ntmps40
  go_upto_region 1 with fail
  refine cut_world (fun W => Whole W w.heap.size 24 (icells (fun _ => 0) 16).toArray ∧ OwnI W B (some ⟨b, 0, none⟩) 16 d t ∧ Below B w W ∧ w.heap.size < W.heap.size) ⟨?_, HW.out.alloc _, Below.alloc (Below.refl _ _) (by omega) _, by simp⟩ ?_
  · exact whole_new _ _ rfl
  rintro W ⟨k1, k2, kb, hsz⟩
  have K1 := Lib.hid k1
  have K2 := Lib.hid k2
  have KB := Lib.hid kb
  clear k1 k2 kb HW
  generalize hG : w.heap.size = G at K1 hbs hsz ⊢
  go_wp2_with fail
  go_loopw [3] (fun i wr => ∃ (n : Nat) (tn : Nat → Nat), n ≤ 4 ∧ i = .int .i64 n ∧ (∀ i, i < 16 → tn i < 70368744177664) ∧ rv 65536 tn 16 = cn V n ∧ (n = 4 → ∀ i, i < 16 → tn i = dg 65536 (cv (cv V)) i) ∧ Whole wr G 24 (icells (fun _ => 0) 16).toArray ∧ OwnI wr B (some ⟨b, 0, none⟩) 16 d tn ∧ Below B w wr ∧ G < wr.heap.size) (fun i _ => 4 - (intOf i).toNat)
  case atStart => exact ⟨0, t, by omega, rfl, HT.out, HV.out.symm, fun h => by omega, K1.out, K2.out, KB.out, hsz⟩
  case round =>
    obtain ⟨n, tn, hn, rfl, htn, hval, hfin, q1, q2, qb, hsz2⟩ := hrel
    have HTN := Lib.hid htn
    have HVAL := Lib.hid hval
    have HFIN := Lib.hid hfin
    have Q1 := Lib.hid q1
    have Q2 := Lib.hid q2
    have QB := Lib.hid qb
    clear htn hval hfin q1 q2 qb
    by_cases hlt : n < 4
    · obtain ⟨cc, hcc⟩ : ∃ cc : Nat → Nat, cc = cy 65536 tn 0 := ⟨_, rfl⟩
      obtain ⟨ss, hss⟩ : ∃ ss : Nat → Nat, ss = fun i => (tn i + cc i) % 65536 := ⟨_, rfl⟩
      have HC0 := Lib.hid (show cc 0 = 0 by rw [hcc]; rfl)
      have HCS := Lib.hid (show ∀ i, cc (i + 1) = (tn i + cc i) / 65536 from fun i => by rw [hcc]; rfl)
      have HSS := Lib.hid (show ∀ i, ss i = (tn i + cc i) % 65536 from fun i => by rw [hss])
      have HCL := Lib.hid (show ∀ k, k ≤ 16 → cc k < 2147483648 from fun k hk => by
        rw [hcc]
        exact cy_lt (X := 65536) tn 0 16 2147483648 (by omega) (fun i c hi hc => by have := HTN.out i hi; omega) k hk)
      have HTOP := Lib.hid (show cc 16 = cn V n / M256 by rw [hcc, cy_div (by omega), HVAL.out, Nat.add_zero, M_pow])
      have HDG := Lib.hid (show ∀ i, i < 16 → ss i = dg 65536 (cn V n) i from fun i hi => by
        have h := cy_stay (X := 65536) (by omega) tn 0 16 i hi
        rw [HVAL.out, Nat.add_zero, ← hcc] at h
        rw [hss]
        exact h)
      clear hcc hss
      go_wp2_with fail
      go_loopw [4, 5] (fun c i wr => ∃ k : Nat, k ≤ 16 ∧ i = .int .i64 k ∧ c = .int .i64 (cc k : Nat) ∧ Whole wr G 24 (icells (fun _ => 0) 16).toArray ∧ OwnI wr B (some ⟨b, 0, none⟩) 16 d (fun i => if i < k then ss i else tn i) ∧ Below B w wr ∧ G < wr.heap.size) (fun _ i _ => 16 - (intOf i).toNat)
      case atStart => exact ⟨0, by omega, rfl, by rw [HC0.out]; rfl, Q1.out, Q2.out.congr (fun i _ => (if_neg (by omega)).symm), QB.out, hsz2⟩
      case round =>
        obtain ⟨k, hk, rfl, rfl, q1, q2, qb, hsz3⟩ := hrel
        by_cases hlk : k < 16
        · have c1 := q2.num k hlk
          have f1 := q2.free k
          rw [if_neg (Nat.lt_irrefl k)] at c1
          have R1 := Lib.hid q1
          have R2 := Lib.hid q2
          have RB := Lib.hid qb
          clear q1 q2 qb
          have tk := HTN.out k hlk
          have ck := HCL.out k hk
          have HN := Lib.hid (icells_next (a := tn) (b := ss) (n := 16) (k := k) (ss k) rfl)
          have h1 := HCS.out k
          have h2 := HSS.out k
          have HSUM := Lib.hid (show ((tn k : Nat) : Int) + ((cc k : Nat) : Int) = ((tn k + cc k : Nat) : Int) by omega)
          generalize hs : tn k + cc k = s at h1 h2 HSUM
          have hsb : s < 140737488355328 := by omega
          have HCN := Lib.hid h1
          have HSN := Lib.hid h2
          have HSD := Lib.hid hs
          clear h1 h2 hs
          have HQ := Lib.hid (show ((s : Int) - (s : Int) % 65536) / 65536 = ((cc (k + 1) : Nat) : Int) by rw [HCN.out]; omega)
          have HR := Lib.hid (show (s : Int) % 65536 = ((ss k : Nat) : Int) by rw [HSN.out]; omega)
          go_wp2_with (first | rw [HSUM.out])
          go_roundw
          case rel =>
            rw [HQ.out, HR.out]
            refine ⟨k + 1, by omega, by go_num, rfl, R1.out.far (by show G ≠ b; omega) _, ?_, RB.out.setCell hB _, by simpa using hsz3⟩
            have h := R2.out.put k (ss k)
            unfold OwnI at h ⊢
            rw [HN.out] at h
            exact h
          case measure => simp [intOf]; omega
        · obtain rfl : k = 16 := by omega
          have q3 : OwnI wr B (some ⟨b, 0, none⟩) 16 d ss := q2.congr fun i hi => if_pos hi
          have c1 := q3.num 0 (by omega)
          have f1 := q3.free 0
          have R1 := Lib.hid q1
          have R2 := Lib.hid q3
          have RB := Lib.hid qb
          clear q1 q2 q3 qb
          have ck := HCL.out 16 (by omega)
          have s0 : ss 0 < 65536 := by rw [HSS.out]; omega
          obtain ⟨c, hc⟩ : ∃ c, c = cc 16 := ⟨_, rfl⟩
          have HCC := Lib.hid hc
          have htop := HTOP.out
          rw [← hc] at htop ck ⊢
          have HTP := Lib.hid htop
          obtain ⟨u, hu⟩ : ∃ u, u = ss 0 + 38 * c := ⟨_, rfl⟩
          have hub : u < 70368744177664 := by omega
          have HU := Lib.hid (show ((ss 0 : Nat) : Int) + 38 * (c : Int) = (u : Int) by omega)
          have HUU := Lib.hid hu
          clear hc htop hu
          go_wp2_with fail
          rw [HU.out]
          go_roundw
          case rel =>
            refine ⟨n + 1, fun i => if i = 0 then u else ss i, by omega, by go_num, ?_, ?_, ?_, R1.out.far (by show G ≠ b; omega) _, R2.out.put 0 u, RB.out.setCell hB _, by simpa using hsz3⟩
            · intro i hi
              show (if i = 0 then u else ss i) < 70368744177664
              split
              · exact hub
              · have : ss i < 65536 := by rw [HSS.out]; omega
                omega
            · rw [cn, ← rv_nx]
              refine rv_congr 16 fun i hi => ?_
              unfold nx
              show (if i = 0 then u else ss i) = _
              split
              · rw [HUU.out, HDG.out 0 (by omega), HTP.out]
              · exact HDG.out i hi
            · intro h4 i hi
              obtain rfl : n = 3 := by omega
              have h3 := HFIX.out 1
              rw [show 1 + 2 = 3 from rfl] at h3
              have hz : c = 0 := by rw [HTP.out, h3, Nat.div_eq_of_lt HLAST.out]
              show (if i = 0 then u else ss i) = _
              rw [← h3, ← HDG.out i hi]
              split
              · rename_i e
                rw [e, HUU.out, hz]
                omega
              · rfl
          case measure => simp [intOf]; omega
    · obtain rfl : n = 4 := by omega
      have Q3 := Lib.hid (Q2.out.congr (HFIN.out rfl))
      generalize hF : dg 65536 (cv (cv V)) = F at Q3
      have HF := Lib.hid hF
      clear hF
      rw [show ((4 : Nat) : Int) = 4 from rfl]
      go_upto_region 16 with fail
      refine cut_world (fun X => Whole X G 24 (icells (fun _ => 0) 16).toArray ∧ Whole X wr.heap.size 24 (icells (fun _ => 0) 16).toArray ∧ OwnI X B (some ⟨b, 0, none⟩) 16 d F ∧ Below B w X) ⟨Q1.out.alloc _, ?_, Q3.out.alloc _, QB.out.alloc (by have := QB.out.size; omega) _⟩ ?_
      · exact whole_new _ _ rfl
      rintro X ⟨k1, k2, k3, kb⟩
      have K1 := Lib.hid k1
      have K2 := Lib.hid k2
      have K3 := Lib.hid k3
      have KB := Lib.hid kb
      clear k1 k2 k3 kb Q1 Q2 Q3 QB
      generalize wr.heap.size = G2 at K2 hsz2 ⊢
      go_wp2_with fail
      go_loopw [9] (fun i wr => ∃ k : Nat, k ≤ 16 ∧ i = .int .i64 k ∧ Whole wr G 24 (icells (fun _ => 0) 16).toArray ∧ Whole wr G2 24 (icells (fun i => if i < k then F i else 0) 16).toArray ∧ OwnI wr B (some ⟨b, 0, none⟩) 16 d F ∧ Below B w wr) (fun i _ => 16 - (intOf i).toNat)
      case atStart => exact ⟨0, by omega, rfl, K1.out, K2.out, K3.out, KB.out⟩
      case round =>
        obtain ⟨k, hk, rfl, q1, q2, q3, qb⟩ := hrel
        by_cases hlk : k < 16
        · have c1 := q3.num k hlk
          have c2 := q2.inum k hlk
          have f2 := q2.free k
          have HN := Lib.hid (icells_next (a := fun _ => 0) (b := F) (n := 16) (k := k) (F k) rfl)
          have R1 := Lib.hid q1
          have R2 := Lib.hid q2
          have R3 := Lib.hid q3
          have RB := Lib.hid qb
          clear q1 q2 q3 qb
          go_wp2_with fail
          go_roundw
          case rel =>
            refine ⟨k + 1, by omega, by go_num, R1.out.far (by show G ≠ G2; omega) _, ?_, R3.out.far (by show b ≠ G2; omega) _, RB.out.setCell (by show B ≤ G2; omega) _⟩
            have h := R2.out.put k (.int .i64 (F k : Nat))
            rw [icells_set, HN.out] at h
            exact h
          case measure => simp [intOf]; omega
        · obtain rfl : k = 16 := by omega
          rw [icells_congr (g := F) (fun i hi => if_pos hi)] at q2
          have R1 := Lib.hid q1
          have R2 := Lib.hid q2
          have RB := Lib.hid qb
          clear q1 q2 q3 qb
          go_wp2_with (first | (refine wpList_load_row rfl 24 (.tmp 8) rfl G2 rfl 24 (icells F 16).toArray (0, 0) _ R2.out rfl rfl (by rw [icells_size]; kernel_rfl) ?_) | (refine wpList_store_row rfl 24 (.tmp 2) (.tmp 56) rfl G (icells F 16).toArray rfl rfl 24 _ R1.out (by rw [icells_size]; kernel_rfl) (by rw [icells_size, icells_size]) (icells_one _ _) ?_))
          have hret : Whole (wr.setRow G (icells F 16).toArray) G 24 (icells F 16).toArray := setRow_heap _ _ _ _ _ _ R1.out
          refine bodyPost_ret (results_cell_row rfl _ _ G 24 _ (0, 0) _ rfl hret rfl rfl (by rw [icells_size]; kernel_rfl)) rfl ?_
          exact ⟨by rw [HF.out], below_setRow RB.out (by omega) _⟩

end RefF
end Go.Proofs.Ytnopjjkijedpeaa
