/- The document's own numbers of layer 5 (package aditref05). -/
import Derived.Test.YtnopjjkijedpeaaFieldTake
import Derived.Test.YtnopjjkijedpeaaRowI
import Derived.Test.YtnopjjkijedpeaaTree
import Derived.StillTailTactics
import Derived.Test.YtnopjjkijedpeaaWordsTwo
import Derived.Test.YtnopjjkijedpeaaFieldPower
namespace Go.Proofs.Ytnopjjkijedpeaa
namespace RefF
open Go.ChangeShapes Go.WideShapes Go.ChangeAt Go.RowKit
open Num Mem Words Radix FieldN Chacha Quiet

@[irreducible] def M256 : Nat := 115792089237316195423570985008687907853269984665640564039457584007913129639936
theorem M_pow : (65536 : Nat) ^ 16 = M256 := by unfold M256; decide
theorem M_two : (2 : Nat) ^ 256 = M256 := by unfold M256; decide
theorem M_big : 1000000000000000000000000000000 ≤ M256 := by unfold M256; decide
theorem M_T : M256 = 2 * T := by unfold M256 T; decide
theorem M_P : M256 = 38 + 2 * P := by rw [M_T, ← P_T]; omega

/-- what leaves at the top counts 38 -/
def cv (v : Nat) : Nat := v % M256 + 38 * (v / M256)
theorem cv_le (v : Nat) : cv v ≤ v := by
  unfold cv
  have h := Nat.div_add_mod v M256
  have h2 := M_big
  have : 38 * (v / M256) ≤ M256 * (v / M256) := Nat.mul_le_mul_right _ (by omega)
  omega
theorem cv_mod (v : Nat) : cv v % P = v % P := by
  unfold cv
  have h := Nat.div_add_mod v M256
  have e : v = v % M256 + 38 * (v / M256) + P * (2 * (v / M256)) := by
    have : ∀ q, M256 * q = 38 * q + P * (2 * q) := fun q => by
      rw [M_P, Nat.add_mul, show 2 * P * q = P * (2 * q) by ac_rfl]
    have := this (v / M256)
    omega
  conv => rhs; rw [e, Nat.add_mul_mod_self_left]
theorem cv_fix {v : Nat} (h : v < M256) : cv v = v := by
  unfold cv
  rw [Nat.mod_eq_of_lt h, Nat.div_eq_of_lt h, Nat.mul_zero, Nat.add_zero]
/-- two rounds are enough -/
theorem cv_two {v : Nat} (h : v / M256 < 2147483648) : cv (cv v) < M256 := by
  have hb := M_big
  have h1 : cv v < M256 + 81604378624 := by
    unfold cv
    have := Nat.mod_lt v (show 0 < M256 by omega)
    omega
  rcases Nat.lt_or_ge (cv v) M256 with k | k
  · rw [cv_fix k]; exact k
  · generalize cv v = u at h1 k
    unfold cv
    rw [show u = u - M256 + M256 by omega, Nat.add_mod_right, Nat.add_div_right _ (by omega), Nat.mod_eq_of_lt (by omega), Nat.div_eq_of_lt (by omega)]
    omega

/-- the limbs behind a round -/
def nx (v i : Nat) : Nat := if i = 0 then dg 65536 v 0 + 38 * (v / M256) else dg 65536 v i
theorem rv_nx (v : Nat) : rv 65536 (nx v) 16 = cv v := by
  have h : ∀ (a : Nat → Nat) (x k : Nat), rv 65536 (fun i => if i = 0 then a 0 + x else a i) (k + 1) = rv 65536 a (k + 1) + x := by
    intro a x k
    induction k with
    | zero => simp [rv]
    | succ k ih =>
      rw [show k + 1 + 1 = (k + 1) + 1 from rfl, rv, ih, show rv 65536 a (k + 1 + 1) = rv 65536 a (k + 1) + a (k + 1) * 65536 ^ (k + 1) from rfl, if_neg (by omega)]
      omega
  have := h (dg 65536 v) (38 * (v / M256)) 15
  rw [show 15 + 1 = 16 from rfl, rv_dg, M_pow] at this
  exact this

/-- so many rounds -/
def cn (v : Nat) : Nat → Nat
  | 0 => v
  | n + 1 => cv (cn v n)
theorem cn_le (v : Nat) : ∀ n, cn v n ≤ v
  | 0 => Nat.le_refl _
  | n + 1 => Nat.le_trans (cv_le _) (cn_le v n)

set_option maxRecDepth 100000 in
theorem carry_any (B b d : Nat) (t : Nat → Nat) (ht : ∀ i, i < 16 → t i < 70368744177664) (w : World) (hw : OwnI w B (some ⟨b, 0, none⟩) 16 d t) (hB : B ≤ b) :
    Calls Try.prog 40 #[.slice (some ⟨b, 0, none⟩) 16 d] w fun e w' => e = .returned (.agg (icells (dg 65536 (cv (cv (rv 65536 t 16)))) 16).toArray) ∧ Below B w w' := by
  obtain ⟨V, hV⟩ : ∃ V, V = rv 65536 t 16 := ⟨_, rfl⟩
  have hv : V / M256 < 2147483648 := by
    have h := cy_div (X := 65536) (by omega) t 0 16
    rw [M_pow, Nat.add_zero, ← hV] at h
    rw [← h]
    exact cy_lt (X := 65536) t 0 16 2147483648 (by omega) (fun i c hi hc => by have := ht i hi; omega) 16 (by omega)
  rw [← hV]
  have hsmall : ∀ n, cn V n / M256 < 2147483648 := fun n => Nat.lt_of_le_of_lt (Nat.div_le_div_right (cn_le V n)) hv
  have HSM := Lib.hid hsmall
  have hfix : ∀ n, cn V (n + 2) = cv (cv V) := fun n => by
    induction n with
    | zero => rfl
    | succ n ih =>
      rw [show n + 1 + 2 = (n + 2) + 1 from rfl, cn, ih]
      exact cv_fix (cv_two hv)
  have HFIX := Lib.hid hfix
  have HLAST := Lib.hid (cv_two hv)
  have HT := Lib.hid ht
  have HW := Lib.hid hw
  have HV := Lib.hid hV
  have hbs : b < w.heap.size := by
    obtain ⟨_, h1, _, h3⟩ := hw.at (by omega)
    injection h1 with h1
    injection h1 with h1
    omega
  clear hsmall hfix hv ht hw hV
  go_enter Try.func40, Try.ntmps40
  go_upto_region 1 with fail
  refine cut_world (fun W => Whole W w.heap.size 24 (icells (fun _ => 0) 16).toArray ∧ OwnI W B (some ⟨b, 0, none⟩) 16 d t ∧ Below B w W ∧ w.heap.size < W.heap.size) ⟨?_, HW.out.alloc _, Below.alloc (Below.refl _ _) (by omega) _, by simp⟩ ?_
  · exact whole_new _ _ rfl
  rintro W ⟨k1, k2, kb, hsz⟩
  have K1 := Lib.hid k1
  have K2 := Lib.hid k2
  have KB := Lib.hid kb
  clear k1 k2 kb HW
  generalize hG : w.heap.size = G at K1 hbs hsz ⊢
  go_wp2_with fail
  go_loopw [3] (fun i wr => ∃ (n : Nat) (tn : Nat → Nat), n ≤ 4 ∧ i = .int .i64 n ∧ (∀ i, i < 16 → tn i < 70368744177664) ∧ rv 65536 tn 16 = cn V n ∧ (n = 4 → ∀ i, i < 16 → tn i = dg 65536 (cv (cv V)) i) ∧ Whole wr G 24 (icells (fun _ => 0) 16).toArray ∧ OwnI wr B (some ⟨b, 0, none⟩) 16 d tn ∧ Below B w wr ∧ G < wr.heap.size) (fun i _ => 4 - (intOf i).toNat)
  case atStart => exact ⟨0, t, by omega, rfl, HT.out, HV.out.symm, fun h => by omega, K1.out, K2.out, KB.out, hsz⟩
  case round =>
    obtain ⟨n, tn, hn, rfl, htn, hval, hfin, q1, q2, qb, hsz2⟩ := hrel
    have HTN := Lib.hid htn
    have HVAL := Lib.hid hval
    have HFIN := Lib.hid hfin
    have Q1 := Lib.hid q1
    have Q2 := Lib.hid q2
    have QB := Lib.hid qb
    clear htn hval hfin q1 q2 qb
    by_cases hlt : n < 4
    · obtain ⟨cc, hcc⟩ : ∃ cc : Nat → Nat, cc = cy 65536 tn 0 := ⟨_, rfl⟩
      obtain ⟨ss, hss⟩ : ∃ ss : Nat → Nat, ss = fun i => (tn i + cc i) % 65536 := ⟨_, rfl⟩
      have HC0 := Lib.hid (show cc 0 = 0 by rw [hcc]; rfl)
      have HCS := Lib.hid (show ∀ i, cc (i + 1) = (tn i + cc i) / 65536 from fun i => by rw [hcc]; rfl)
      have HSS := Lib.hid (show ∀ i, ss i = (tn i + cc i) % 65536 from fun i => by rw [hss])
      have HCL := Lib.hid (show ∀ k, k ≤ 16 → cc k < 2147483648 from fun k hk => by
        rw [hcc]
        exact cy_lt (X := 65536) tn 0 16 2147483648 (by omega) (fun i c hi hc => by have := HTN.out i hi; omega) k hk)
      have HTOP := Lib.hid (show cc 16 = cn V n / M256 by rw [hcc, cy_div (by omega), HVAL.out, Nat.add_zero, M_pow])
      have HDG := Lib.hid (show ∀ i, i < 16 → ss i = dg 65536 (cn V n) i from fun i hi => by
        have h := cy_stay (X := 65536) (by omega) tn 0 16 i hi
        rw [HVAL.out, Nat.add_zero, ← hcc] at h
        rw [hss]
        exact h)
      clear hcc hss
      go_wp2_with fail
      go_loopw [4, 5] (fun c i wr => ∃ k : Nat, k ≤ 16 ∧ i = .int .i64 k ∧ c = .int .i64 (cc k : Nat) ∧ Whole wr G 24 (icells (fun _ => 0) 16).toArray ∧ OwnI wr B (some ⟨b, 0, none⟩) 16 d (fun i => if i < k then ss i else tn i) ∧ Below B w wr ∧ G < wr.heap.size) (fun _ i _ => 16 - (intOf i).toNat)
      case atStart => exact ⟨0, by omega, rfl, by rw [HC0.out]; rfl, Q1.out, Q2.out.congr (fun i _ => (if_neg (by omega)).symm), QB.out, hsz2⟩
      case round =>
        obtain ⟨k, hk, rfl, rfl, q1, q2, qb, hsz3⟩ := hrel
        by_cases hlk : k < 16
        · have c1 := q2.num k hlk
          have f1 := q2.free k
          rw [if_neg (Nat.lt_irrefl k)] at c1
          have R1 := Lib.hid q1
          have R2 := Lib.hid q2
          have RB := Lib.hid qb
          clear q1 q2 qb
          have tk := HTN.out k hlk
          have ck := HCL.out k hk
          have HN := Lib.hid (icells_next (a := tn) (b := ss) (n := 16) (k := k) (ss k) rfl)
          have h1 := HCS.out k
          have h2 := HSS.out k
          have HSUM := Lib.hid (show ((tn k : Nat) : Int) + ((cc k : Nat) : Int) = ((tn k + cc k : Nat) : Int) by omega)
          generalize hs : tn k + cc k = s at h1 h2 HSUM
          have hsb : s < 140737488355328 := by omega
          have HCN := Lib.hid h1
          have HSN := Lib.hid h2
          have HSD := Lib.hid hs
          clear h1 h2 hs
          have HQ := Lib.hid (show ((s : Int) - (s : Int) % 65536) / 65536 = ((cc (k + 1) : Nat) : Int) by rw [HCN.out]; omega)
          have HR := Lib.hid (show (s : Int) % 65536 = ((ss k : Nat) : Int) by rw [HSN.out]; omega)
          go_wp2_with (first | rw [HSUM.out])
          go_roundw
          case rel =>
            rw [HQ.out, HR.out]
            refine ⟨k + 1, by omega, by go_num, rfl, R1.out.far (by show G ≠ b; omega) _, ?_, RB.out.setCell hB _, by simpa using hsz3⟩
            have h := R2.out.put k (ss k)
            unfold OwnI at h ⊢
            rw [HN.out] at h
            exact h
          case measure => simp [intOf]; omega
        · obtain rfl : k = 16 := by omega
          have q3 : OwnI wr B (some ⟨b, 0, none⟩) 16 d ss := q2.congr fun i hi => if_pos hi
          have c1 := q3.num 0 (by omega)
          have f1 := q3.free 0
          have R1 := Lib.hid q1
          have R2 := Lib.hid q3
          have RB := Lib.hid qb
          clear q1 q2 q3 qb
          have ck := HCL.out 16 (by omega)
          have s0 : ss 0 < 65536 := by rw [HSS.out]; omega
          obtain ⟨c, hc⟩ : ∃ c, c = cc 16 := ⟨_, rfl⟩
          have HCC := Lib.hid hc
          have htop := HTOP.out
          rw [← hc] at htop ck ⊢
          have HTP := Lib.hid htop
          obtain ⟨u, hu⟩ : ∃ u, u = ss 0 + 38 * c := ⟨_, rfl⟩
          have hub : u < 70368744177664 := by omega
          have HU := Lib.hid (show ((ss 0 : Nat) : Int) + 38 * (c : Int) = (u : Int) by omega)
          have HUU := Lib.hid hu
          clear hc htop hu
          go_wp2_with fail
          rw [HU.out]
          go_roundw
          case rel =>
            refine ⟨n + 1, fun i => if i = 0 then u else ss i, by omega, by go_num, ?_, ?_, ?_, R1.out.far (by show G ≠ b; omega) _, R2.out.put 0 u, RB.out.setCell hB _, by simpa using hsz3⟩
            · intro i hi
              show (if i = 0 then u else ss i) < 70368744177664
              split
              · exact hub
              · have : ss i < 65536 := by rw [HSS.out]; omega
                omega
            · rw [cn, ← rv_nx]
              refine rv_congr 16 fun i hi => ?_
              unfold nx
              show (if i = 0 then u else ss i) = _
              split
              · rw [HUU.out, HDG.out 0 (by omega), HTP.out]
              · exact HDG.out i hi
            · intro h4 i hi
              obtain rfl : n = 3 := by omega
              have h3 := HFIX.out 1
              rw [show 1 + 2 = 3 from rfl] at h3
              have hz : c = 0 := by rw [HTP.out, h3, Nat.div_eq_of_lt HLAST.out]
              show (if i = 0 then u else ss i) = _
              rw [← h3, ← HDG.out i hi]
              split
              · rename_i e
                rw [e, HUU.out, hz]
                omega
              · rfl
          case measure => simp [intOf]; omega
    · obtain rfl : n = 4 := by omega
      have Q3 := Lib.hid (Q2.out.congr (HFIN.out rfl))
      generalize hF : dg 65536 (cv (cv V)) = F at Q3
      have HF := Lib.hid hF
      clear hF
      rw [show ((4 : Nat) : Int) = 4 from rfl]
      go_upto_region 16 with fail
      refine cut_world (fun X => Whole X G 24 (icells (fun _ => 0) 16).toArray ∧ Whole X wr.heap.size 24 (icells (fun _ => 0) 16).toArray ∧ OwnI X B (some ⟨b, 0, none⟩) 16 d F ∧ Below B w X) ⟨Q1.out.alloc _, ?_, Q3.out.alloc _, QB.out.alloc (by have := QB.out.size; omega) _⟩ ?_
      · exact whole_new _ _ rfl
      rintro X ⟨k1, k2, k3, kb⟩
      have K1 := Lib.hid k1
      have K2 := Lib.hid k2
      have K3 := Lib.hid k3
      have KB := Lib.hid kb
      clear k1 k2 k3 kb Q1 Q2 Q3 QB
      generalize wr.heap.size = G2 at K2 hsz2 ⊢
      go_wp2_with fail
      go_loopw [9] (fun i wr => ∃ k : Nat, k ≤ 16 ∧ i = .int .i64 k ∧ Whole wr G 24 (icells (fun _ => 0) 16).toArray ∧ Whole wr G2 24 (icells (fun i => if i < k then F i else 0) 16).toArray ∧ OwnI wr B (some ⟨b, 0, none⟩) 16 d F ∧ Below B w wr) (fun i _ => 16 - (intOf i).toNat)
      case atStart => exact ⟨0, by omega, rfl, K1.out, K2.out, K3.out, KB.out⟩
      case round =>
        obtain ⟨k, hk, rfl, q1, q2, q3, qb⟩ := hrel
        by_cases hlk : k < 16
        · have c1 := q3.num k hlk
          have c2 := q2.inum k hlk
          have f2 := q2.free k
          have HN := Lib.hid (icells_next (a := fun _ => 0) (b := F) (n := 16) (k := k) (F k) rfl)
          have R1 := Lib.hid q1
          have R2 := Lib.hid q2
          have R3 := Lib.hid q3
          have RB := Lib.hid qb
          clear q1 q2 q3 qb
          go_wp2_with fail
          go_roundw
          case rel =>
            refine ⟨k + 1, by omega, by go_num, R1.out.far (by show G ≠ G2; omega) _, ?_, R3.out.far (by show b ≠ G2; omega) _, RB.out.setCell (by show B ≤ G2; omega) _⟩
            have h := R2.out.put k (.int .i64 (F k : Nat))
            rw [icells_set, HN.out] at h
            exact h
          case measure => simp [intOf]; omega
        · obtain rfl : k = 16 := by omega
          rw [icells_congr (g := F) (fun i hi => if_pos hi)] at q2
          have R1 := Lib.hid q1
          have R2 := Lib.hid q2
          have RB := Lib.hid qb
          clear q1 q2 q3 qb
          go_wp2_with (first | (refine wpList_load_row rfl 24 (.tmp 8) rfl G2 rfl 24 (icells F 16).toArray (0, 0) _ R2.out rfl rfl (by rw [icells_size]; kernel_rfl) ?_) | (refine wpList_store_row rfl 24 (.tmp 2) (.tmp 56) rfl G (icells F 16).toArray rfl rfl 24 _ R1.out (by rw [icells_size]; kernel_rfl) (by rw [icells_size, icells_size]) (icells_one _ _) ?_))
          have hret : Whole (wr.setRow G (icells F 16).toArray) G 24 (icells F 16).toArray := setRow_heap _ _ _ _ _ _ R1.out
          refine bodyPost_ret (results_cell_row rfl _ _ G 24 _ (0, 0) _ rfl hret rfl rfl (by rw [icells_size]; kernel_rfl)) rfl ?_
          exact ⟨by rw [HF.out], below_setRow RB.out (by omega) _⟩

end RefF
end Go.Proofs.Ytnopjjkijedpeaa

namespace Go.Proofs.Ytnopjjkijedpeaa
namespace RefF
open Go.ChangeShapes Go.WideShapes Go.ChangeAt Go.RowKit
open Num Mem Words Radix FieldN Chacha Quiet

/-- a number below 2^256: its sixteen limbs -/
def nv (v : Nat) : Value := .agg (icells (dg 65536 v) 16).toArray
theorem lim_lt (v i : Nat) : dg 65536 v i < 65536 := dg_lt (by omega) v i
theorem rv_lim (v : Nat) (h : v < M256) : rv 65536 (dg 65536 v) 16 = v := by rw [rv_dg, M_pow, Nat.mod_eq_of_lt h]

/-- what comes of a number, back below 2^256 -/
def cc2 (v : Nat) : Nat := cv (cv v)
theorem cc2_mod (v : Nat) : cc2 v % P = v % P := by rw [cc2, cv_mod, cv_mod]
theorem ops_alloc {W X : World} {B : Nat} {o : Obj} (h : Below B W X ∧ B ≤ X.heap.size) : Below B W (X.alloc o) ∧ B ≤ (X.alloc o).heap.size := ⟨h.1.alloc h.2 o, by simp; omega⟩

theorem four_prime : rv 65536 (fun _ => 131070) 16 = 4 * P + 74 := by unfold P; decide
theorem rv_first16 (a : Nat → Nat) (x : Nat) : rv 65536 (fun i => if i = 0 then a 0 + x else a i) 16 = rv 65536 a 16 + x := by
  have h : ∀ k, rv 65536 (fun i => if i = 0 then a 0 + x else a i) (k + 1) = rv 65536 a (k + 1) + x := by
    intro k
    induction k with
    | zero => simp [rv]
    | succ k ih =>
      rw [show k + 1 + 1 = (k + 1) + 1 from rfl, rv, ih, show rv 65536 a (k + 1 + 1) = rv 65536 a (k + 1) + a (k + 1) * 65536 ^ (k + 1) from rfl, if_neg (by omega)]
      omega
  exact h 15

set_option maxRecDepth 100000 in
theorem add_any (a b : Nat) (ha : a < M256) (hb : b < M256) (w : World) :
    Calls Try.prog 16 #[nv a, nv b] w fun e w' => e = .returned (nv (cc2 (a + b))) ∧ Below w.heap.size w w' := by
  obtain ⟨x, hx⟩ : ∃ x, x = dg 65536 a := ⟨_, rfl⟩
  obtain ⟨y, hy⟩ : ∃ y, y = dg 65536 b := ⟨_, rfl⟩
  obtain ⟨z, hz⟩ : ∃ z, z = fun i => x i + y i := ⟨_, rfl⟩
  have HX := Lib.hid (show ∀ i, x i < 65536 from fun i => by rw [hx]; exact lim_lt a i)
  have HY := Lib.hid (show ∀ i, y i < 65536 from fun i => by rw [hy]; exact lim_lt b i)
  have HZ := Lib.hid (show ∀ i, z i = x i + y i from fun i => by rw [hz])
  have HZL := Lib.hid (show ∀ i, i < 16 → z i < 70368744177664 from fun i _ => by rw [HZ.out]; have := HX.out i; have := HY.out i; omega)
  have HVAL := Lib.hid (show rv 65536 z 16 = a + b by rw [hz, rv_add, hx, hy, rv_lim a ha, rv_lim b hb])
  rw [nv, nv, ← hx, ← hy, icells_lit16 x, icells_lit16 y]
  clear hx hy hz ha hb
  go_enter Try.func16, Try.ntmps16
  go_upto_region 1 with fail
  rw [← icells_lit16 x, ← icells_lit16 y]
  refine cut_world (fun W => Whole W w.heap.size 24 (icells x 16).toArray ∧ Whole W (w.heap.size + 1) 24 (icells y 16).toArray ∧ Whole W (w.heap.size + 1 + 1) 24 (icells (fun _ => 0) 16).toArray ∧ Below w.heap.size w W) ⟨?_, ?_, ?_, ?_⟩ ?_
  · exact ((whole_new _ _ rfl).alloc _).alloc _
  · exact (whole_new _ _ (by simp)).alloc _
  · rw [icells_lit16 fun _ => 0]
    exact whole_new _ _ (by simp)
  · exact below_alloc (below_alloc (below_alloc (Below.refl _ _) _) _) _
  rintro W ⟨k1, k2, k3, kb⟩
  have K1 := Lib.hid k1
  have K2 := Lib.hid k2
  have K3 := Lib.hid k3
  have KB := Lib.hid kb
  have hb3 := k3.lt
  clear k1 k2 k3 kb
  generalize hB : w.heap.size = B at K1 K2 K3 KB hb3 ⊢
  go_wp2_with fail
  go_loopw [5, 6] (fun o i wr => ∃ (k : Nat) (A : Option Addr) (c : Nat), k ≤ 16 ∧ i = .int .i64 k ∧ o = .slice A k c ∧ OwnI wr (B + 1 + 1 + 1) A k c z ∧ Below (B + 1 + 1 + 1) W wr ∧ B + 1 + 1 + 1 ≤ wr.heap.size) (fun _ i _ => 16 - (intOf i).toNat)
  case atStart => exact ⟨0, none, 0, by omega, rfl, rfl, OwnI.nil _ _ _, Below.refl _ _, hb3⟩
  case round =>
    obtain ⟨k, A, c, hk, rfl, rfl, ho, hbl, hsz⟩ := hrel
    have HO := Lib.hid ho
    have HL := Lib.hid hbl
    clear ho hbl
    by_cases hlt : k < 16
    · have i1 : (k : Int) < 16 := by omega
      have x1 := HX.out k
      have y1 := HY.out k
      have HS := Lib.hid (show IntKind.i64.wrap ((x k : Nat) + (y k : Nat) : Int) = (z k : Int) by rw [IntKind.wrap_i64, HZ.out]; omega)
      go_wp2_with fail
      refine region_drew (fun X => Below (B + 1 + 1 + 1) W X ∧ B + 1 + 1 + 1 ≤ X.heap.size) rfl ⟨below_drewN HL.out 1, hsz⟩ ?_
      intro hS
      refine take 0 _ rfl (by kernel_rfl) (by kernel_rfl) (by kernel_rfl) (fun _ _ _ h => h) (by rfl) hS (by intro w _; go_simp; with_reducible rfl) ?_
      try simp only [Act.put, List.setIfInBounds_toArray, List.set_cons_zero, List.set_cons_succ]
      refine take 1 _ rfl (by kernel_rfl) (by kernel_rfl) (by kernel_rfl) (fun _ _ _ h => h) (by rfl) hS (by intro w _; go_simp; with_reducible rfl) ?_
      try simp only [Act.put, List.setIfInBounds_toArray, List.set_cons_zero, List.set_cons_succ]
      refine take 2 _ rfl (by kernel_rfl) (by kernel_rfl) (by kernel_rfl) (fun _ _ _ h => h) (by rfl) hS (by intro w _; go_simp; with_reducible rfl) ?_
      try simp only [Act.put, List.setIfInBounds_toArray, List.set_cons_zero, List.set_cons_succ]
      refine take 3 _ rfl (by kernel_rfl) (by kernel_rfl) (by kernel_rfl) (fun _ _ _ h => h) (by rfl) hS (by intro w hw; have hcl := (K1.out.below hw.1 (by omega)).inum k hlt; go_simp; with_reducible rfl) ?_
      try simp only [Act.put, List.setIfInBounds_toArray, List.set_cons_zero, List.set_cons_succ]
      refine take 4 _ rfl (by kernel_rfl) (by kernel_rfl) (by kernel_rfl) (fun _ _ _ h => h) (by rfl) hS (by intro w _; go_simp; with_reducible rfl) ?_
      try simp only [Act.put, List.setIfInBounds_toArray, List.set_cons_zero, List.set_cons_succ]
      refine take 5 _ rfl (by kernel_rfl) (by kernel_rfl) (by kernel_rfl) (fun _ _ _ h => h) (by rfl) hS (by intro w _; go_simp; with_reducible rfl) ?_
      try simp only [Act.put, List.setIfInBounds_toArray, List.set_cons_zero, List.set_cons_succ]
      refine take 6 _ rfl (by kernel_rfl) (by kernel_rfl) (by kernel_rfl) (fun _ _ _ h => h) (by rfl) hS (by intro w hw; have hcl := (K2.out.below hw.1 (by omega)).inum k hlt; go_simp; with_reducible rfl) ?_
      try simp only [Act.put, List.setIfInBounds_toArray, List.set_cons_zero, List.set_cons_succ]
      refine take 7 _ rfl (by kernel_rfl) (by kernel_rfl) (by kernel_rfl) (fun _ _ _ h => h) (by rfl) hS (by intro w _; go_simp; with_reducible rfl) ?_
      try simp only [Act.put, List.setIfInBounds_toArray, List.set_cons_zero, List.set_cons_succ]
      rw [HS.out]
      refine alone 8 rfl (by kernel_rfl) (by rfl) ?_
      intro K hK
      go_simp
      have hS1 := ops_alloc (o := .cells #[.int .i64 (z k : Nat)] 2) hS
      refine hK.out _ _ hS1 ?_
      clear hK K
      try simp only [Act.put, List.setIfInBounds_toArray, List.set_cons_zero, List.set_cons_succ]
      clear hS1
      refine alone 9 rfl (by kernel_rfl) (by rfl) ?_
      intro K hK
      refine wp_pushI (W := W) _ _ rfl rfl rfl HO.out.drew hS.1 hS.2 rfl (by omega) ?_
      intro A2 c2' w1 hown1 hbel1 hsz1 _
      have HO1 := Lib.hid hown1
      have hS1 : Below (B + 1 + 1 + 1) W w1 ∧ B + 1 + 1 + 1 ≤ w1.heap.size := ⟨hbel1, hsz1⟩
      clear hown1 hbel1 hsz1 hS
      refine hK.out _ _ hS1 ?_
      clear hK K
      have hS := hS1
      clear hS1
      try simp only [Act.put, List.setIfInBounds_toArray, List.set_cons_zero, List.set_cons_succ]
      refine take 10 _ rfl (by kernel_rfl) (by kernel_rfl) (by kernel_rfl) (fun _ _ _ h => h) (by rfl) hS (by intro w _; go_simp; with_reducible rfl) ?_
      try simp only [Act.put, List.setIfInBounds_toArray, List.set_cons_zero, List.set_cons_succ]
      refine region_end (by kernel_rfl) ?_
      have HS1 := Lib.hid hS
      clear hS
      go_wp2_with fail
      go_roundw
      case rel => exact ⟨k + 1, A2, c2', by omega, by go_num, rfl, HO1.out, HS1.out.1, HS1.out.2⟩
      case measure => simp [intOf]; omega
    · obtain rfl : k = 16 := by omega
      obtain ⟨g, rfl, hg1, hg2⟩ := HO.out.at (by omega)
      go_wp2_with fail
      refine (carry_any (B + 1 + 1 + 1) g c z HZL.out _ HO.out hg1).mono ?_
      rintro e w1 ⟨rfl, hb1⟩
      have R3 := Lib.hid ((K3.out.below HL.out (by omega)).below hb1 (by omega))
      have RB := Lib.hid (KB.out.trans ((HL.out.trans hb1).mono (by omega)))
      clear hb1
      rw [HVAL.out]
      generalize hL : dg 65536 (cv (cv (a + b))) = L
      have HLL := Lib.hid hL
      clear hL
      go_wp2_with (refine wpList_store_row rfl 24 (.tmp 4) (.tmp 22) rfl (B + 1 + 1) (icells L 16).toArray rfl rfl 24 _ R3.out (by rw [icells_size]; kernel_rfl) (by rw [icells_size, icells_size]) (icells_one _ _) ?_)
      have hret : Whole (w1.setRow (B + 1 + 1) (icells L 16).toArray) (B + 1 + 1) 24 (icells L 16).toArray := setRow_heap _ _ _ _ _ _ R3.out
      refine bodyPost_ret (results_cell_row rfl _ _ (B + 1 + 1) 24 _ (0, 0) _ rfl hret rfl rfl (by rw [icells_size]; kernel_rfl)) rfl ?_
      exact ⟨by rw [nv, cc2, HLL.out], by rw [hB]; exact below_setRow RB.out (by omega) _⟩


set_option maxRecDepth 100000 in
theorem sub_any (a b : Nat) (ha : a < M256) (hb : b < M256) (w : World) :
    Calls Try.prog 17 #[nv a, nv b] w fun e w' => e = .returned (nv (cc2 (a + 4 * P - b))) ∧ Below w.heap.size w w' := by
  obtain ⟨x, hx⟩ : ∃ x, x = dg 65536 a := ⟨_, rfl⟩
  obtain ⟨y, hy⟩ : ∃ y, y = dg 65536 b := ⟨_, rfl⟩
  obtain ⟨z, hz⟩ : ∃ z, z = fun i => x i + 131070 - y i := ⟨_, rfl⟩
  have HX := Lib.hid (show ∀ i, x i < 65536 from fun i => by rw [hx]; exact lim_lt a i)
  have HY := Lib.hid (show ∀ i, y i < 65536 from fun i => by rw [hy]; exact lim_lt b i)
  have HZ := Lib.hid (show ∀ i, z i = x i + 131070 - y i from fun i => by rw [hz])
  have HZL0 := Lib.hid (show ∀ i, i < 16 → z i < 200000 ∧ 65535 ≤ z i from fun i _ => by rw [HZ.out]; have := HX.out i; have := HY.out i; omega)
  obtain ⟨u, hu⟩ : ∃ u : Nat → Nat, u = fun i => if i = 0 then z 0 - 74 else z i := ⟨_, rfl⟩
  have HUD := Lib.hid hu
  have HZL := Lib.hid (show ∀ i, i < 16 → u i < 70368744177664 from fun i hi => by
    have h1 := HZL0.out i hi
    have h2 := HZL0.out 0 (by omega)
    rw [hu]
    show (if i = 0 then z 0 - 74 else z i) < _
    split <;> omega)
  have HVAL := Lib.hid (show rv 65536 u 16 = a + 4 * P - b by
    have h1 : rv 65536 (fun i => z i + y i) 16 = rv 65536 (fun i => x i + 131070) 16 := rv_congr 16 fun i _ => by
      rw [HZ.out]
      have := HY.out i
      omega
    rw [rv_add, rv_add, hx, hy, rv_lim a ha, rv_lim b hb, four_prime] at h1
    have h2 : rv 65536 (fun i => if i = 0 then u 0 + 74 else u i) 16 = rv 65536 z 16 := rv_congr 16 fun i _ => by
      rw [hu]
      have := HZL0.out 0 (by omega)
      show (if i = 0 then (if 0 = 0 then z 0 - 74 else z 0) + 74 else if i = 0 then z 0 - 74 else z i) = z i
      by_cases e : i = 0
      · subst e
        rw [if_pos rfl, if_pos rfl]
        omega
      · rw [if_neg e, if_neg e]
    rw [rv_first16] at h2
    omega)
  clear hu
  rw [nv, nv, ← hx, ← hy, icells_lit16 x, icells_lit16 y]
  clear hx hy hz ha hb
  go_enter Try.func17, Try.ntmps17
  go_upto_region 1 with fail
  rw [← icells_lit16 x, ← icells_lit16 y]
  refine cut_world (fun W => Whole W w.heap.size 24 (icells x 16).toArray ∧ Whole W (w.heap.size + 1) 24 (icells y 16).toArray ∧ Whole W (w.heap.size + 1 + 1) 24 (icells (fun _ => 0) 16).toArray ∧ Below w.heap.size w W) ⟨?_, ?_, ?_, ?_⟩ ?_
  · exact ((whole_new _ _ rfl).alloc _).alloc _
  · exact (whole_new _ _ (by simp)).alloc _
  · rw [icells_lit16 fun _ => 0]
    exact whole_new _ _ (by simp)
  · exact below_alloc (below_alloc (below_alloc (Below.refl _ _) _) _) _
  rintro W ⟨k1, k2, k3, kb⟩
  have K1 := Lib.hid k1
  have K2 := Lib.hid k2
  have K3 := Lib.hid k3
  have KB := Lib.hid kb
  have hb3 := k3.lt
  clear k1 k2 k3 kb
  generalize hB : w.heap.size = B at K1 K2 K3 KB hb3 ⊢
  go_wp2_with fail
  go_loopw [5, 6] (fun o i wr => ∃ (k : Nat) (A : Option Addr) (c : Nat), k ≤ 16 ∧ i = .int .i64 k ∧ o = .slice A k c ∧ OwnI wr (B + 1 + 1 + 1) A k c z ∧ Below (B + 1 + 1 + 1) W wr ∧ B + 1 + 1 + 1 ≤ wr.heap.size) (fun _ i _ => 16 - (intOf i).toNat)
  case atStart => exact ⟨0, none, 0, by omega, rfl, rfl, OwnI.nil _ _ _, Below.refl _ _, hb3⟩
  case round =>
    obtain ⟨k, A, c, hk, rfl, rfl, ho, hbl, hsz⟩ := hrel
    have HO := Lib.hid ho
    have HL := Lib.hid hbl
    clear ho hbl
    by_cases hlt : k < 16
    · have i1 : (k : Int) < 16 := by omega
      have x1 := HX.out k
      have y1 := HY.out k
      have HS0 := Lib.hid (show IntKind.i64.wrap (IntKind.i64.wrap ((x k : Int) - (y k : Int)) + 131070) = (z k : Int) by rw [IntKind.wrap_i64, IntKind.wrap_i64, HZ.out]; omega)
      go_wp2_with fail
      refine region_drew (fun X => Below (B + 1 + 1 + 1) W X ∧ B + 1 + 1 + 1 ≤ X.heap.size) rfl ⟨below_drewN HL.out 1, hsz⟩ ?_
      intro hS
      refine take 0 _ rfl (by kernel_rfl) (by kernel_rfl) (by kernel_rfl) (fun _ _ _ h => h) (by rfl) hS (by intro w _; go_simp; with_reducible rfl) ?_
      try simp only [Act.put, List.setIfInBounds_toArray, List.set_cons_zero, List.set_cons_succ]
      refine take 1 _ rfl (by kernel_rfl) (by kernel_rfl) (by kernel_rfl) (fun _ _ _ h => h) (by rfl) hS (by intro w _; go_simp; with_reducible rfl) ?_
      try simp only [Act.put, List.setIfInBounds_toArray, List.set_cons_zero, List.set_cons_succ]
      refine take 2 _ rfl (by kernel_rfl) (by kernel_rfl) (by kernel_rfl) (fun _ _ _ h => h) (by rfl) hS (by intro w _; go_simp; with_reducible rfl) ?_
      try simp only [Act.put, List.setIfInBounds_toArray, List.set_cons_zero, List.set_cons_succ]
      refine take 3 _ rfl (by kernel_rfl) (by kernel_rfl) (by kernel_rfl) (fun _ _ _ h => h) (by rfl) hS (by intro w hw; have hcl := (K1.out.below hw.1 (by omega)).inum k hlt; go_simp; with_reducible rfl) ?_
      try simp only [Act.put, List.setIfInBounds_toArray, List.set_cons_zero, List.set_cons_succ]
      refine take 4 _ rfl (by kernel_rfl) (by kernel_rfl) (by kernel_rfl) (fun _ _ _ h => h) (by rfl) hS (by intro w _; go_simp; with_reducible rfl) ?_
      try simp only [Act.put, List.setIfInBounds_toArray, List.set_cons_zero, List.set_cons_succ]
      refine take 5 _ rfl (by kernel_rfl) (by kernel_rfl) (by kernel_rfl) (fun _ _ _ h => h) (by rfl) hS (by intro w _; go_simp; with_reducible rfl) ?_
      try simp only [Act.put, List.setIfInBounds_toArray, List.set_cons_zero, List.set_cons_succ]
      refine take 6 _ rfl (by kernel_rfl) (by kernel_rfl) (by kernel_rfl) (fun _ _ _ h => h) (by rfl) hS (by intro w hw; have hcl := (K2.out.below hw.1 (by omega)).inum k hlt; go_simp; with_reducible rfl) ?_
      try simp only [Act.put, List.setIfInBounds_toArray, List.set_cons_zero, List.set_cons_succ]
      refine take 7 _ rfl (by kernel_rfl) (by kernel_rfl) (by kernel_rfl) (fun _ _ _ h => h) (by rfl) hS (by intro w _; go_simp; with_reducible rfl) ?_
      try simp only [Act.put, List.setIfInBounds_toArray, List.set_cons_zero, List.set_cons_succ]
      refine take 8 _ rfl (by kernel_rfl) (by kernel_rfl) (by kernel_rfl) (fun _ _ _ h => h) (by rfl) hS (by intro w _; go_simp; with_reducible rfl) ?_
      try simp only [Act.put, List.setIfInBounds_toArray, List.set_cons_zero, List.set_cons_succ]
      rw [HS0.out]
      refine alone 9 rfl (by kernel_rfl) (by rfl) ?_
      intro K hK
      go_simp
      have hS1 := ops_alloc (o := .cells #[.int .i64 (z k : Nat)] 2) hS
      refine hK.out _ _ hS1 ?_
      clear hK K
      try simp only [Act.put, List.setIfInBounds_toArray, List.set_cons_zero, List.set_cons_succ]
      clear hS1
      refine alone 10 rfl (by kernel_rfl) (by rfl) ?_
      intro K hK
      refine wp_pushI (W := W) _ _ rfl rfl rfl HO.out.drew hS.1 hS.2 rfl (by omega) ?_
      intro A2 c2' w1 hown1 hbel1 hsz1 _
      have HO1 := Lib.hid hown1
      have hS1 : Below (B + 1 + 1 + 1) W w1 ∧ B + 1 + 1 + 1 ≤ w1.heap.size := ⟨hbel1, hsz1⟩
      clear hown1 hbel1 hsz1 hS
      refine hK.out _ _ hS1 ?_
      clear hK K
      have hS := hS1
      clear hS1
      try simp only [Act.put, List.setIfInBounds_toArray, List.set_cons_zero, List.set_cons_succ]
      refine take 11 _ rfl (by kernel_rfl) (by kernel_rfl) (by kernel_rfl) (fun _ _ _ h => h) (by rfl) hS (by intro w _; go_simp; with_reducible rfl) ?_
      try simp only [Act.put, List.setIfInBounds_toArray, List.set_cons_zero, List.set_cons_succ]
      refine region_end (by kernel_rfl) ?_
      have HS1 := Lib.hid hS
      clear hS
      go_wp2_with fail
      go_roundw
      case rel => exact ⟨k + 1, A2, c2', by omega, by go_num, rfl, HO1.out, HS1.out.1, HS1.out.2⟩
      case measure => simp [intOf]; omega
    · obtain rfl : k = 16 := by omega
      obtain ⟨g, rfl, hg1, hg2⟩ := HO.out.at (by omega)
      have c1 := HO.out.num 0 (by omega)
      have f1 := HO.out.free 0
      have z0 := HZL0.out 0 (by omega)
      have HS := Lib.hid (show ((z 0 : Nat) : Int) - 74 = ((z 0 - 74 : Nat) : Int) by omega)
      have hput := HO.out.put 0 (z 0 - 74)
      rw [← HUD.out] at hput
      have HP := Lib.hid hput
      have HL2 := Lib.hid (HL.out.setCell (p := ⟨g, 0, none⟩) hg1 (.int .i64 ((z 0 - 74 : Nat) : Int)))
      clear hput
      go_upto_region 7 with fail
      rw [HS.out]
      refine cut_world (fun X => OwnI X (B + 1 + 1 + 1) (some ⟨g, 0, none⟩) 16 c u ∧ Below (B + 1 + 1 + 1) W X) ⟨HP.out, HL2.out⟩ ?_
      rintro X ⟨r1, r2⟩
      have R1 := Lib.hid r1
      have R2 := Lib.hid r2
      clear r1 r2 c1 f1
      go_wp2_with fail
      refine (carry_any (B + 1 + 1 + 1) g c u HZL.out _ R1.out hg1).mono ?_
      rintro e w1 ⟨rfl, hb1⟩
      have R3 := Lib.hid ((K3.out.below R2.out (by omega)).below hb1 (by omega))
      have RB := Lib.hid (KB.out.trans ((R2.out.trans hb1).mono (by omega)))
      clear hb1
      rw [HVAL.out]
      generalize hL : dg 65536 (cv (cv (a + 4 * P - b))) = L
      have HLL := Lib.hid hL
      clear hL
      go_wp2_with (refine wpList_store_row rfl 24 (.tmp 4) (.tmp 29) rfl (B + 1 + 1) (icells L 16).toArray rfl rfl 24 _ R3.out (by rw [icells_size]; kernel_rfl) (by rw [icells_size, icells_size]) (icells_one _ _) ?_)
      have hret : Whole (w1.setRow (B + 1 + 1) (icells L 16).toArray) (B + 1 + 1) 24 (icells L 16).toArray := setRow_heap _ _ _ _ _ _ R3.out
      refine bodyPost_ret (results_cell_row rfl _ _ (B + 1 + 1) 24 _ (0, 0) _ rfl hret rfl rfl (by rw [icells_size]; kernel_rfl)) rfl ?_
      exact ⟨by rw [nv, cc2, HLL.out], by rw [hB]; exact below_setRow RB.out (by omega) _⟩


end RefF
end Go.Proofs.Ytnopjjkijedpeaa

namespace Go.Proofs.Ytnopjjkijedpeaa
namespace RefF
open Go.ChangeShapes Go.WideShapes Go.ChangeAt Go.RowKit
open Num Mem Words Radix FieldN Chacha Quiet

theorem rv_none (X n : Nat) : rv X (fun _ => 0) n = 0 := by
  induction n with
  | zero => rfl
  | succ n ih => rw [rv, ih, Nat.zero_mul]

theorem rv_bump (X : Nat) (t : Nat → Nat) (m v : Nat) : ∀ n, m < n → rv X (fun k => if k = m then t m + v else t k) n = rv X t n + v * X ^ m
  | 0, h => by omega
  | n + 1, h => by
    by_cases e : m = n
    · subst e
      rw [rv, rv, if_pos rfl, rv_congr (b := t) m (fun i hi => if_neg (by omega)), Nat.add_mul]
      omega
    · rw [rv, rv_bump X t m v n (by omega), if_neg (by omega), rv]
      omega

theorem rv_split (X : Nat) (t : Nat → Nat) (n : Nat) : ∀ k, rv X t (n + k) = rv X t n + X ^ n * rv X (fun i => t (i + n)) k
  | 0 => by simp [rv]
  | k + 1 => by
    rw [show n + (k + 1) = n + k + 1 from rfl, rv, rv_split X t n k, rv, Nat.mul_add, Nat.pow_add, Nat.add_comm k n, show X ^ n * (t (n + k) * X ^ k) = t (n + k) * (X ^ n * X ^ k) by ac_rfl]
    omega

theorem rv_mul38 (X : Nat) (t : Nat → Nat) : ∀ k, rv X (fun i => 38 * t i) k = 38 * rv X t k
  | 0 => rfl
  | k + 1 => by rw [rv, rv, rv_mul38 X t k, Nat.mul_add, Nat.mul_assoc]

/-- a product's limbs come back below 2^256 -/
theorem fold_val (t : Nat → Nat) (S : Nat) (h : rv 65536 t 31 = S) : rv 65536 (fun i => if i < 15 then t i + 38 * t (i + 16) else t i) 16 % P = S % P := by
  have h1 := rv_split 65536 t 16 15
  rw [show 16 + 15 = 31 from rfl, h, M_pow] at h1
  have h2 : rv 65536 (fun i => if i < 15 then t i + 38 * t (i + 16) else t i) (15 + 1) = rv 65536 t (15 + 1) + 38 * rv 65536 (fun i => t (i + 16)) 15 := by
    rw [rv, rv_congr (b := fun i => t i + 38 * t (i + 16)) 15 (fun i hi => if_pos hi), rv_add, rv_mul38 65536 (fun i => t (i + 16)), if_neg (by omega), show rv 65536 t (15 + 1) = rv 65536 t 15 + t 15 * 65536 ^ 15 from rfl]
    omega
  rw [show 15 + 1 = 16 from rfl] at h2
  rw [h2, h1]
  generalize rv 65536 (fun i => t (i + 16)) 15 = H
  rw [M_P, show rv 65536 t 16 + (38 + 2 * P) * H = rv 65536 t 16 + 38 * H + P * (2 * H) by rw [Nat.add_mul, show 2 * P * H = P * (2 * H) by ac_rfl]; omega, Nat.add_mul_mod_self_left]

theorem icells_lit31 : (icells (fun _ => 0) 31).toArray = #[.int .i64 0, .int .i64 0, .int .i64 0, .int .i64 0, .int .i64 0, .int .i64 0, .int .i64 0, .int .i64 0, .int .i64 0, .int .i64 0, .int .i64 0, .int .i64 0, .int .i64 0, .int .i64 0, .int .i64 0, .int .i64 0, .int .i64 0, .int .i64 0, .int .i64 0, .int .i64 0, .int .i64 0, .int .i64 0, .int .i64 0, .int .i64 0, .int .i64 0, .int .i64 0, .int .i64 0, .int .i64 0, .int .i64 0, .int .i64 0, .int .i64 0] := rfl

/-- what lies in memory while the products are summed -/
def MW (w : World) (B : Nat) (x y : Nat → Nat) (X : World) : Prop :=
  Whole X B 24 (icells x 16).toArray ∧ Whole X (B + 1) 24 (icells y 16).toArray ∧ Whole X (B + 1 + 1) 24 (icells (fun _ => 0) 16).toArray ∧ Below B w X
theorem mw_put {w X : World} {B i : Nat} {x y : Nat → Nat} {v : Value} (h : MW w B x y X) : MW w B x y (X.setCell ⟨B + 1 + 1 + 1, i, none⟩ v) := by
  obtain ⟨h1, h2, h3, h4⟩ := h
  exact ⟨h1.far (by show B ≠ B + 1 + 1 + 1; omega) _, h2.far (by show B + 1 ≠ B + 1 + 1 + 1; omega) _, h3.far (by show B + 1 + 1 ≠ B + 1 + 1 + 1; omega) _, h4.setCell (by show B ≤ B + 1 + 1 + 1; omega) _⟩

theorem top_small (t : Nat → Nat) (ht : ∀ i, i < 16 → t i < 70368744177664) : rv 65536 t 16 / M256 < 2147483648 := by
  have h := cy_div (X := 65536) (by omega) t 0 16
  rw [M_pow, Nat.add_zero] at h
  rw [← h]
  exact cy_lt (X := 65536) t 0 16 2147483648 (by omega) (fun i c hi hc => by have := ht i hi; omega) 16 (by omega)

theorem mul_step (x y t : Nat) (hx : x < 65536) (hy : y < 65536) (ht : t ≤ 256 * 4294836225) : IntKind.i64.wrap ((t : Int) + IntKind.i64.wrap ((x : Int) * (y : Int))) = ((t + x * y : Nat) : Int) := by
  have h : x * y ≤ 65535 * 65535 := Nat.mul_le_mul (by omega) (by omega)
  have e : (x : Int) * (y : Int) = ((x * y : Nat) : Int) := by rw [Int.natCast_mul]
  rw [e]
  generalize x * y = z at h
  rw [IntKind.wrap_i64, IntKind.wrap_i64]
  omega
theorem mul_bound (x y t n : Nat) (hx : x < 65536) (hy : y < 65536) (ht : t ≤ n * 4294836225) : t + x * y ≤ (n + 1) * 4294836225 := by
  have h : x * y ≤ 65535 * 65535 := Nat.mul_le_mul (by omega) (by omega)
  omega

set_option maxRecDepth 100000 in
theorem mul_any (a b : Nat) (ha : a < M256) (hb : b < M256) (w : World) :
    Calls Try.prog 23 #[nv a, nv b] w fun e w' => ∃ v, v < M256 ∧ v % P = a * b % P ∧ e = .returned (nv v) ∧ Below w.heap.size w w' := by
  obtain ⟨x, hx⟩ : ∃ x, x = dg 65536 a := ⟨_, rfl⟩
  obtain ⟨y, hy⟩ : ∃ y, y = dg 65536 b := ⟨_, rfl⟩
  have HX := Lib.hid (show ∀ i, x i < 65536 from fun i => by rw [hx]; exact lim_lt a i)
  have HY := Lib.hid (show ∀ i, y i < 65536 from fun i => by rw [hy]; exact lim_lt b i)
  have HXV := Lib.hid (show rv 65536 x 16 = a by rw [hx, rv_lim a ha])
  have HYV := Lib.hid (show rv 65536 y 16 = b by rw [hy, rv_lim b hb])
  rw [nv, nv, ← hx, ← hy, icells_lit16 x, icells_lit16 y]
  clear hx hy ha hb
  go_enter Try.func23, Try.ntmps23
  go_upto_region 2 with fail
  rw [← icells_lit16 x, ← icells_lit16 y]
  refine cut_world (fun W => MW w w.heap.size x y W ∧ Whole W (w.heap.size + 1 + 1 + 1) 67 (icells (fun _ => 0) 31).toArray) ⟨⟨?_, ?_, ?_, ?_⟩, ?_⟩ ?_
  · exact (((whole_new _ _ rfl).alloc _).alloc _).alloc _
  · exact ((whole_new _ _ (by simp)).alloc _).alloc _
  · rw [icells_lit16 fun _ => 0]
    exact (whole_new _ _ (by simp)).alloc _
  · exact below_alloc (below_alloc (below_alloc (below_alloc (Below.refl _ _) _) _) _) _
  · rw [icells_lit31]
    exact whole_new _ _ (by simp)
  rintro W ⟨k1, k2⟩
  have K1 := Lib.hid k1
  have K2 := Lib.hid k2
  clear k1 k2
  generalize hB : w.heap.size = B at K1 K2 ⊢
  go_wp2_with fail
  go_loopw [6] (fun i wr => ∃ (k : Nat) (t : Nat → Nat), k ≤ 16 ∧ i = .int .i64 k ∧ rv 65536 t 31 = rv 65536 x k * b ∧ (∀ i, t i ≤ 16 * k * 4294836225) ∧ MW w B x y wr ∧ Whole wr (B + 1 + 1 + 1) 67 (icells t 31).toArray) (fun i _ => 16 - (intOf i).toNat)
  case atStart => exact ⟨0, fun _ => 0, by omega, rfl, by rw [rv_none]; simp [rv], fun _ => by simp, K1.out, K2.out⟩
  case round =>
    obtain ⟨i, t, hi, rfl, hval, hbd, q1, q2⟩ := hrel
    have HVAL := Lib.hid hval
    have HBD := Lib.hid hbd
    have Q1 := Lib.hid q1
    have Q2 := Lib.hid q2
    clear hval hbd q1 q2
    by_cases hli : i < 16
    · have i2 : (i : Int) < 16 := by omega
      go_wp2_with fail
      go_loopw [7] (fun j wr => ∃ (k : Nat) (t : Nat → Nat), k ≤ 16 ∧ j = .int .i64 k ∧ rv 65536 t 31 = rv 65536 x i * b + x i * 65536 ^ i * rv 65536 y k ∧ (∀ q, t q ≤ (16 * i + k) * 4294836225) ∧ MW w B x y wr ∧ Whole wr (B + 1 + 1 + 1) 67 (icells t 31).toArray) (fun j _ => 16 - (intOf j).toNat)
      case atStart => exact ⟨0, t, by omega, rfl, by rw [HVAL.out]; simp [rv], fun q => HBD.out q, Q1.out, Q2.out⟩
      case round =>
        obtain ⟨j, t, hj, rfl, hval, hbd, q1, q2⟩ := hrel
        by_cases hlj : j < 16
        · obtain ⟨m, hm⟩ : ∃ m, m = i + j := ⟨_, rfl⟩
          have hm31 : m < 31 := by omega
          have c1 := q1.1.inum i hli
          have c2 := q1.2.1.inum j hlj
          have c3 := q2.inum m hm31
          have f3 := q2.free m
          have i1 : (m : Int) < 31 := by omega
          have i3 : (j : Int) < 16 := by omega
          have HI := Lib.hid (show IntKind.i64.wrap ((i : Int) + (j : Int)) = (m : Int) by rw [IntKind.wrap_i64]; omega)
          have hb1 := mul_bound (x i) (y j) (t m) (16 * i + j) (HX.out i) (HY.out j) (hbd m)
          have HS := Lib.hid (mul_step (x i) (y j) (t m) (HX.out i) (HY.out j) (Nat.le_trans (hbd m) (Nat.mul_le_mul_right _ (by omega))))
          have hv2 := rv_bump 65536 t m (x i * y j) 31 hm31
          have HVN := Lib.hid (show rv 65536 (fun k => if k = m then t m + x i * y j else t k) 31 = rv 65536 x i * b + x i * 65536 ^ i * rv 65536 y (j + 1) by
            rw [hv2, hval, rv, Nat.mul_add, hm, Nat.pow_add, show x i * 65536 ^ i * (y j * 65536 ^ j) = x i * y j * (65536 ^ i * 65536 ^ j) by ac_rfl, Nat.add_assoc])
          have HBN := Lib.hid (show ∀ q, (fun k => if k = m then t m + x i * y j else t k) q ≤ (16 * i + (j + 1)) * 4294836225 from fun q => by
            show (if q = m then t m + x i * y j else t q) ≤ _
            split
            · rw [← Nat.add_assoc]; exact hb1
            · exact Nat.le_trans (hbd q) (Nat.mul_le_mul_right _ (by omega)))
          have R1 := Lib.hid q1
          have R2 := Lib.hid q2
          have HME := Lib.hid hm
          clear hval hbd q1 q2 hb1 hv2 hm
          go_wp2_with fail
          refine wp_region_still_tail 16 (by kernel_rfl) (by kernel_rfl) ?_
          simp only [List.take_succ_cons, List.take_zero, List.drop_succ_cons, List.drop_zero]
          repeat still_step
          rw [HI.out]
          repeat still_step
          refine wpStill_nil ?_
          change wpList _ _ _ _ _ wr.drew
          rw [HS.out]
          go_wp2_with fail
          go_roundw
          case rel =>
            refine ⟨j + 1, _, by omega, by go_num, HVN.out, HBN.out, mw_put ⟨R1.out.1.drew, R1.out.2.1.drew, R1.out.2.2.1.drew, below_drewN R1.out.2.2.2 1⟩, ?_⟩
            have h := R2.out.drew.put m (.int .i64 (t m + x i * y j : Nat))
            rw [icells_set] at h
            exact h
          case measure => simp [intOf]; omega
        · obtain rfl : j = 16 := by omega
          have HV2 := Lib.hid (show rv 65536 t 31 = rv 65536 x (i + 1) * b by rw [hval, HYV.out, rv, Nat.add_mul])
          have HB2 := Lib.hid (show ∀ q, t q ≤ 16 * (i + 1) * 4294836225 from fun q => by
            have := hbd q
            rw [show 16 * (i + 1) = 16 * i + 16 by omega]
            exact this)
          have R1 := Lib.hid q1
          have R2 := Lib.hid q2
          clear hval hbd q1 q2
          go_wp2_with fail
          go_roundw
          case rel => exact ⟨i + 1, t, by omega, by go_num, HV2.out, HB2.out, R1.out, R2.out⟩
          case measure => simp [intOf]; omega
    · obtain rfl : i = 16 := by omega
      obtain ⟨z, hz⟩ : ∃ z : Nat → Nat, z = fun i => if i < 15 then t i + 38 * t (i + 16) else t i := ⟨_, rfl⟩
      have HZL := Lib.hid (show ∀ i, i < 16 → z i < 70368744177664 from fun i _ => by
        have h1 := HBD.out i
        have h2 := HBD.out (i + 16)
        rw [hz]
        show (if i < 15 then t i + 38 * t (i + 16) else t i) < _
        split <;> omega)
      have HZM := Lib.hid (show rv 65536 z 16 % P = a * b % P by rw [hz]; exact fold_val t (a * b) (by rw [HVAL.out, HXV.out]))
      have HZA := Lib.hid (show ∀ i, i < 15 → z i = t i + 38 * t (i + 16) from fun i hi => by rw [hz]; exact if_pos hi)
      have HZB := Lib.hid (show z 15 = t 15 by rw [hz]; exact if_neg (by omega))
      have HZT := Lib.hid (show ∀ q, t q < 1200000000000 from fun q => by have := HBD.out q; omega)
      have K4 := Q2
      have hb4 := Q2.out.lt
      clear hz
      rw [show ((16 : Nat) : Int) = 16 from rfl]
      obtain ⟨X, hX⟩ : ∃ X, X = wr := ⟨_, rfl⟩
      subst hX
      go_wp2_with fail
      go_loopw [8, 9] (fun o i wr' => ∃ (k : Nat) (A : Option Addr) (c : Nat), k ≤ 16 ∧ i = .int .i64 k ∧ o = .slice A k c ∧ OwnI wr' (B + 1 + 1 + 1 + 1) A k c z ∧ Below (B + 1 + 1 + 1 + 1) X wr' ∧ B + 1 + 1 + 1 + 1 ≤ wr'.heap.size) (fun _ i _ => 16 - (intOf i).toNat)
      case atStart => exact ⟨0, none, 0, by omega, rfl, rfl, OwnI.nil _ _ _, Below.refl _ _, hb4⟩
      case round =>
        obtain ⟨k, A, c, hk, rfl, rfl, ho, hbl, hsz⟩ := hrel
        have HO := Lib.hid ho
        have HL := Lib.hid hbl
        clear ho hbl
        by_cases hlt : k < 16
        · have ik : (k : Int) < 16 := by omega
          by_cases h15 : k < 15
          · have hd15 : decide ((k : Int) < 15) = true := decide_eq_true (by omega)
            obtain ⟨m, hm⟩ : ∃ m, m = k + 16 := ⟨_, rfl⟩
            have i1 : (m : Int) < 31 := by omega
            have i4 : (k : Int) < 31 := by omega
            have t1 := HZT.out k
            have t2 := HZT.out m
            have HM16 := Lib.hid (show IntKind.i64.wrap ((k : Int) + 16) = (m : Int) by rw [IntKind.wrap_i64]; omega)
            have HS := Lib.hid (show IntKind.i64.wrap ((t k : Int) + IntKind.i64.wrap (38 * (t m : Int))) = (z k : Int) by rw [HZA.out k h15, ← hm, IntKind.wrap_i64, IntKind.wrap_i64]; omega)
            have HME := Lib.hid hm
            have hm31 : m < 31 := by omega
            clear hm
            go_wp2_with fail
            refine region_drew (fun Y => Below (B + 1 + 1 + 1 + 1) X Y ∧ B + 1 + 1 + 1 + 1 ≤ Y.heap.size) rfl ⟨below_drewN HL.out 1, hsz⟩ ?_
            intro hS
            refine take 0 _ rfl (by kernel_rfl) (by kernel_rfl) (by kernel_rfl) (fun _ _ _ h => h) (by rfl) hS (by intro w _; go_simp; with_reducible rfl) ?_
            try simp only [Act.put, List.setIfInBounds_toArray, List.set_cons_zero, List.set_cons_succ]
            refine take 1 _ rfl (by kernel_rfl) (by kernel_rfl) (by kernel_rfl) (fun _ _ _ h => h) (by rfl) hS (by intro w _; go_simp; with_reducible rfl) ?_
            try simp only [Act.put, List.setIfInBounds_toArray, List.set_cons_zero, List.set_cons_succ]
            refine take 2 _ rfl (by kernel_rfl) (by kernel_rfl) (by kernel_rfl) (fun _ _ _ h => h) (by rfl) hS (by intro w _; go_simp; with_reducible rfl) ?_
            try simp only [Act.put, List.setIfInBounds_toArray, List.set_cons_zero, List.set_cons_succ]
            refine take 3 _ rfl (by kernel_rfl) (by kernel_rfl) (by kernel_rfl) (fun _ _ _ h => h) (by rfl) hS (by intro w hw; have hcl := (K4.out.below hw.1 (by omega)).inum k (by omega); go_simp; with_reducible rfl) ?_
            try simp only [Act.put, List.setIfInBounds_toArray, List.set_cons_zero, List.set_cons_succ]
            refine take 4 _ rfl (by kernel_rfl) (by kernel_rfl) (by kernel_rfl) (fun _ _ _ h => h) (by rfl) hS (by intro w _; go_simp; with_reducible rfl) ?_
            try simp only [Act.put, List.setIfInBounds_toArray, List.set_cons_zero, List.set_cons_succ]
            refine take 5 _ rfl (by kernel_rfl) (by kernel_rfl) (by kernel_rfl) (fun _ _ _ h => h) (by rfl) hS (by intro w _; go_simp; with_reducible rfl) ?_
            try simp only [Act.put, List.setIfInBounds_toArray, List.set_cons_zero, List.set_cons_succ]
            rw [HM16.out]
            refine take 6 _ rfl (by kernel_rfl) (by kernel_rfl) (by kernel_rfl) (fun _ _ _ h => h) (by rfl) hS (by intro w _; go_simp; with_reducible rfl) ?_
            try simp only [Act.put, List.setIfInBounds_toArray, List.set_cons_zero, List.set_cons_succ]
            refine take 7 _ rfl (by kernel_rfl) (by kernel_rfl) (by kernel_rfl) (fun _ _ _ h => h) (by rfl) hS (by intro w hw; have hcl := (K4.out.below hw.1 (by omega)).inum m (by omega); go_simp; with_reducible rfl) ?_
            try simp only [Act.put, List.setIfInBounds_toArray, List.set_cons_zero, List.set_cons_succ]
            refine take 8 _ rfl (by kernel_rfl) (by kernel_rfl) (by kernel_rfl) (fun _ _ _ h => h) (by rfl) hS (by intro w _; go_simp; with_reducible rfl) ?_
            try simp only [Act.put, List.setIfInBounds_toArray, List.set_cons_zero, List.set_cons_succ]
            refine take 9 _ rfl (by kernel_rfl) (by kernel_rfl) (by kernel_rfl) (fun _ _ _ h => h) (by rfl) hS (by intro w _; go_simp; with_reducible rfl) ?_
            try simp only [Act.put, List.setIfInBounds_toArray, List.set_cons_zero, List.set_cons_succ]
            rw [HS.out]
            refine alone 10 rfl (by kernel_rfl) (by rfl) ?_
            intro K hK
            go_simp
            have hS1 := ops_alloc (o := .cells #[.int .i64 (z k : Nat)] 2) hS
            refine hK.out _ _ hS1 ?_
            clear hK K
            try simp only [Act.put, List.setIfInBounds_toArray, List.set_cons_zero, List.set_cons_succ]
            clear hS1
            refine alone 11 rfl (by kernel_rfl) (by rfl) ?_
            intro K hK
            refine wp_pushI (W := X) _ _ rfl rfl rfl HO.out.drew hS.1 hS.2 rfl (by omega) ?_
            intro A2 c2' w1 hown1 hbel1 hsz1 _
            have HO1 := Lib.hid hown1
            have hS1 : Below (B + 1 + 1 + 1 + 1) X w1 ∧ B + 1 + 1 + 1 + 1 ≤ w1.heap.size := ⟨hbel1, hsz1⟩
            clear hown1 hbel1 hsz1 hS
            refine hK.out _ _ hS1 ?_
            clear hK K
            have hS := hS1
            clear hS1
            try simp only [Act.put, List.setIfInBounds_toArray, List.set_cons_zero, List.set_cons_succ]
            refine take 12 _ rfl (by kernel_rfl) (by kernel_rfl) (by kernel_rfl) (fun _ _ _ h => h) (by rfl) hS (by intro w _; go_simp; with_reducible rfl) ?_
            try simp only [Act.put, List.setIfInBounds_toArray, List.set_cons_zero, List.set_cons_succ]
            refine region_end (by kernel_rfl) ?_
            have HS1 := Lib.hid hS
            clear hS
            go_wp2_with fail
            go_roundw
            case rel => exact ⟨k + 1, A2, c2', by omega, by go_num, rfl, HO1.out, HS1.out.1, HS1.out.2⟩
            case measure => simp [intOf]; omega
          · obtain rfl : k = 15 := by omega
            have hc1 := (K4.out.below HL.out (by omega)).inum 15 (by omega)
            rw [show ((15 : Nat) : Int) = 15 from rfl]
            have HZ15 := Lib.hid (show ((t 15 : Nat) : Int) = (z 15 : Nat) by rw [HZB.out])
            go_wp2_with (at_builtin; rw [HZ15.out]; refine wpList_pushI (W := X) rfl _ _ rfl rfl rfl HO.out HL.out hsz rfl (by omega) ?_; intro A2 c2' w1 hown1 hbel1 hsz1 _; have HO1 := Lib.hid hown1; have HL1 := Lib.hid hbel1; clear hown1 hbel1)
            go_roundw
            case rel => exact ⟨15 + 1, A2, c2', by omega, by go_num, rfl, HO1.out, HL1.out, by omega⟩
            case measure => simp [intOf]
        · obtain rfl : k = 16 := by omega
          obtain ⟨g, rfl, hg1, hg2⟩ := HO.out.at (by omega)
          go_wp2_with fail
          refine (carry_any (B + 1 + 1 + 1 + 1) g c z HZL.out _ HO.out hg1).mono ?_
          rintro e w1 ⟨rfl, hb1⟩
          have R3 := Lib.hid ((Q1.out.2.2.1.below HL.out (by omega)).below hb1 (by omega))
          have RB := Lib.hid (Q1.out.2.2.2.trans ((HL.out.trans hb1).mono (by omega)))
          clear hb1
          have HVV := Lib.hid (show cv (cv (rv 65536 z 16)) < M256 from cv_two (top_small z HZL.out))
          have HVM := Lib.hid (show cv (cv (rv 65536 z 16)) % P = a * b % P by rw [cv_mod, cv_mod, HZM.out])
          generalize cv (cv (rv 65536 z 16)) = v at HVV HVM ⊢
          generalize hL : dg 65536 v = L
          have HLL := Lib.hid hL
          clear hL
          go_wp2_with (refine wpList_store_row rfl 24 (.tmp 4) (.tmp 60) rfl (B + 1 + 1) (icells L 16).toArray rfl rfl 24 _ R3.out (by rw [icells_size]; kernel_rfl) (by rw [icells_size, icells_size]) (icells_one _ _) ?_)
          have hret : Whole (w1.setRow (B + 1 + 1) (icells L 16).toArray) (B + 1 + 1) 24 (icells L 16).toArray := setRow_heap _ _ _ _ _ _ R3.out
          refine bodyPost_ret (results_cell_row rfl _ _ (B + 1 + 1) 24 _ (0, 0) _ rfl hret rfl rfl (by rw [icells_size]; kernel_rfl)) rfl ?_
          exact ⟨v, HVV.out, HVM.out, by rw [nv, HLL.out], by rw [hB]; exact below_setRow RB.out (by omega) _⟩

end RefF
end Go.Proofs.Ytnopjjkijedpeaa

namespace Go.Proofs.Ytnopjjkijedpeaa
namespace RefF
open Go.ChangeShapes Go.WideShapes Go.ChangeAt Go.RowKit
open Num Mem Words Radix FieldN Chacha Quiet

theorem rv_succ (X : Nat) (a : Nat → Nat) (k : Nat) : rv X a (k + 1) = rv X a k + a k * X ^ k := rfl
/-- the greatest limbs below 2^255 -/
def fu (i : Nat) : Nat := if i = 15 then 32767 else 65535
theorem rv_fu (i : Nat) (h : i ≤ 15) : rv 65536 fu i + 1 = 65536 ^ i := by
  induction i with
  | zero => rfl
  | succ i ih =>
    have := ih (by omega)
    rw [rv, show fu i = 65535 from if_neg (by omega), Nat.pow_succ]
    omega
theorem rv_fu_all : rv 65536 fu 16 + 1 = T := by
  have h := rv_fu 15 (by omega)
  have e : rv 65536 fu 16 = rv 65536 fu 15 + 32767 * 65536 ^ 15 := rv_succ 65536 fu 15
  rw [e, show T = 32768 * 65536 ^ 15 by unfold T; decide]
  generalize 65536 ^ 15 = M at h ⊢
  omega

theorem above {m : Nat → Nat} (i : Nat) : ∀ k, (∀ j, i ≤ j → j < i + k → m j = fu j) → rv 65536 fu (i + k) + rv 65536 m i = rv 65536 m (i + k) + rv 65536 fu i
  | 0, _ => by rw [Nat.add_zero]; omega
  | k + 1, h => by
    have ih := above i k (fun j h1 h2 => h j h1 (by omega))
    have e := h (i + k) (by omega) (by omega)
    rw [show i + (k + 1) = i + k + 1 from rfl, rv_succ 65536 fu (i + k), rv_succ 65536 m (i + k), e]
    omega

theorem lesser {m : Nat → Nat} (hm : ∀ i, m i < 65536) (i : Nat) (h1 : 1 ≤ i) (h15 : i ≤ 15) (hu : ∀ j, i < j → j < 16 → m j = fu j) (hi : m i < fu i) : rv 65536 m 16 < P := by
  obtain ⟨k, hk⟩ : ∃ k, 16 = i + 1 + k := ⟨15 - i, by omega⟩
  have h2 := above (m := m) (i + 1) k (fun j a b => hu j (by omega) (by omega))
  rw [← hk] at h2
  have h3 := rv_fu_all
  have h4 := rv_fu i h15
  have h5 := rv_lt (X := 65536) (a := m) i (fun j _ => hm j)
  rw [rv_succ 65536 m i, rv_succ 65536 fu i] at h2
  have h6 : (m i + 1) * 65536 ^ i ≤ fu i * 65536 ^ i := Nat.mul_le_mul_right _ hi
  rw [Nat.add_mul] at h6
  have h7 : 65536 ≤ 65536 ^ i := Nat.le_self_pow (by omega) _
  have h8 := P_T
  omega

theorem greatest {m : Nat → Nat} (hu : ∀ j, 0 < j → j < 16 → m j = fu j) : rv 65536 m 16 + 65536 = T + m 0 := by
  have h2 := above (m := m) 1 15 (fun j a b => hu j (by omega) (by omega))
  rw [show 1 + 15 = 16 from rfl] at h2
  have h3 := rv_fu_all
  have e : ∀ a : Nat → Nat, rv 65536 a 1 = a 0 := fun a => by simp [rv]
  rw [e, e, show fu 0 = 65535 from rfl] at h2
  omega

set_option maxRecDepth 100000 in
theorem less_any (v : Nat) (hv : v < T) (r : Bool) (hr : r = true ↔ v < P) (w : World) :
    Calls Try.prog 51 #[nv v] w fun e w' => e = .returned (.bool r) ∧ Below w.heap.size w w' := by
  obtain ⟨m, hm⟩ : ∃ m, m = dg 65536 v := ⟨_, rfl⟩
  have HM := Lib.hid (show ∀ i, m i < 65536 from fun i => by rw [hm]; exact lim_lt v i)
  have HV := Lib.hid (show rv 65536 m 16 = v by rw [hm, rv_lim v (by have := M_T; omega)])
  have htop : m 15 ≤ 32767 := by
    have h1 : rv 65536 m 15 + m 15 * 65536 ^ 15 = v := HV.out
    have h2 : m 15 * 65536 ^ 15 < 32768 * 65536 ^ 15 := by
      have : T = 32768 * 65536 ^ 15 := by unfold T; decide
      omega
    have := Nat.lt_of_mul_lt_mul_right h2
    omega
  have HLE := Lib.hid (fun i h1 h15 hu hi => HV.out ▸ lesser HM.out i h1 h15 hu hi)
  have HGR := Lib.hid (fun hu => HV.out ▸ greatest (m := m) hu)
  have HPT := Lib.hid P_T
  rw [nv, ← hm, icells_lit16 m]
  clear hm hv
  go_enter Try.func51, Try.ntmps51
  go_upto_region 1 with fail
  rw [← icells_lit16 m]
  refine cut_world (fun W => Whole W w.heap.size 24 (icells m 16).toArray ∧ Below w.heap.size w W) ⟨whole_new _ _ rfl, below_alloc (Below.refl _ _) _⟩ ?_
  rintro W ⟨k1, kb⟩
  have K1 := Lib.hid k1
  have KB := Lib.hid kb
  have c15 := k1.inum 15 (by omega)
  clear k1 kb
  generalize hB : w.heap.size = B at K1 KB c15 ⊢
  by_cases h15 : m 15 = 32767
  · have hd : (((m 15 : Nat) : Int) != 32767) = false := by rw [h15]; rfl
    go_wp2_with fail
    go_loopw [3] (fun i wr => ∃ k : Nat, k ≤ 14 ∧ i = .int .i64 k ∧ (∀ j, k < j → j < 16 → m j = fu j) ∧ wr = W) (fun i _ => (intOf i).toNat)
    case atStart => exact ⟨14, by omega, rfl, fun j h1 h2 => by rw [show j = 15 by omega, h15]; rfl, rfl⟩
    case round =>
      obtain ⟨k, hk, rfl, hj, rfl⟩ := hrel
      have HJ := Lib.hid hj
      clear hj
      by_cases hk0 : 0 < k
      · have ck := K1.out.inum k (by omega)
        have ik : (k : Int) < 16 := by omega
        by_cases hf : m k = 65535
        · have hd2 : (((m k : Nat) : Int) != 65535) = false := by rw [hf]; rfl
          go_wp2_with fail
          go_roundw
          case rel =>
            exact ⟨k - 1, by omega, by go_num, fun j h1 h2 => by
              rcases Nat.lt_or_ge k j with l | l
              · exact HJ.out j l h2
              · rw [show j = k by omega, hf]
                exact (if_neg (by omega)).symm, trivial⟩
          case measure => simp [intOf]; omega
        · have hd2 : (((m k : Nat) : Int) != 65535) = true := by rw [bne_iff_ne]; omega
          have hlt := HLE.out k (by omega) (by omega) HJ.out (by
            rw [show fu k = 65535 from if_neg (by omega)]
            have := HM.out k
            omega)
          obtain rfl : r = true := hr.2 hlt
          clear hlt
          go_wp2_with fail
          go_ret
          exact ⟨rfl, by first | exact KB.out | (rw [hB]; exact KB.out)⟩
      · obtain rfl : k = 0 := by omega
        have c0 := K1.out.inum 0 (by omega)
        have hg := HGR.out HJ.out
        have hpt := HPT.out
        have h0 := HM.out 0
        have HD := Lib.hid (show decide (((m 0 : Nat) : Int) < 65517) = r from by
          by_cases l : m 0 < 65517
          · rw [decide_eq_true (by omega), hr.2 (by omega)]
          · rw [decide_eq_false (by omega)]
            cases r
            · rfl
            · have := hr.1 rfl
              omega)
        clear hg hpt
        go_wp2_with fail
        rw [HD.out]
        go_ret
        exact ⟨rfl, by first | exact KB.out | (rw [hB]; exact KB.out)⟩
  · have hd : (((m 15 : Nat) : Int) != 32767) = true := by rw [bne_iff_ne]; omega
    have hlt := HLE.out 15 (by omega) (by omega) (fun j h1 h2 => by omega) (by rw [show fu 15 = 32767 from rfl]; omega)
    obtain rfl : r = true := hr.2 hlt
    have hd3 : decide (((m 15 : Nat) : Int) < 32767) = true := decide_eq_true (by omega)
    clear hlt
    go_wp2_with fail
    go_ret
    exact ⟨rfl, by first | exact KB.out | (rw [hB]; exact KB.out)⟩

/-- what goes past 2^255 comes back nineteen times -/
def tv (v : Nat) : Nat := v % T + 19 * (v / T)
def tn (v : Nat) : Nat → Nat
  | 0 => v
  | n + 1 => tv (tn v n)
theorem tv_mod (v : Nat) : tv v % P = v % P := back_mod v
theorem tn_mod (v : Nat) : ∀ n, tn v n % P = v % P
  | 0 => rfl
  | n + 1 => by rw [tn, tv_mod, tn_mod v n]
theorem tv_small {v : Nat} (h : v < M256) : tv v < T + 19 := by
  have h1 := M_T
  have h2 := T_big
  have h3 : v / T < 2 := Nat.div_lt_of_lt_mul (by omega)
  have h4 := Nat.mod_lt v (show 0 < T by omega)
  unfold tv
  omega
theorem tv_done {v : Nat} (h : v < T + 19) : tv (tv v) < T := by
  have h2 := T_big
  have hd : ∀ u, u < T → tv u = u := fun u hu => by unfold tv; rw [Nat.mod_eq_of_lt hu, Nat.div_eq_of_lt hu]; omega
  rcases Nat.lt_or_ge v T with l | l
  · rw [hd v l, hd v l]; exact l
  · have e : tv v < T := by
      unfold tv
      rw [show v = v - T + T by omega, Nat.add_mod_right, Nat.add_div_right _ (by omega), Nat.mod_eq_of_lt (by omega), Nat.div_eq_of_lt (by omega)]
      omega
    rw [hd _ e]; exact e
theorem tn_small {v : Nat} (h : v < M256) : ∀ n, tn v n < M256
  | 0 => h
  | n + 1 => by
    have h1 := tv_small (tn_small h n)
    have h2 := M_T
    have h3 := T_big
    rw [tn]
    omega

/-- the limbs that are handed on in a round -/
def tl (v i : Nat) : Nat := if i = 0 then dg 65536 v 0 + 19 * (v / T) else if i = 15 then dg 65536 v 15 % 32768 else dg 65536 v i
theorem top_T (v : Nat) (h : v < M256) : dg 65536 v 15 / 32768 = v / T ∧ rv 65536 (dg 65536 v) 15 + dg 65536 v 15 % 32768 * 65536 ^ 15 = v % T := by
  have h1 := rv_lim v h
  have e : rv 65536 (dg 65536 v) 16 = rv 65536 (dg 65536 v) 15 + dg 65536 v 15 * 65536 ^ 15 := rv_succ 65536 (dg 65536 v) 15
  have hl := rv_lt (X := 65536) (a := dg 65536 v) 15 (fun i _ => lim_lt v i)
  have hT : T = 32768 * 65536 ^ 15 := by unfold T; decide
  rw [h1] at e
  generalize rv 65536 (dg 65536 v) 15 = L at e hl ⊢
  generalize dg 65536 v 15 = d at e ⊢
  have hp : 0 < 65536 ^ 15 := Nat.pow_pos (by omega)
  generalize 65536 ^ 15 = M at e hl hT hp ⊢
  have hd := Nat.div_add_mod d 32768
  have e2 : v = (L + d % 32768 * M) + T * (d / 32768) := by
    rw [e, hT]
    conv => lhs; rw [← hd, Nat.add_mul]
    rw [show 32768 * (d / 32768) * M = 32768 * M * (d / 32768) by ac_rfl]
    omega
  have hlt : L + d % 32768 * M < T := by
    have : d % 32768 * M ≤ 32767 * M := Nat.mul_le_mul_right _ (by omega)
    omega
  rw [e2, Nat.add_mul_div_left _ _ (by omega), Nat.div_eq_of_lt hlt, Nat.add_mul_mod_self_left, Nat.mod_eq_of_lt hlt]
  omega
theorem rv_tl (v : Nat) (h : v < M256) : rv 65536 (tl v) 16 = tv v := by
  obtain ⟨h1, h2⟩ := top_T v h
  have e := rv_first16 (fun i => if i = 15 then dg 65536 v 15 % 32768 else dg 65536 v i) (19 * (v / T))
  have e2 : rv 65536 (fun i => if i = 15 then dg 65536 v 15 % 32768 else dg 65536 v i) 16 = v % T := by
    rw [rv_succ 65536 (fun i => if i = 15 then dg 65536 v 15 % 32768 else dg 65536 v i) 15, if_pos rfl, rv_congr (b := dg 65536 v) 15 (fun i hi => if_neg (by omega)), h2]
  rw [e2] at e
  rw [tv, ← e]
  exact rv_congr 16 fun i hi => rfl

theorem dg_one (x : Nat) (h : x < 65536) (i : Nat) : dg 65536 x i = if i = 0 then x else 0 := by
  unfold dg
  by_cases e : i = 0
  · subst e
    rw [if_pos rfl, Nat.pow_zero, Nat.div_one, Nat.mod_eq_of_lt h]
  · rw [if_neg e, Nat.div_eq_of_lt (Nat.lt_of_lt_of_le h (Nat.le_self_pow e _)), Nat.zero_mod]
/-- what is not below the prime, but below 2^255 -/
theorem above_P (u : Nat) (h : u < T) (hp : P ≤ u) : dg 65536 u 0 = u - P + 65517 := by
  have h1 := P_T
  have h2 : T = 65536 * (32768 * 65536 ^ 14) := by unfold T; decide
  generalize 32768 * 65536 ^ 14 = M at h2
  unfold dg
  rw [Nat.pow_zero, Nat.div_one]
  omega

set_option maxRecDepth 100000 in
theorem told_any (v : Nat) (hv : v < M256) (w : World) :
    Calls Try.prog 38 #[nv v] w fun e w' => e = .returned (nv (v % P)) ∧ Below w.heap.size w w' := by
  have HSM := Lib.hid (tn_small hv)
  have HFIN := Lib.hid (show tn v 3 < T from tv_done (tv_small hv))
  have HMOD := Lib.hid (tn_mod v)
  have HV0 := Lib.hid (show dg 65536 (tn v 0) = dg 65536 v from rfl)
  rw [nv]
  rw [← HV0.out]
  rw [icells_lit16 (dg 65536 (tn v 0))]
  clear hv
  go_enter Try.func38, Try.ntmps38
  go_upto_region 1 with fail
  rw [← icells_lit16 (dg 65536 (tn v 0))]
  refine cut_world (fun W => Whole W w.heap.size 24 (icells (dg 65536 (tn v 0)) 16).toArray ∧ Whole W (w.heap.size + 1) 24 (icells (fun _ => 0) 16).toArray ∧ Below w.heap.size w W ∧ w.heap.size + 1 + 1 ≤ W.heap.size) ⟨?_, ?_, ?_, by simp⟩ ?_
  · exact (whole_new _ _ rfl).alloc _
  · rw [icells_lit16 fun _ => 0]
    exact whole_new _ _ (by simp)
  · exact below_alloc (below_alloc (Below.refl _ _) _) _
  rintro W ⟨k1, k2, kb, hsz⟩
  have K1 := Lib.hid k1
  have K2 := Lib.hid k2
  have KB := Lib.hid kb
  clear k1 k2 kb
  generalize hB : w.heap.size = B at K1 K2 KB hsz ⊢
  go_wp2_with fail
  go_loopw [3] (fun i wr => ∃ n : Nat, n ≤ 3 ∧ i = .int .i64 n ∧ Whole wr B 24 (icells (dg 65536 (tn v n)) 16).toArray ∧ Whole wr (B + 1) 24 (icells (fun _ => 0) 16).toArray ∧ Below B w wr ∧ B + 1 + 1 ≤ wr.heap.size) (fun i _ => 3 - (intOf i).toNat)
  case atStart => exact ⟨0, by omega, rfl, K1.out, K2.out, KB.out, hsz⟩
  case round =>
    obtain ⟨n, hn, rfl, q1, q2, qb, hsz2⟩ := hrel
    by_cases hlt : n < 3
    · have in3 : (n : Int) < 3 := by omega
      have hu := HSM.out n
      have HNX := Lib.hid (show dg 65536 (tn v (n + 1)) = dg 65536 (cc2 (tv (tn v n))) from by
        have h1 := HSM.out (n + 1)
        rw [tn] at h1
        rw [cc2, cv_fix h1, cv_fix h1, tn])
      generalize tn v n = u at hu q1 HNX
      obtain ⟨m, hm⟩ : ∃ m, m = dg 65536 u := ⟨_, rfl⟩
      obtain ⟨t, ht⟩ : ∃ t, t = tl u := ⟨_, rfl⟩
      have HM := Lib.hid (show ∀ i, m i < 65536 from fun i => by rw [hm]; exact lim_lt u i)
      obtain ⟨htop, _⟩ := top_T u hu
      rw [← hm] at htop q1
      obtain ⟨d, hd⟩ : ∃ d, d = m 15 / 32768 := ⟨_, rfl⟩
      have hT15 : t 15 = m 15 % 32768 := by rw [ht, hm]; rfl
      have hT0 : t 0 = m 0 + 19 * d := by rw [ht, hd, htop, hm]; rfl
      have HTI := Lib.hid (show ∀ i, i ≠ 0 → i ≠ 15 → m i = t i from fun i h0 h15 => by
        rw [ht, hm]
        unfold tl
        rw [if_neg h0, if_neg h15])
      have HTV := Lib.hid (show rv 65536 t 16 = tv u by rw [ht]; exact rv_tl u hu)
      have m15 := HM.out 15
      have m0 := HM.out 0
      have HTL := Lib.hid (show ∀ i, i < 16 → t i < 70368744177664 from fun i _ => by
        by_cases e0 : i = 0
        · subst e0
          omega
        · by_cases e15 : i = 15
          · subst e15
            omega
          · rw [← HTI.out i e0 e15]
            have := HM.out i
            omega)
      have c15 := q1.inum 15 (by omega)
      have f15 := q1.free 15
      have h1 := q1.put 15 (.int .i64 (t 15 : Nat))
      rw [icells_set] at h1
      have Q1 := Lib.hid h1
      have Q2 := Lib.hid (q2.far (p := ⟨B, 15, none⟩) (by simp) (.int .i64 (t 15 : Nat)))
      have QB := Lib.hid (qb.setCell (p := ⟨B, 15, none⟩) (by simp) (.int .i64 (t 15 : Nat)))
      have HD := Lib.hid (show ((m 15 : Nat) : Int) / 32768 = (d : Int) by omega)
      have HR := Lib.hid (show ((m 15 : Nat) : Int) % 32768 = ((t 15 : Nat) : Int) by omega)
      have HS0 := Lib.hid (show ((m 0 : Nat) : Int) + 19 * (d : Int) = ((t 0 : Nat) : Int) by omega)
      have hd2 : d < 2 := by omega
      clear h1 q1 q2 qb hm ht htop hd hT15 hT0
      go_upto_region 6 with fail
      rw [HD.out, HR.out]
      refine cut_world (fun X => Whole X B 24 (icells (fun i => if i = 15 then t 15 else m i) 16).toArray ∧ Whole X (B + 1) 24 (icells (fun _ => 0) 16).toArray ∧ Below B w X ∧ B + 1 + 1 ≤ X.heap.size) ⟨Q1.out, Q2.out, QB.out, by simpa using hsz2⟩ ?_
      clear Q1 Q2 QB c15 f15
      rintro X ⟨q1, q2, qb, hsz3⟩
      have c0 := q1.inum 0 (by omega)
      rw [if_neg (by omega)] at c0
      have f0 := q1.free 0
      have h1 := q1.put 0 (.int .i64 (t 0 : Nat))
      rw [icells_set, icells_congr (g := t) (fun i hi => by
        show (if i = 0 then t 0 else if i = 15 then t 15 else m i) = t i
        by_cases e0 : i = 0
        · rw [if_pos e0, e0]
        · rw [if_neg e0]
          by_cases e15 : i = 15
          · rw [if_pos e15, e15]
          · rw [if_neg e15, HTI.out i e0 e15])] at h1
      have Q1 := Lib.hid h1
      have Q2 := Lib.hid (q2.far (p := ⟨B, 0, none⟩) (by simp) (.int .i64 (t 0 : Nat)))
      have QB := Lib.hid (qb.setCell (p := ⟨B, 0, none⟩) (by simp) (.int .i64 (t 0 : Nat)))
      clear h1 q1 q2 qb
      go_upto_region 7 with fail
      rw [HS0.out]
      refine cut_world (fun X => Whole X B 24 (icells t 16).toArray ∧ Whole X (B + 1) 24 (icells (fun _ => 0) 16).toArray ∧ Below B w X ∧ B + 1 + 1 ≤ X.heap.size) ⟨Q1.out, Q2.out, QB.out, by simpa using hsz3⟩ ?_
      clear Q1 Q2 QB c0 f0
      rintro Y ⟨q1, q2, qb, hsz4⟩
      have K1 := Lib.hid q1
      have K2 := Lib.hid q2
      have KB := Lib.hid qb
      clear q1 q2 qb
      go_wp2_with fail
      go_loopw [5, 6] (fun o i wr' => ∃ (k : Nat) (A : Option Addr) (c : Nat), k ≤ 16 ∧ i = .int .i64 k ∧ o = .slice A k c ∧ OwnI wr' (B + 1 + 1) A k c t ∧ Below (B + 1 + 1) Y wr' ∧ B + 1 + 1 ≤ wr'.heap.size) (fun _ i _ => 16 - (intOf i).toNat)
      case atStart => exact ⟨0, none, 0, by omega, rfl, rfl, OwnI.nil _ _ _, Below.refl _ _, hsz4⟩
      case round =>
        obtain ⟨k, A, c, hk, rfl, rfl, ho, hbl, hsz5⟩ := hrel
        have HO := Lib.hid ho
        have HL := Lib.hid hbl
        clear ho hbl
        by_cases hlk : k < 16
        · have ck := (K1.out.below HL.out (by omega)).inum k hlk
          have ik : (k : Int) < 16 := by omega
          go_wp2_with (at_builtin; refine wpList_pushI (W := Y) rfl _ _ rfl rfl rfl HO.out HL.out hsz5 rfl (by omega) ?_; intro A2 c2' w1 hown1 hbel1 hsz1 _; have HO1 := Lib.hid hown1; have HL1 := Lib.hid hbel1; clear hown1 hbel1)
          go_roundw
          case rel => exact ⟨k + 1, A2, c2', by omega, by go_num, rfl, HO1.out, HL1.out, by omega⟩
          case measure => simp [intOf]; omega
        · obtain rfl : k = 16 := by omega
          obtain ⟨g, rfl, hg1, hg2⟩ := HO.out.at (by omega)
          go_wp2_with fail
          refine (carry_any (B + 1 + 1) g c t HTL.out _ HO.out hg1).mono ?_
          rintro e w1 ⟨rfl, hb1⟩
          have R1 := Lib.hid ((K1.out.below HL.out (by omega)).below hb1 (by omega))
          have R2 := Lib.hid ((K2.out.below HL.out (by omega)).below hb1 (by omega))
          have RB := Lib.hid (KB.out.trans ((HL.out.trans hb1).mono (by omega)))
          have hs6 := hb1.size
          clear hb1
          rw [HTV.out, show cv (cv (tv u)) = cc2 (tv u) from rfl, ← HNX.out]
          generalize hL : dg 65536 (tn v (n + 1)) = L
          have HLL := Lib.hid hL
          clear hL
          go_wp2_with (refine wpList_store_row rfl 24 (.tmp 1) (.tmp 36) rfl B (icells L 16).toArray rfl rfl 24 _ R1.out (by rw [icells_size]; kernel_rfl) (by rw [icells_size, icells_size]) (icells_one _ _) ?_)
          go_roundw
          case rel =>
            refine ⟨n + 1, by omega, by go_num, ?_, Whole.farRow R2.out (by omega) _, below_setRow RB.out (Nat.le_refl _) _, by simp [World.setRow]; omega⟩
            rw [HLL.out]
            exact setRow_heap _ _ _ _ _ _ R1.out
          case measure => simp [intOf]; omega
    · obtain rfl : n = 3 := by omega
      have hmod := HMOD.out 3
      have hlt3 := HFIN.out
      generalize tn v 3 = u at q1 hmod hlt3
      rw [show ((3 : Nat) : Int) = 3 from rfl]
      have hl1 := q1.lt
      by_cases hp : u < P
      · have hfin : u = v % P := by rw [← hmod, Nat.mod_eq_of_lt hp]
        have HLS := Lib.hid (less_any u hlt3 true (by simp [hp]))
        have HF := Lib.hid hfin
        rw [nv] at HLS
        generalize hL : dg 65536 u = L at q1 HLS
        have HLL := Lib.hid hL
        have Q1 := Lib.hid q1
        have Q2 := Lib.hid q2
        have QB := Lib.hid qb
        clear hmod hlt3 hfin hL q1 q2 qb
        go_wp2_with (refine wpList_load_row rfl 24 (.tmp 1) rfl B rfl 24 (icells L 16).toArray (0, 0) _ Q1.out rfl rfl (by rw [icells_size]; kernel_rfl) ?_)
        refine (HLS.out _).mono ?_
        rintro e w1 ⟨rfl, hb⟩
        have R1 := Lib.hid (Q1.out.below hb hl1)
        have R2 := Lib.hid (Q2.out.below hb Q2.out.lt)
        have RB := Lib.hid (QB.out.trans (hb.mono (by omega)))
        clear hb
        go_wp2_with (first | (refine wpList_load_row rfl 24 (.tmp 1) rfl B rfl 24 (icells L 16).toArray (0, 0) _ R1.out rfl rfl (by rw [icells_size]; kernel_rfl) ?_) | (refine wpList_store_row rfl 24 (.tmp 2) (.tmp 39) rfl (B + 1) (icells L 16).toArray rfl rfl 24 _ R2.out (by rw [icells_size]; kernel_rfl) (by rw [icells_size, icells_size]) (icells_one _ _) ?_))
        have hret : Whole (w1.setRow (B + 1) (icells L 16).toArray) (B + 1) 24 (icells L 16).toArray := setRow_heap _ _ _ _ _ _ R2.out
        refine bodyPost_ret (results_cell_row rfl _ _ (B + 1) 24 _ (0, 0) _ rfl hret rfl rfl (by rw [icells_size]; kernel_rfl)) rfl ?_
        exact ⟨by rw [← HF.out, nv, HLL.out], by rw [hB]; exact below_setRow RB.out (by omega) _⟩
      · have hPT := P_T
        have hfin : u - P = v % P := by rw [← hmod, Nat.mod_eq_sub_mod (by omega), Nat.mod_eq_of_lt (by have := P_big; omega)]
        have HLS := Lib.hid (less_any u hlt3 false (by simp [hp]))
        rw [nv] at HLS
        have hm0 := above_P u hlt3 (by omega)
        generalize hL : dg 65536 u = L at q1 HLS hm0
        obtain ⟨x, hx⟩ : ∃ x, x = u - P := ⟨_, rfl⟩
        have l0a : 65517 ≤ L 0 := by omega
        have l0b : L 0 < 65536 := by omega
        have HX0 := Lib.hid (show ((L 0 : Nat) : Int) - 65517 = (x : Nat) by omega)
        have HXL := Lib.hid (show icells (fun i => if i = 0 then x else 0) 16 = icells (dg 65536 x) 16 from icells_congr fun i _ => (dg_one x (by omega) i).symm)
        have HF := Lib.hid (show x = v % P by rw [hx, hfin])
        have Q1 := Lib.hid q1
        have Q2 := Lib.hid q2
        have QB := Lib.hid qb
        clear hmod hlt3 hfin hL q1 q2 qb hPT hm0 hx
        go_wp2_with (refine wpList_load_row rfl 24 (.tmp 1) rfl B rfl 24 (icells L 16).toArray (0, 0) _ Q1.out rfl rfl (by rw [icells_size]; kernel_rfl) ?_)
        refine (HLS.out _).mono ?_
        rintro e w1 ⟨rfl, hb⟩
        have R1 := Lib.hid (Q1.out.below hb hl1)
        have R2 := Lib.hid (Q2.out.below hb Q2.out.lt)
        have RB := Lib.hid (QB.out.trans (hb.mono (by omega)))
        clear hb
        go_upto_region 16 with fail
        refine cut_world (fun X => Whole X B 24 (icells L 16).toArray ∧ Whole X (B + 1) 24 (icells (fun _ => 0) 16).toArray ∧ Whole X w1.heap.size 24 (icells (fun _ => 0) 16).toArray ∧ Below B w X ∧ B + 1 < w1.heap.size) ⟨R1.out.alloc _, R2.out.alloc _, whole_new _ _ rfl, RB.out.alloc (by have := R1.out.lt; omega) _, R2.out.lt⟩ ?_
        rintro X ⟨k1, k2, k3, kb, hG⟩
        generalize w1.heap.size = G at k3 hG ⊢
        have c0 := k1.inum 0 (by omega)
        have d0 := k3.inum 0 (by omega)
        have f0 := k3.free 0
        have h := k3.put 0 (.int .i64 (x : Nat))
        rw [icells_set, HXL.out] at h
        have K2 := Lib.hid (k2.far (p := ⟨G, 0, none⟩) (by show B + 1 ≠ G; omega) (.int .i64 (x : Nat)))
        have K3 := Lib.hid h
        have KB' := Lib.hid (kb.setCell (p := ⟨G, 0, none⟩) (by show B ≤ G; omega) (.int .i64 (x : Nat)))
        clear k1 k2 k3 kb h R1 R2 RB
        go_upto_region 17 with fail
        rw [HX0.out]
        refine cut_world (fun X => Whole X (B + 1) 24 (icells (fun _ => 0) 16).toArray ∧ Whole X G 24 (icells (dg 65536 x) 16).toArray ∧ Below B w X) ⟨K2.out, K3.out, KB'.out⟩ ?_
        clear K2 K3 KB' c0 d0 f0
        rintro Y ⟨k2, k3, kb⟩
        have R2 := Lib.hid k2
        have R3 := Lib.hid k3
        have RB := Lib.hid kb
        clear k2 k3 kb
        go_wp2_with (first | (refine wpList_load_row rfl 24 (.tmp 7) rfl G rfl 24 (icells (dg 65536 x) 16).toArray (0, 0) _ R3.out rfl rfl (by rw [icells_size]; kernel_rfl) ?_) | (refine wpList_store_row rfl 24 (.tmp 2) (.tmp 44) rfl (B + 1) (icells (dg 65536 x) 16).toArray rfl rfl 24 _ R2.out (by rw [icells_size]; kernel_rfl) (by rw [icells_size, icells_size]) (icells_one _ _) ?_))
        have hret : Whole (Y.setRow (B + 1) (icells (dg 65536 x) 16).toArray) (B + 1) 24 (icells (dg 65536 x) 16).toArray := setRow_heap _ _ _ _ _ _ R2.out
        refine bodyPost_ret (results_cell_row rfl _ _ (B + 1) 24 _ (0, 0) _ rfl hret rfl rfl (by rw [icells_size]; kernel_rfl)) rfl ?_
        exact ⟨by rw [← HF.out, nv], by rw [hB]; exact below_setRow RB.out (by omega) _⟩

end RefF
end Go.Proofs.Ytnopjjkijedpeaa

namespace Go.Proofs.Ytnopjjkijedpeaa
namespace RefF
open Go.ChangeShapes Go.WideShapes Go.ChangeAt Go.RowKit
open Num Mem Words Radix FieldN Chacha Quiet

theorem info_u8 : (Try.prog.info? 5).map (fun i => (i.zero, i.size, i.bytes)) = some (some (.int .u8 0), 1, 1) := by kernel_rfl
theorem Own.drew {w : World} {B : Nat} {t : TypeId} {A : Option Addr} {n c : Nat} {f : Nat → Nat} (h : Own w B t A n c f) : Own w.drew B t A n c f := h
def pairCells (u k : Nat) : List Value := [.int .u8 (byteAt u (2 * k) : Nat), .int .u8 (byteAt u (2 * k + 1) : Nat)]
theorem pair_at (u k : Nat) (w : World) : ∀ j x, (pairCells u k)[j]? = some x → (w.alloc (.cells #[.int .u8 (byteAt u (2 * k) : Nat), .int .u8 (byteAt u (2 * k + 1) : Nat)] 5)).cell? ((⟨w.heap.size, 0, none⟩ : Addr).add j) = some x := by
  intro j x hj
  have h := Whole.new w 5 #[.int .u8 (byteAt u (2 * k) : Nat), .int .u8 (byteAt u (2 * k + 1) : Nat)]
  match j, hj with
  | 0, hj =>
    simp [pairCells] at hj
    subst hj
    exact h.cell 0
  | 1, hj =>
    simp [pairCells] at hj
    subst hj
    exact h.cell 1
theorem pair_one (u k : Nat) : ∀ x ∈ pairCells u k, x.oneCell' = true := by
  intro x hx
  simp [pairCells] at hx
  rcases hx with rfl | rfl <;> rfl
theorem pair_own {w : World} {B u k c : Nat} {A : Option Addr} (h : w.ownsRow B 5 1 (.slice A (2 * k + 2) c) (2 * k + 2) (byteCells (byteAt u) (2 * k) ++ pairCells u k)) : Own w B 5 A (2 * (k + 1)) c (byteAt u) := by
  unfold Own
  rw [show 2 * (k + 1) = 2 * k + 1 + 1 by omega, byteCells_snoc, byteCells_snoc, List.append_assoc]
  exact h

/-- two bytes out of a limb -/
theorem limb_bytes (u k : Nat) : dg 65536 u k % 256 = byteAt u (2 * k) ∧ dg 65536 u k / 256 = byteAt u (2 * k + 1) := by
  unfold dg byteAt
  rw [show (65536 : Nat) = 2 ^ 16 from rfl, ← Nat.pow_mul, show 8 * (2 * k) = 16 * k by omega, show 8 * (2 * k + 1) = 16 * k + 8 by omega, Nat.pow_add, ← Nat.div_div_eq_div_mul]
  generalize u / 2 ^ (16 * k) = q
  omega

set_option maxRecDepth 100000 in
theorem bytes_any (v : Nat) (hv : v < M256) (w : World) :
    Calls Try.prog 14 #[nv v] w fun e w' => ∃ A c, e = .returned (.slice A 32 c) ∧ Own w' w.heap.size 5 A 32 c (byteAt (v % P)) ∧ Below w.heap.size w w' := by
  have HTO := Lib.hid (told_any v hv)
  obtain ⟨u, hu⟩ : ∃ u, u = v % P := ⟨_, rfl⟩
  rw [← hu] at HTO ⊢
  obtain ⟨m, hm⟩ : ∃ m, m = dg 65536 v := ⟨_, rfl⟩
  obtain ⟨L, hL⟩ : ∃ L, L = dg 65536 u := ⟨_, rfl⟩
  have HL := Lib.hid (show ∀ i, L i < 65536 from fun i => by rw [hL]; exact lim_lt u i)
  have HLB := Lib.hid (show ∀ k, L k % 256 = byteAt u (2 * k) ∧ L k / 256 = byteAt u (2 * k + 1) from fun k => by rw [hL]; exact limb_bytes u k)
  rw [nv, nv, ← hm, ← hL] at HTO
  rw [nv, ← hm, icells_lit16 m]
  clear hm hL hu hv
  go_enter Try.func14, Try.ntmps14
  go_upto_region 1 with fail
  rw [← icells_lit16 m]
  refine cut_world (fun W => Whole W w.heap.size 24 (icells m 16).toArray ∧ Below w.heap.size w W) ⟨whole_new _ _ rfl, below_alloc (Below.refl _ _) _⟩ ?_
  rintro W ⟨k1, kb⟩
  have K1 := Lib.hid k1
  have KB := Lib.hid kb
  clear k1 kb
  generalize hB : w.heap.size = B at K1 KB ⊢
  go_wp2_with (refine wpList_load_row rfl 24 (.tmp 1) rfl B rfl 24 (icells m 16).toArray (0, 0) _ K1.out rfl rfl (by rw [icells_size]; kernel_rfl) ?_)
  refine (HTO.out _).mono ?_
  rintro e w1 ⟨rfl, hb⟩
  have R1 := Lib.hid (K1.out.below hb K1.out.lt)
  have RB := Lib.hid (KB.out.trans (hb.mono (by have := K1.out.lt; omega)))
  clear hb K1 KB
  go_upto_region 2 with (refine wpList_store_row rfl 24 (.tmp 1) (.tmp 6) rfl B (icells L 16).toArray rfl rfl 24 _ R1.out (by rw [icells_size]; kernel_rfl) (by rw [icells_size, icells_size]) (icells_one _ _) ?_)
  refine cut_world (fun X => Whole X B 24 (icells L 16).toArray ∧ Below B w X) ⟨setRow_heap _ _ _ _ _ _ R1.out, below_setRow RB.out (Nat.le_refl _) _⟩ ?_
  clear R1 RB
  rintro Y ⟨k1, kb⟩
  have hlt1 := k1.lt
  have K1 := Lib.hid k1
  have KB := Lib.hid kb
  clear k1 kb
  go_wp2_with fail
  go_loopw [3, 4] (fun o i wr => ∃ (k : Nat) (A : Option Addr) (c : Nat), k ≤ 16 ∧ i = .int .i64 k ∧ o = .slice A (2 * k : Nat) c ∧ Own wr (B + 1) 5 A (2 * k) c (byteAt u) ∧ Below (B + 1) Y wr ∧ B + 1 ≤ wr.heap.size) (fun _ i _ => 16 - (intOf i).toNat)
  case atStart => exact ⟨0, none, 0, by omega, rfl, rfl, Own.nil _ _ _ _, Below.refl _ _, hlt1⟩
  case round =>
    obtain ⟨k, A, c, hk, rfl, rfl, ho, hbl, hsz⟩ := hrel
    have HO := Lib.hid ho
    have HLL := Lib.hid hbl
    clear ho hbl
    by_cases hlt : k < 16
    · have i1 : (k : Int) < 16 := by omega
      have l1 := HL.out k
      have HB1 := Lib.hid (show IntKind.u8.wrap (((L k : Nat) : Int).tmod 256) = ((byteAt u (2 * k) : Nat) : Int) by
        rw [← (HLB.out k).1, IntKind.wrap_u8, Int.tmod_eq_emod_of_nonneg (by omega)]
        omega)
      have HB2 := Lib.hid (show IntKind.u8.wrap (IntKind.i64.wrap (((L k : Nat) : Int) / 256)) = ((byteAt u (2 * k + 1) : Nat) : Int) by
        rw [← (HLB.out k).2, IntKind.wrap_i64, IntKind.wrap_u8]
        omega)
      go_wp2_with fail
      refine region_drew (fun X => Below (B + 1) Y X ∧ B + 1 ≤ X.heap.size) rfl ⟨below_drewN HLL.out 1, hsz⟩ ?_
      intro hS
      refine take 0 _ rfl (by kernel_rfl) (by kernel_rfl) (by kernel_rfl) (fun _ _ _ h => h) (by rfl) hS (by intro w _; go_simp; with_reducible rfl) ?_
      try simp only [Act.put, List.setIfInBounds_toArray, List.set_cons_zero, List.set_cons_succ]
      refine take 1 _ rfl (by kernel_rfl) (by kernel_rfl) (by kernel_rfl) (fun _ _ _ h => h) (by rfl) hS (by intro w _; go_simp; with_reducible rfl) ?_
      try simp only [Act.put, List.setIfInBounds_toArray, List.set_cons_zero, List.set_cons_succ]
      refine take 2 _ rfl (by kernel_rfl) (by kernel_rfl) (by kernel_rfl) (fun _ _ _ h => h) (by rfl) hS (by intro w _; go_simp; with_reducible rfl) ?_
      try simp only [Act.put, List.setIfInBounds_toArray, List.set_cons_zero, List.set_cons_succ]
      refine take 3 _ rfl (by kernel_rfl) (by kernel_rfl) (by kernel_rfl) (fun _ _ _ h => h) (by rfl) hS (by intro w hw; have hcl := (K1.out.below hw.1 (by omega)).inum k hlt; go_simp; with_reducible rfl) ?_
      try simp only [Act.put, List.setIfInBounds_toArray, List.set_cons_zero, List.set_cons_succ]
      refine take 4 _ rfl (by kernel_rfl) (by kernel_rfl) (by kernel_rfl) (fun _ _ _ h => h) (by rfl) hS (by intro w _; go_simp; with_reducible rfl) ?_
      try simp only [Act.put, List.setIfInBounds_toArray, List.set_cons_zero, List.set_cons_succ]
      refine take 5 _ rfl (by kernel_rfl) (by kernel_rfl) (by kernel_rfl) (fun _ _ _ h => h) (by rfl) hS (by intro w _; go_simp; with_reducible rfl) ?_
      try simp only [Act.put, List.setIfInBounds_toArray, List.set_cons_zero, List.set_cons_succ]
      rw [HB1.out]
      refine take 6 _ rfl (by kernel_rfl) (by kernel_rfl) (by kernel_rfl) (fun _ _ _ h => h) (by rfl) hS (by intro w _; go_simp; with_reducible rfl) ?_
      try simp only [Act.put, List.setIfInBounds_toArray, List.set_cons_zero, List.set_cons_succ]
      refine take 7 _ rfl (by kernel_rfl) (by kernel_rfl) (by kernel_rfl) (fun _ _ _ h => h) (by rfl) hS (by intro w _; go_simp; with_reducible rfl) ?_
      try simp only [Act.put, List.setIfInBounds_toArray, List.set_cons_zero, List.set_cons_succ]
      refine take 8 _ rfl (by kernel_rfl) (by kernel_rfl) (by kernel_rfl) (fun _ _ _ h => h) (by rfl) hS (by intro w hw; have hcl := (K1.out.below hw.1 (by omega)).inum k hlt; go_simp; with_reducible rfl) ?_
      try simp only [Act.put, List.setIfInBounds_toArray, List.set_cons_zero, List.set_cons_succ]
      refine take 9 _ rfl (by kernel_rfl) (by kernel_rfl) (by kernel_rfl) (fun _ _ _ h => h) (by rfl) hS (by intro w _; go_simp; with_reducible rfl) ?_
      try simp only [Act.put, List.setIfInBounds_toArray, List.set_cons_zero, List.set_cons_succ]
      refine take 10 _ rfl (by kernel_rfl) (by kernel_rfl) (by kernel_rfl) (fun _ _ _ h => h) (by rfl) hS (by intro w _; go_simp; with_reducible rfl) ?_
      try simp only [Act.put, List.setIfInBounds_toArray, List.set_cons_zero, List.set_cons_succ]
      rw [HB2.out]
      refine alone 11 rfl (by kernel_rfl) (by rfl) ?_
      intro K hK
      go_simp
      have hS1 := ops_alloc (o := .cells #[.int .u8 (byteAt u (2 * k) : Nat), .int .u8 (byteAt u (2 * k + 1) : Nat)] 5) hS
      refine hK.out _ _ hS1 ?_
      clear hK K
      try simp only [Act.put, List.setIfInBounds_toArray, List.set_cons_zero, List.set_cons_succ]
      refine alone 12 rfl (by kernel_rfl) (by rfl) ?_
      intro K hK
      refine wp_cat (W := Y) (B := B + 1) (xs := byteCells (byteAt u) (2 * k)) _ _ 26 5 (.int .u8 0) 1 Try.underlying26 info_u8 rfl rfl rfl (World.ownsRow.alloc HO.out.drew _) hS1.1 hS1.2 ⟨wr.heap.size, 0, none⟩ 2 2 rfl (pairCells u k) (by rfl) (pair_at u k wr.drew) (pair_one u k) (by omega) (by omega) ?_
      intro A2 c2' w1 hown1 hbel1 hsz1 _ _
      have HO1 := Lib.hid (pair_own hown1)
      have hS2 : Below (B + 1) Y w1 ∧ B + 1 ≤ w1.heap.size := ⟨hbel1, hsz1⟩
      clear hown1 hbel1 hsz1 hS hS1
      refine hK.out _ _ hS2 ?_
      clear hK K
      have hS := hS2
      clear hS2
      try simp only [Act.put, List.setIfInBounds_toArray, List.set_cons_zero, List.set_cons_succ]
      refine take 13 _ rfl (by kernel_rfl) (by kernel_rfl) (by kernel_rfl) (fun _ _ _ h => h) (by rfl) hS (by intro w _; go_simp; with_reducible rfl) ?_
      try simp only [Act.put, List.setIfInBounds_toArray, List.set_cons_zero, List.set_cons_succ]
      refine region_end (by kernel_rfl) ?_
      have HS1 := Lib.hid hS
      clear hS
      go_wp2_with fail
      go_roundw
      case rel => exact ⟨k + 1, A2, c2', by omega, by go_num, rfl, HO1.out, HS1.out.1, HS1.out.2⟩
      case measure => simp [intOf]; omega
    · obtain rfl : k = 16 := by omega
      have hown : Own wr B 5 A 32 c (byteAt u) := owns_more HO.out (by omega)
      have HOW := Lib.hid hown
      have HBE := Lib.hid (KB.out.trans (HLL.out.mono (by omega)))
      clear hown
      go_wp2_with fail
      go_ret
      exact ⟨A, c, rfl, by rw [hB]; exact HOW.out, by rw [hB]; exact HBE.out⟩

end RefF
end Go.Proofs.Ytnopjjkijedpeaa

namespace Go.Proofs.Ytnopjjkijedpeaa
namespace RefF
open Go.ChangeShapes Go.WideShapes Go.ChangeAt Go.RowKit
open Num Mem Words Radix FieldN Chacha Quiet

theorem T_M15 : T = 65536 ^ 15 * 32768 := by unfold T; decide

/-- a limb out of two bytes -/
theorem two_bytes (f : Nat → Nat) (hf : ∀ i, f i < 256) (i : Nat) (hi : i < 16) : f (2 * i) + 256 * f (2 * i + 1) = dg 65536 (le f 0 32) i := by
  have h := Field.le_part f hf (2 * i) 2 32 (by omega)
  have e : le f (2 * i) 2 = f (2 * i) + 256 * f (2 * i + 1) := by
    simp [le]
    omega
  rw [e] at h
  rw [h, dg, show (65536 : Nat) = 2 ^ 16 from rfl, ← Nat.pow_mul, show 8 * (2 * i) = 16 * i by omega]

/-- what is taken has the same limbs, but for the digit that does not count -/
theorem take_limb (v i : Nat) (hi : i < 16) : (if i = 15 then dg 65536 v 15 % 32768 else dg 65536 v i) = dg 65536 (v % T) i := by
  have hT := T_M15
  by_cases e : i = 15
  · subst e
    rw [if_pos rfl, dg, dg, hT, Nat.mod_mul_right_div_self]
    omega
  · rw [if_neg e]
    have h := Nat.div_add_mod v T
    rw [Nat.add_comm] at h
    conv => lhs; rw [← h, hT, show 65536 ^ 15 * 32768 * (v / (65536 ^ 15 * 32768)) = 32768 * (v / (65536 ^ 15 * 32768)) * 65536 ^ 15 by ac_rfl]
    rw [dg_low (by omega) _ _ i 15 (by omega), ← hT]

theorem take_sum (a b : Nat) (ha : a < 256) (hb : b < 256) : IntKind.i64.wrap (IntKind.i64.wrap (a : Int) + IntKind.i64.wrap (256 * IntKind.i64.wrap (b : Int))) = ((a + 256 * b : Nat) : Int) := by
  have e1 : IntKind.i64.wrap (a : Int) = (a : Int) := by rw [IntKind.wrap_i64]; omega
  have e2 : IntKind.i64.wrap (b : Int) = (b : Int) := by rw [IntKind.wrap_i64]; omega
  have e3 : IntKind.i64.wrap (256 * (b : Int)) = 256 * (b : Int) := by rw [IntKind.wrap_i64]; omega
  rw [e1, e2, e3, IntKind.wrap_i64]
  omega

set_option maxRecDepth 100000 in
theorem take_any (A : Option Addr) (c : Nat) (f : Nat → Nat) (hf : ∀ i, f i < 256) (w : World) (hr : Rd w A 32 f) :
    Calls Try.prog 10 #[.slice A 32 c] w fun e w' => e = .returned (nv (le f 0 32 % T)) ∧ Below w.heap.size w w' := by
  rcases hr with h0 | ⟨b, off, rfl, hblk, hcell⟩
  · omega
  obtain ⟨G, hG⟩ : ∃ G, G = dg 65536 (le f 0 32) := ⟨_, rfl⟩
  obtain ⟨R, hR⟩ : ∃ R, R = dg 65536 (le f 0 32 % T) := ⟨_, rfl⟩
  have HG := Lib.hid (show ∀ i, i < 16 → f (2 * i) + 256 * f (2 * i + 1) = G i from fun i hi => by rw [hG]; exact two_bytes f hf i hi)
  have HR := Lib.hid (show ∀ i, i < 16 → (if i = 15 then G 15 % 32768 else G i) = R i from fun i hi => by rw [hG, hR]; exact take_limb (le f 0 32) i hi)
  have HGL := Lib.hid (show ∀ i, G i < 65536 from fun i => by rw [hG]; exact lim_lt _ i)
  have HC := Lib.hid hcell
  have HF := Lib.hid hf
  have HRR := Lib.hid hR
  clear hG hR hf hcell
  go_enter Try.func10, Try.ntmps10
  go_upto_region 2 with fail
  refine cut_world (fun W => Whole W w.heap.size 24 (icells (fun _ => 0) 16).toArray ∧ Whole W (w.heap.size + 1) 24 (icells (fun _ => 0) 16).toArray ∧ Below w.heap.size w W) ⟨?_, ?_, ?_⟩ ?_
  · rw [icells_lit16 fun _ => 0]
    exact (whole_new _ _ rfl).alloc _
  · rw [icells_lit16 fun _ => 0]
    exact whole_new _ _ (by simp)
  · exact below_alloc (below_alloc (Below.refl _ _) _) _
  rintro W ⟨k1, k2, kb⟩
  have K1 := Lib.hid k1
  have K2 := Lib.hid k2
  have KB := Lib.hid kb
  clear k1 k2 kb
  generalize hB : w.heap.size = B at K1 K2 KB hblk ⊢
  go_wp2_with fail
  go_loopw [4] (fun i wr => ∃ k : Nat, k ≤ 16 ∧ i = .int .i64 k ∧ Whole wr B 24 (icells (fun _ => 0) 16).toArray ∧ Whole wr (B + 1) 24 (icells (fun i => if i < k then G i else 0) 16).toArray ∧ Below B w wr) (fun i _ => 16 - (intOf i).toNat)
  case atStart => exact ⟨0, by omega, rfl, K1.out, K2.out, KB.out⟩
  case round =>
    obtain ⟨k, hk, rfl, q1, q2, qb⟩ := hrel
    by_cases hlt : k < 16
    · have ik : (k : Int) < 16 := by omega
      obtain ⟨m, hm⟩ : ∃ m, m = 2 * k := ⟨_, rfl⟩
      obtain ⟨m1, hm1⟩ : ∃ m1, m1 = 2 * k + 1 := ⟨_, rfl⟩
      have c1 := (qb.cell (p := ⟨b, off + m, none⟩) hblk).trans (HC.out m (by omega))
      have c2 := (qb.cell (p := ⟨b, off + m1, none⟩) hblk).trans (HC.out m1 (by omega))
      have f2 := q2.free k
      have c3 := q2.inum k hlt
      have x1 := HF.out m
      have x2 := HF.out m1
      have im : (m : Int) < 32 := by omega
      have im1 : (m1 : Int) < 32 := by omega
      have HW1 := Lib.hid (show IntKind.i64.wrap (2 * (k : Int)) = (m : Int) by rw [IntKind.wrap_i64]; omega)
      have HW2 := Lib.hid (show IntKind.i64.wrap ((m : Int) + 1) = (m1 : Int) by rw [IntKind.wrap_i64]; omega)
      have hgk : G k = f m + 256 * f m1 := by rw [hm, hm1]; exact (HG.out k hlt).symm
      have HS := Lib.hid (show IntKind.i64.wrap (IntKind.i64.wrap (f m : Int) + IntKind.i64.wrap (256 * IntKind.i64.wrap (f m1 : Int))) = (G k : Int) by
        rw [hgk]
        exact take_sum _ _ x1 x2)
      have HN := Lib.hid (icells_next (a := fun _ => 0) (b := G) (n := 16) (k := k) (G k) rfl)
      have Q1 := Lib.hid q1
      have Q2 := Lib.hid q2
      have QB := Lib.hid qb
      clear q1 q2 qb hm hm1 hgk
      go_wp2_with fail
      refine wp_region_still_tail 16 (by kernel_rfl) (by kernel_rfl) ?_
      simp only [List.take_succ_cons, List.take_zero, List.drop_succ_cons, List.drop_zero]
      repeat still_step
      rw [HW1.out]
      repeat still_step
      rw [HW1.out, HW2.out]
      repeat still_step
      refine wpStill_nil ?_
      change wpList _ _ _ _ _ wr.drew
      rw [HS.out]
      go_wp2_with fail
      go_roundw
      case rel =>
        refine ⟨k + 1, by omega, by go_num, Q1.out.drew.far (by simp) _, ?_, (below_drewN QB.out 1).setCell (by simp) _⟩
        have h := Q2.out.drew.put k (.int .i64 (G k : Nat))
        rw [icells_set, HN.out] at h
        exact h
      case measure => simp [intOf]; omega
    · obtain rfl : k = 16 := by omega
      rw [icells_congr (g := G) (fun i hi => if_pos hi)] at q2
      rw [show ((16 : Nat) : Int) = 16 from rfl]
      have c15 := q2.inum 15 (by omega)
      have f15 := q2.free 15
      have g15 := HGL.out 15
      have HS := Lib.hid (show ((G 15 : Nat) : Int) % 32768 = ((G 15 % 32768 : Nat) : Int) by omega)
      have h := q2.put 15 (.int .i64 (G 15 % 32768 : Nat))
      rw [icells_set, icells_congr (g := R) (fun i hi => HR.out i hi)] at h
      have Q1 := Lib.hid (q1.far (p := ⟨B + 1, 15, none⟩) (by simp) (.int .i64 (G 15 % 32768 : Nat)))
      have Q2 := Lib.hid h
      have QB := Lib.hid (qb.setCell (p := ⟨B + 1, 15, none⟩) (by simp) (.int .i64 (G 15 % 32768 : Nat)))
      clear q1 q2 qb h
      go_upto_region 7 with fail
      rw [HS.out]
      refine cut_world (fun X => Whole X B 24 (icells (fun _ => 0) 16).toArray ∧ Whole X (B + 1) 24 (icells R 16).toArray ∧ Below B w X) ⟨Q1.out, Q2.out, QB.out⟩ ?_
      clear Q1 Q2 QB c15 f15
      rintro X ⟨k1, k2, kb⟩
      have R1 := Lib.hid k1
      have R2 := Lib.hid k2
      have RB := Lib.hid kb
      clear k1 k2 kb
      go_wp2_with (first | (refine wpList_load_row rfl 24 (.tmp 3) rfl (B + 1) rfl 24 (icells R 16).toArray (0, 0) _ R2.out rfl rfl (by rw [icells_size]; kernel_rfl) ?_) | (refine wpList_store_row rfl 24 (.tmp 2) (.tmp 30) rfl B (icells R 16).toArray rfl rfl 24 _ R1.out (by rw [icells_size]; kernel_rfl) (by rw [icells_size, icells_size]) (icells_one _ _) ?_))
      have hret : Whole (X.setRow B (icells R 16).toArray) B 24 (icells R 16).toArray := setRow_heap _ _ _ _ _ _ R1.out
      refine bodyPost_ret (results_cell_row rfl _ _ B 24 _ (0, 0) _ rfl hret rfl rfl (by rw [icells_size]; kernel_rfl)) rfl ?_
      exact ⟨by rw [nv, HRR.out], by rw [hB]; exact below_setRow RB.out (by omega) _⟩

theorem small_limb (n i : Nat) (hn : n < 4294967296) : (if i = 1 then n / 65536 else if i = 0 then n % 65536 else 0) = dg 65536 n i := by
  unfold dg
  rcases i with _ | _ | i
  · rw [if_neg (by omega), if_pos rfl, Nat.pow_zero, Nat.div_one]
  · rw [if_pos rfl, Nat.zero_add, Nat.pow_one, Nat.mod_eq_of_lt (by omega)]
  · rw [if_neg (by omega), if_neg (by omega), show i + 1 + 1 = 2 + i by omega, Nat.pow_add, ← Nat.div_div_eq_div_mul, Nat.div_eq_of_lt (show n < 65536 ^ 2 by omega), Nat.zero_div, Nat.zero_mod]

set_option maxRecDepth 100000 in
theorem small_any (n : Nat) (hn : n < 4294967296) (w : World) :
    Calls Try.prog 25 #[.int .u32 n] w fun e w' => e = .returned (nv n) ∧ Below w.heap.size w w' := by
  have HL := Lib.hid (fun i => small_limb n i hn)
  go_enter Try.func25, Try.ntmps25
  go_upto_region 2 with fail
  refine cut_world (fun W => Whole W w.heap.size 24 (icells (fun _ => 0) 16).toArray ∧ Whole W (w.heap.size + 1) 24 (icells (fun _ => 0) 16).toArray ∧ Below w.heap.size w W) ⟨?_, ?_, ?_⟩ ?_
  · rw [icells_lit16 fun _ => 0]
    exact (whole_new _ _ rfl).alloc _
  · rw [icells_lit16 fun _ => 0]
    exact whole_new _ _ (by simp)
  · exact below_alloc (below_alloc (Below.refl _ _) _) _
  rintro W ⟨k1, k2, kb⟩
  have K1 := Lib.hid k1
  have K2 := Lib.hid k2
  have KB := Lib.hid kb
  have c0 := k2.inum 0 (by omega)
  have f0 := k2.free 0
  have c1 := k2.inum 1 (by omega)
  have f1 := k2.free 1
  have HA := Lib.hid (show (n : Int) % 65536 = ((n % 65536 : Nat) : Int) by omega)
  have HB := Lib.hid (show (n : Int) / 65536 = ((n / 65536 : Nat) : Int) by omega)
  have h := (k2.put 0 (.int .i64 (n % 65536 : Nat))).put 1 (.int .i64 (n / 65536 : Nat))
  rw [icells_set, icells_set, icells_congr (g := dg 65536 n) (fun i hi => HL.out i)] at h
  have HH := Lib.hid h
  clear k1 k2 kb h
  generalize hB : w.heap.size = B at K1 K2 KB HH c0 f0 c1 f1 ⊢
  go_upto_region 4 with fail
  rw [HA.out, HB.out]
  refine cut_world (fun X => Whole X B 24 (icells (fun _ => 0) 16).toArray ∧ Whole X (B + 1) 24 (icells (dg 65536 n) 16).toArray ∧ Below B w X) ⟨(K1.out.far (by simp) _).far (by simp) _, HH.out, (KB.out.setCell (by simp) _).setCell (by simp) _⟩ ?_
  clear K1 K2 KB HH c0 f0 c1 f1
  rintro X ⟨k1, k2, kb⟩
  have R1 := Lib.hid k1
  have R2 := Lib.hid k2
  have RB := Lib.hid kb
  clear k1 k2 kb
  go_wp2_with (first | (refine wpList_load_row rfl 24 (.tmp 3) rfl (B + 1) rfl 24 (icells (dg 65536 n) 16).toArray (0, 0) _ R2.out rfl rfl (by rw [icells_size]; kernel_rfl) ?_) | (refine wpList_store_row rfl 24 (.tmp 2) (.tmp 12) rfl B (icells (dg 65536 n) 16).toArray rfl rfl 24 _ R1.out (by rw [icells_size]; kernel_rfl) (by rw [icells_size, icells_size]) (icells_one _ _) ?_))
  have hret : Whole (X.setRow B (icells (dg 65536 n) 16).toArray) B 24 (icells (dg 65536 n) 16).toArray := setRow_heap _ _ _ _ _ _ R1.out
  refine bodyPost_ret (results_cell_row rfl _ _ B 24 _ (0, 0) _ rfl hret rfl rfl (by rw [icells_size]; kernel_rfl)) rfl ?_
  exact ⟨by rw [nv], by rw [hB]; exact below_setRow RB.out (by omega) _⟩

end RefF
end Go.Proofs.Ytnopjjkijedpeaa

namespace Go.Proofs.Ytnopjjkijedpeaa
namespace RefF
open Go.ChangeShapes Go.WideShapes Go.ChangeAt Go.RowKit
open Num Mem Words Radix FieldN Chacha Quiet
open Go.Proofs.Ytnopjjkijedpeaa.Field (pw pw_lt pw_zero pw_even pw_odd pw_all le_bit)

theorem and_small : ∀ x, x < 256 → ∀ j, j < 8 → (x &&& (128 / 2 ^ j) = 0 ↔ x / 2 ^ (7 - j) % 2 = 0) := by decide +kernel
theorem and_bit (x j : Nat) (hx : x < 256) (hj : j < 8) : (bits .and .u8 (x : Int) ((128 / 2 ^ j : Nat) : Int) != 0) = decide (x / 2 ^ (7 - j) % 2 = 1) := by
  have hp : 128 / 2 ^ j < 256 := Nat.lt_of_le_of_lt (Nat.div_le_self _ _) (by omega)
  rw [u8_and_nat x (128 / 2 ^ j) hx hp]
  have h := and_small x hx j hj
  generalize x &&& (128 / 2 ^ j) = z at h
  by_cases hz : z = 0
  · have := h.1 hz
    rw [hz, decide_eq_false (by omega)]
    rfl
  · have h2 : ¬ x / 2 ^ (7 - j) % 2 = 0 := fun e => hz (h.2 e)
    rw [decide_eq_true (by omega), bne_iff_ne]
    omega

set_option maxRecDepth 100000 in
theorem power_any (a : Nat) (ha : a < M256) (A : Option Addr) (c : Nat) (f : Nat → Nat) (hf : ∀ i, f i < 256) (w : World) (hr : Rd w A 32 f) :
    Calls Try.prog 48 #[nv a, .slice A 32 c] w fun e w' => ∃ v, v < M256 ∧ v % P = a ^ le f 0 32 % P ∧ e = .returned (nv v) ∧ Below w.heap.size w w' := by
  rcases hr with h0 | ⟨b, off, rfl, hblk, hcell⟩
  · omega
  obtain ⟨E, hE⟩ : ∃ E, E = le f 0 32 := ⟨_, rfl⟩
  have HBIT := Lib.hid (le_bit f hf)
  rw [← hE] at HBIT ⊢
  have HZ := Lib.hid (show 1 % P = pw a E 0 by rw [pw_zero a E (by rw [hE]; exact le_lt hf 0 32), Nat.mod_eq_of_lt (by have := P_big; omega)])
  have HC := Lib.hid hcell
  have HF := Lib.hid hf
  have HA := Lib.hid ha
  obtain ⟨x, hx⟩ : ∃ x, x = dg 65536 a := ⟨_, rfl⟩
  have HX := Lib.hid hx
  have HS1 := Lib.hid (small_any 1 (by omega))
  rw [nv] at HS1
  rw [nv, ← hx, icells_lit16 x]
  clear hE hcell hf ha hx
  go_enter Try.func48, Try.ntmps48
  go_upto_region 1 with fail
  rw [← icells_lit16 x]
  refine cut_world (fun W => Whole W w.heap.size 24 (icells x 16).toArray ∧ Whole W (w.heap.size + 1) 24 (icells (fun _ => 0) 16).toArray ∧ Below w.heap.size w W) ⟨?_, ?_, ?_⟩ ?_
  · exact (whole_new _ _ rfl).alloc _
  · rw [icells_lit16 fun _ => 0]
    exact whole_new _ _ (by simp)
  · exact below_alloc (below_alloc (Below.refl _ _) _) _
  rintro W ⟨k1, k2, kb⟩
  have K1 := Lib.hid k1
  have K2 := Lib.hid k2
  have KB := Lib.hid kb
  have hw2 := k2.lt
  clear k1 k2 kb
  generalize hB : w.heap.size = B at K1 K2 KB hblk hw2 ⊢
  go_wp2_with fail
  refine (HS1.out _).mono ?_
  rintro e w1 ⟨rfl, hb1⟩
  have R1 := Lib.hid (K1.out.below hb1 K1.out.lt)
  have R2 := Lib.hid (K2.out.below hb1 K2.out.lt)
  have RB := Lib.hid (KB.out.trans (hb1.mono (by omega)))
  have hs1 := hb1.size
  clear hb1 K1 K2 KB
  generalize hO : dg 65536 1 = O
  have HO := Lib.hid hO
  clear hO
  go_upto_region 2 with (refine wpList_store_row rfl 24 (.tmp 5) (.tmp 8) rfl w1.heap.size (icells O 16).toArray rfl rfl 24 _ (Whole.new _ _ _) (by rw [icells_size]; kernel_rfl) (by rw [icells_size]; rfl) (icells_one _ _) ?_)
  refine cut_world (fun X => Whole X B 24 (icells x 16).toArray ∧ Whole X (B + 1) 24 (icells (fun _ => 0) 16).toArray ∧ Whole X w1.heap.size 24 (icells (dg 65536 1) 16).toArray ∧ Below B w X ∧ B + 1 < w1.heap.size) ⟨Whole.farRow (R1.out.alloc _) (by omega) _, Whole.farRow (R2.out.alloc _) (by omega) _, by rw [HO.out]; exact setRow_heap _ _ _ _ _ _ (Whole.new _ _ _), below_setRow (RB.out.alloc (by omega) _) (by omega) _, by omega⟩ ?_
  clear R1 R2 RB hs1 hw2
  rintro Y ⟨k1, k2, k3, kb, hG⟩
  have K1 := Lib.hid k1
  have K2 := Lib.hid k2
  have K3 := Lib.hid k3
  have KB := Lib.hid kb
  clear k1 k2 k3 kb
  generalize w1.heap.size = G at K3 hG ⊢
  have hM1 : 1 < M256 := by have := M_big; omega
  go_wp2_with fail
  go_loopw [6] (fun i wr => ∃ (k v : Nat), k ≤ 32 ∧ i = .int .i64 (31 - (k : Int)) ∧ v < M256 ∧ v % P = pw a E (8 * k) ∧ Whole wr B 24 (icells x 16).toArray ∧ Whole wr (B + 1) 24 (icells (fun _ => 0) 16).toArray ∧ Whole wr G 24 (icells (dg 65536 v) 16).toArray ∧ Below B w wr) (fun i _ => (intOf i + 1).toNat)
  case atStart => exact ⟨0, 1, by omega, rfl, hM1, HZ.out, K1.out, K2.out, K3.out, KB.out⟩
  case round =>
    obtain ⟨k, v, hk, rfl, hv, hvm, q1, q2, q3, qb⟩ := hrel
    have HV := Lib.hid hv
    have HVM := Lib.hid hvm
    have Q1 := Lib.hid q1
    have Q2 := Lib.hid q2
    have Q3 := Lib.hid q3
    have QB := Lib.hid qb
    clear hv hvm q1 q2 q3 qb
    by_cases hlt : k < 32
    · obtain ⟨n, hn⟩ : ∃ n, n = 31 - k := ⟨_, rfl⟩
      rw [show (31 : Int) - (k : Int) = (n : Int) by omega]
      have in1 : 0 ≤ (n : Int) := by omega
      have in2 : (n : Int) < 32 := by omega
      have HN := Lib.hid hn
      clear hn
      go_wp2_with fail
      go_loopw [7] (fun t wr => ∃ (j v : Nat), j ≤ 8 ∧ t = .int .u8 (128 / 2 ^ j : Nat) ∧ v < M256 ∧ v % P = pw a E (8 * k + j) ∧ Whole wr B 24 (icells x 16).toArray ∧ Whole wr (B + 1) 24 (icells (fun _ => 0) 16).toArray ∧ Whole wr G 24 (icells (dg 65536 v) 16).toArray ∧ Below B w wr) (fun t _ => (intOf t).toNat)
      case atStart => exact ⟨0, v, by omega, rfl, HV.out, HVM.out, Q1.out, Q2.out, Q3.out, QB.out⟩
      case round =>
        obtain ⟨j, v, hj, rfl, hv, hvm, q1, q2, q3, qb⟩ := hrel
        have hl3 := q3.lt
        have HV := Lib.hid hv
        have HVM := Lib.hid hvm
        have Q1 := Lib.hid q1
        have Q2 := Lib.hid q2
        have Q3 := Lib.hid q3
        have QB := Lib.hid qb
        clear hv hvm q1 q2 q3 qb
        by_cases hlj : j < 8
        · have hbj := and_bit (f n) j (HF.out n) hlj
          have hbit := HBIT.out (255 - (8 * k + j)) (by omega)
          have hnn := HN.out
          rw [show (255 - (8 * k + j)) / 8 = n by omega, show (255 - (8 * k + j)) % 8 = 7 - j by omega] at hbit
          rw [hbit] at hbj
          have hpos : 0 < 128 / 2 ^ j := Nat.div_pos (by have : 2 ^ j ≤ 2 ^ 7 := Nat.pow_le_pow_right (by omega) (by omega); omega) (Nat.two_pow_pos j)
          have hle : 128 / 2 ^ j ≤ 128 := Nat.div_le_self _ _
          have HNX := Lib.hid (show 128 / 2 ^ (j + 1) = 128 / 2 ^ j / 2 by rw [Nat.pow_succ, Nat.div_div_eq_div_mul])
          have HEV := Lib.hid (pw_even a E (8 * k + j) (by omega))
          have HOD := Lib.hid (pw_odd a E (8 * k + j) (by omega))
          have HSQ := Lib.hid (mul_any v v HV.out HV.out)
          rw [nv] at HSQ
          generalize dg 65536 v = y at Q3 HSQ
          generalize hbt : 128 / 2 ^ j = bt at hbj hpos hle HNX
          have HBT := Lib.hid hbt
          have hd2 : E / 2 ^ (255 - (8 * k + j)) % 2 = 0 ∨ E / 2 ^ (255 - (8 * k + j)) % 2 = 1 := by omega
          generalize E / 2 ^ (255 - (8 * k + j)) % 2 = d at hbj HEV HOD hd2
          clear hbit hnn hbt
          go_wp2_with (refine wpList_load_row rfl 24 (.tmp 5) rfl G rfl 24 (icells y 16).toArray (0, 0) _ Q3.out rfl rfl (by rw [icells_size]; kernel_rfl) ?_)
          refine (HSQ.out _).mono ?_
          rintro e w5 ⟨m, hm1, hm2, rfl, hb⟩
          have R1 := Lib.hid (Q1.out.below hb Q1.out.lt)
          have R2 := Lib.hid (Q2.out.below hb Q2.out.lt)
          have R3 := Lib.hid (Q3.out.below hb hl3)
          have RB := Lib.hid (QB.out.trans (hb.mono (by omega)))
          have HM1 := Lib.hid hm1
          have HM2 := Lib.hid (show m % P = pw a E (8 * k + j) * pw a E (8 * k + j) % P by rw [hm2, Nat.mul_mod, HVM.out])
          clear hb hm1 hm2 Q1 Q2 Q3 QB HSQ
          rw [nv]
          generalize hML : dg 65536 m = ML
          have HML := Lib.hid hML
          clear hML
          go_upto_region 9 with (refine wpList_store_row rfl 24 (.tmp 5) (.tmp 19) rfl G (icells ML 16).toArray rfl rfl 24 _ R3.out (by rw [icells_size]; kernel_rfl) (by rw [icells_size, icells_size]) (icells_one _ _) ?_)
          refine cut_world (fun X => Whole X B 24 (icells x 16).toArray ∧ Whole X (B + 1) 24 (icells (fun _ => 0) 16).toArray ∧ Whole X G 24 (icells ML 16).toArray ∧ Below B w X) ⟨Whole.farRow R1.out (by omega) _, Whole.farRow R2.out (by omega) _, setRow_heap _ _ _ _ _ _ R3.out, below_setRow RB.out (by omega) _⟩ ?_
          clear R1 R2 R3 RB
          rintro Z ⟨k1, k2, k3, kb⟩
          have hl4 := k3.lt
          have cf := (kb.cell (p := ⟨b, off + n, none⟩) hblk).trans (HC.out n (by omega))
          have Q1 := Lib.hid k1
          have Q2 := Lib.hid k2
          have Q3 := Lib.hid k3
          have QB := Lib.hid kb
          clear k1 k2 k3 kb
          rcases hd2 with rfl | rfl
          · have hbj2 : (bits .and .u8 ((f n : Nat) : Int) ((bt : Nat) : Int) != 0) = false := by rw [hbj]; rfl
            clear hbj
            have he := HEV.out rfl
            have HNV := Lib.hid (show m % P = pw a E (8 * k + (j + 1)) by rw [HM2.out, he]; rfl)
            clear he
            go_wp2_with fail
            go_roundw
            case rel => exact ⟨j + 1, m, by omega, by rw [HNX.out]; go_num, HM1.out, HNV.out, Q1.out, Q2.out, by rw [HML.out]; exact Q3.out, QB.out⟩
            case measure => simp [intOf]; omega
          · have hbj2 : (bits .and .u8 ((f n : Nat) : Int) ((bt : Nat) : Int) != 0) = true := by rw [hbj]; rfl
            clear hbj
            have ho := HOD.out rfl
            have HPR := Lib.hid (mul_any m a HM1.out HA.out)
            rw [nv, nv, HML.out, ← HX.out] at HPR
            go_wp2_with (first | (refine wpList_load_row rfl 24 (.tmp 5) rfl G rfl 24 (icells ML 16).toArray (0, 0) _ Q3.out rfl rfl (by rw [icells_size]; kernel_rfl) ?_) | (refine wpList_load_row rfl 24 (.tmp 2) rfl B rfl 24 (icells x 16).toArray (0, 0) _ Q1.out rfl rfl (by rw [icells_size]; kernel_rfl) ?_))
            refine (HPR.out _).mono ?_
            rintro e w6 ⟨m2, hm1, hm2, rfl, hb⟩
            have R1 := Lib.hid (Q1.out.below hb Q1.out.lt)
            have R2 := Lib.hid (Q2.out.below hb Q2.out.lt)
            have R3 := Lib.hid (Q3.out.below hb hl4)
            have RB := Lib.hid (QB.out.trans (hb.mono (by omega)))
            have HN1 := Lib.hid hm1
            have HN2 := Lib.hid (show m2 % P = pw a E (8 * k + (j + 1)) by rw [hm2, ← Nat.mod_mul_mod, HM2.out, ho]; rfl)
            clear hb hm1 hm2 ho Q1 Q2 Q3 QB HPR
            rw [nv]
            generalize hML2 : dg 65536 m2 = ML2
            have HML2 := Lib.hid hML2
            clear hML2
            go_wp2_with (refine wpList_store_row rfl 24 (.tmp 5) (.tmp 29) rfl G (icells ML2 16).toArray rfl rfl 24 _ R3.out (by rw [icells_size]; kernel_rfl) (by rw [icells_size, icells_size]) (icells_one _ _) ?_)
            go_roundw
            case rel => exact ⟨j + 1, m2, by omega, by rw [HNX.out]; go_num, HN1.out, HN2.out, Whole.farRow R1.out (by omega) _, Whole.farRow R2.out (by omega) _, by rw [HML2.out]; exact setRow_heap _ _ _ _ _ _ R3.out, below_setRow RB.out (by omega) _⟩
            case measure => simp [intOf]; omega
        · obtain rfl : j = 8 := by omega
          have HV8 := Lib.hid (show v % P = pw a E (8 * (k + 1)) by rw [HVM.out]; rfl)
          have HI := Lib.hid (show (n : Int) - 1 = 31 - ((k + 1 : Nat) : Int) by have := HN.out; omega)
          rw [show ((128 / 2 ^ 8 : Nat) : Int) = 0 from rfl]
          go_wp2_with fail
          go_roundw
          case rel => exact ⟨k + 1, v, by omega, by rw [HI.out], HV.out, HV8.out, Q1.out, Q2.out, Q3.out, QB.out⟩
          case measure => simp [intOf]
    · obtain rfl : k = 32 := by omega
      rw [show (31 : Int) - ((32 : Nat) : Int) = -1 from rfl]
      have HFIN := Lib.hid (show v % P = a ^ E % P by rw [HVM.out, show 8 * 32 = 256 from rfl, pw_all])
      generalize hL : dg 65536 v = L at Q3
      have HL := Lib.hid hL
      clear hL
      go_wp2_with (first | (refine wpList_load_row rfl 24 (.tmp 5) rfl G rfl 24 (icells L 16).toArray (0, 0) _ Q3.out rfl rfl (by rw [icells_size]; kernel_rfl) ?_) | (refine wpList_store_row rfl 24 (.tmp 4) (.tmp 30) rfl (B + 1) (icells L 16).toArray rfl rfl 24 _ Q2.out (by rw [icells_size]; kernel_rfl) (by rw [icells_size, icells_size]) (icells_one _ _) ?_))
      have hret : Whole (wr.setRow (B + 1) (icells L 16).toArray) (B + 1) 24 (icells L 16).toArray := setRow_heap _ _ _ _ _ _ Q2.out
      refine bodyPost_ret (results_cell_row rfl _ _ (B + 1) 24 _ (0, 0) _ rfl hret rfl rfl (by rw [icells_size]; kernel_rfl)) rfl ?_
      exact ⟨v, HV.out, HFIN.out, by rw [nv, HL.out], by rw [hB]; exact below_setRow QB.out (by omega) _⟩

end RefF
end Go.Proofs.Ytnopjjkijedpeaa

namespace Go.Proofs.Ytnopjjkijedpeaa
namespace RefF
open Go.ChangeShapes Go.WideShapes Go.ChangeAt Go.RowKit
open Num Mem Words Radix FieldN Chacha Quiet

theorem byteCells_put (f : Nat → Nat) (n j v : Nat) : (byteCells f n).set j (.int .u8 (v : Nat)) = byteCells (fun i => if i = j then v else f i) n := by
  have h := byteCells_set f n j v
  rw [List.setIfInBounds_toArray] at h
  exact List.toArray_inj h
theorem own_put {w : World} {B b n c : Nat} {f : Nat → Nat} (h : Own w B 5 (some ⟨b, 0, none⟩) n c f) (i v : Nat) : Own (w.setCell ⟨b, i, none⟩ (.int .u8 (v : Nat))) B 5 (some ⟨b, 0, none⟩) n c (fun j => if j = i then v else f j) := by
  have k := World.ownsRow.stored h i (.int .u8 (v : Nat))
  unfold Own
  rw [← byteCells_put]
  exact k.1

/-- 'append(out, x)' of one byte onto a row of the call's own -/
theorem wpList_pushB {ops : Array Oper} {rest : List Oper} {o : Oper} {a : Act} {Q : Exit → Act → World → Prop} {W w : World} {B k c : Nat} {A : Option Addr} {f : Nat → Nat} {b : Int} (hgd : o.guard = none) (s x : Operand)
    (ho : o.op = .call { callee := .builtin .append, args := #[s, x], argTypes := #[26, 26] })
    (hs : a.eval s = .slice A k c) (hx : a.eval x = .slice (some ⟨w.heap.size, 0, none⟩) 1 1)
    (own : Own w B 5 A k c f) (bel : Below B W w) (hB : B ≤ w.heap.size) (hb : b = (f k : Nat)) (hk : k < 1000000)
    (h : ∀ A' c' w', Own w' B 5 A' (k + 1) c' f → Below B W w' → B ≤ w'.heap.size → wpList Try.prog ops Q rest (a.put o.dst (.slice A' (k + 1) c')) w') :
    wpList Try.prog ops Q (o :: rest) a (w.alloc (.cells #[.int .u8 b] 5)) := by
  refine wpList_cat (W := W) (w := w.alloc (.cells #[.int .u8 b] 5)) (B := B) (xs := byteCells f k) hgd s x 26 5 (.int .u8 0) 1 Try.underlying26 info_u8 rfl ho hs (World.ownsRow.alloc own _) (bel.alloc hB _) (by simp; omega) ⟨w.heap.size, 0, none⟩ 1 1 hx [.int .u8 b] rfl (fun j u hj => ?_) (fun u hu => by simp at hu; subst hu; rfl) (by omega) (by omega) ?_
  · rcases j with _ | j
    · simp at hj
      subst hj
      exact (Whole.new w _ #[.int .u8 b]).cell 0
    · simp at hj
  · intro A' c' w' h1 h2 h3 _
    refine h A' c' w' ?_ h2 h3
    unfold Own
    rw [byteCells_snoc, ← hb]
    exact h1

/-- the exponent's bytes -/
def exR (i : Nat) : Nat := if i = 31 then 127 else if i = 0 then 235 else 255
theorem exR_lt (i : Nat) : exR i < 256 := by
  unfold exR
  split
  · omega
  · split <;> omega
theorem exR_all : le exR 0 32 = P - 2 := by unfold P; decide

set_option maxRecDepth 100000 in
theorem invert_core (a : Nat) (E : Nat → Nat) (hE : ∀ i, i < 32 → E i = exR i) (x : Nat → Nat)
    (hp : ∀ w A c, Rd w A 32 E → Calls Try.prog 48 #[.agg (icells x 16).toArray, .slice A 32 c] w fun e w' => ∃ v, v < M256 ∧ v % P = a ∧ e = .returned (nv v) ∧ Below w.heap.size w w') (w : World) :
    Calls Try.prog 27 #[.agg (icells x 16).toArray] w fun e w' => ∃ v, v < M256 ∧ v % P = a ∧ e = .returned (nv v) ∧ Below w.heap.size w w' := by
  have HP := Lib.hid hp
  have HE := Lib.hid hE
  clear hp hE
  rw [icells_lit16 x]
  go_enter Try.func27, Try.ntmps27
  go_upto_region 1 with fail
  rw [← icells_lit16 x]
  refine cut_world (fun W => Whole W w.heap.size 24 (icells x 16).toArray ∧ Whole W (w.heap.size + 1) 24 (icells (fun _ => 0) 16).toArray ∧ Below w.heap.size w W) ⟨?_, ?_, ?_⟩ ?_
  · exact (whole_new _ _ rfl).alloc _
  · rw [icells_lit16 fun _ => 0]
    exact whole_new _ _ (by simp)
  · exact below_alloc (below_alloc (Below.refl _ _) _) _
  rintro W ⟨k1, k2, kb⟩
  have K1 := Lib.hid k1
  have K2 := Lib.hid k2
  have KB := Lib.hid kb
  have hw2 := k2.lt
  clear k1 k2 kb
  generalize hB : w.heap.size = B at K1 K2 KB hw2 ⊢
  go_wp2_with fail
  go_loopw [3, 4] (fun o i wr => ∃ (k : Nat) (A : Option Addr) (c : Nat), k ≤ 32 ∧ i = .int .i64 k ∧ o = .slice A k c ∧ Own wr (B + 1 + 1) 5 A k c (fun _ => 255) ∧ Below (B + 1 + 1) W wr ∧ B + 1 + 1 ≤ wr.heap.size) (fun _ i _ => 32 - (intOf i).toNat)
  case atStart => exact ⟨0, none, 0, by omega, rfl, rfl, Own.nil _ _ _ _, Below.refl _ _, hw2⟩
  case round =>
    obtain ⟨k, A, c, hk, rfl, rfl, ho, hbl, hsz⟩ := hrel
    have HO := Lib.hid ho
    have HL := Lib.hid hbl
    clear ho hbl
    by_cases hlt : k < 32
    · go_wp2_with (at_builtin; refine wpList_pushB (W := W) rfl _ _ rfl rfl rfl HO.out HL.out hsz rfl (by omega) ?_; intro A2 c2' w1 hown1 hbel1 hsz1; have HO1 := Lib.hid hown1; have HL1 := Lib.hid hbel1; clear hown1 hbel1)
      go_roundw
      case rel => exact ⟨k + 1, A2, c2', by omega, by go_num, rfl, HO1.out, HL1.out, by omega⟩
      case measure => simp [intOf]; omega
    · obtain rfl : k = 32 := by omega
      obtain ⟨g, rfl, hg1, hg2⟩ := owns_some HO.out (by omega)
      have c0 : wr.cell? ⟨g, 0, none⟩ = some (.int .u8 (255 : Nat)) := by rw [World.ownsRow.cellAt HO.out 0 (by omega), byteCells_get _ _ _ (by omega)]
      have c1 : wr.cell? ⟨g, 31, none⟩ = some (.int .u8 (255 : Nat)) := by rw [World.ownsRow.cellAt HO.out 31 (by omega), byteCells_get _ _ _ (by omega)]
      have f0 := World.ownsRow.frozenAt HO.out 0
      have f1 := World.ownsRow.frozenAt HO.out 31
      have h := own_put (own_put HO.out 0 235) 31 127
      have HR := Lib.hid (show Rd _ (some ⟨g, 0, none⟩) 32 E from (Own.congr h fun i hi => by
        rw [HE.out i hi]
        rfl).rd)
      have HBL := Lib.hid ((HL.out.setCell (p := ⟨g, 0, none⟩) hg1 (.int .u8 (235 : Nat))).setCell (p := ⟨g, 31, none⟩) hg1 (.int .u8 (127 : Nat)))
      clear h
      go_upto_region 7 with fail
      refine cut_world (fun Y => Rd Y (some ⟨g, 0, none⟩) 32 E ∧ Below (B + 1 + 1) W Y ∧ B + 1 + 1 ≤ Y.heap.size) ⟨HR.out, HBL.out, by simpa using hsz⟩ ?_
      rintro Y ⟨r1, r2, r3⟩
      have R1 := Lib.hid r1
      have R2 := Lib.hid r2
      have N1 := Lib.hid (K1.out.below r2 (by omega))
      have N2 := Lib.hid (K2.out.below r2 (by omega))
      have NB := Lib.hid (KB.out.trans (r2.mono (by omega)))
      clear r1 r2 HR HBL c0 c1 f0 f1
      go_wp2_with (refine wpList_load_row rfl 24 (.tmp 1) rfl B rfl 24 (icells x 16).toArray (0, 0) _ N1.out rfl rfl (by rw [icells_size]; kernel_rfl) ?_)
      refine (HP.out _ _ _ R1.out).mono ?_
      rintro e w5 ⟨v, hv1, hv2, rfl, hb⟩
      have M2 := Lib.hid (N2.out.below hb N2.out.lt)
      have MB := Lib.hid (NB.out.trans (hb.mono (by omega)))
      have HV1 := Lib.hid hv1
      have HV2 := Lib.hid hv2
      clear hb hv1 hv2
      rw [nv]
      generalize hL : dg 65536 v = L
      have HLL := Lib.hid hL
      clear hL
      go_wp2_with (refine wpList_store_row rfl 24 (.tmp 2) (.tmp 18) rfl (B + 1) (icells L 16).toArray rfl rfl 24 _ M2.out (by rw [icells_size]; kernel_rfl) (by rw [icells_size, icells_size]) (icells_one _ _) ?_)
      have hret : Whole (w5.setRow (B + 1) (icells L 16).toArray) (B + 1) 24 (icells L 16).toArray := setRow_heap _ _ _ _ _ _ M2.out
      refine bodyPost_ret (results_cell_row rfl _ _ (B + 1) 24 _ (0, 0) _ rfl hret rfl rfl (by rw [icells_size]; kernel_rfl)) rfl ?_
      exact ⟨v, HV1.out, HV2.out, by rw [nv, HLL.out], by rw [hB]; exact below_setRow MB.out (by omega) _⟩

theorem invert_any (a : Nat) (ha : a < M256) (w : World) :
    Calls Try.prog 27 #[nv a] w fun e w' => ∃ v, v < M256 ∧ v % P = a ^ (P - 2) % P ∧ e = .returned (nv v) ∧ Below w.heap.size w w' := by
  have h := fun w A c => power_any a ha A c exR exR_lt w
  rw [exR_all] at h
  generalize a ^ (P - 2) % P = r at h ⊢
  exact invert_core r exR (fun i _ => rfl) (dg 65536 a) h w

end RefF
end Go.Proofs.Ytnopjjkijedpeaa
