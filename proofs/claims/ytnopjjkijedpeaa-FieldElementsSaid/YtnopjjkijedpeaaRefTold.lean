/- The document's own answers of layer 5 (package aditref05): less, Told. -/
import Derived.Test.YtnopjjkijedpeaaRefMul
namespace Go.Proofs.Ytnopjjkijedpeaa
namespace RefF
open Go.ChangeShapes Go.WideShapes Go.ChangeAt Go.RowKit
open Num Mem Words Radix FieldN Chacha Quiet

theorem rv_succ (X : Nat) (a : Nat → Nat) (k : Nat) : rv X a (k + 1) = rv X a k + a k * X ^ k := rfl
/-- the greatest limbs below 2^255 -/
def fu (i : Nat) : Nat := if i = 15 then 32767 else 65535
theorem rv_fu (i : Nat) (h : i ≤ 15) : rv 65536 fu i + 1 = 65536 ^ i := by
  induction i with
  | zero => rfl
  | succ i ih =>
    have := ih (by omega)
    rw [rv, show fu i = 65535 from if_neg (by omega), Nat.pow_succ]
    omega
theorem rv_fu_all : rv 65536 fu 16 + 1 = T := by
  have h := rv_fu 15 (by omega)
  have e : rv 65536 fu 16 = rv 65536 fu 15 + 32767 * 65536 ^ 15 := rv_succ 65536 fu 15
  rw [e, show T = 32768 * 65536 ^ 15 by unfold T; decide]
  generalize 65536 ^ 15 = M at h ⊢
  omega

theorem above {m : Nat → Nat} (i : Nat) : ∀ k, (∀ j, i ≤ j → j < i + k → m j = fu j) → rv 65536 fu (i + k) + rv 65536 m i = rv 65536 m (i + k) + rv 65536 fu i
  | 0, _ => by rw [Nat.add_zero]; omega
  | k + 1, h => by
    have ih := above i k (fun j h1 h2 => h j h1 (by omega))
    have e := h (i + k) (by omega) (by omega)
    rw [show i + (k + 1) = i + k + 1 from rfl, rv_succ 65536 fu (i + k), rv_succ 65536 m (i + k), e]
    omega

theorem lesser {m : Nat → Nat} (hm : ∀ i, m i < 65536) (i : Nat) (h1 : 1 ≤ i) (h15 : i ≤ 15) (hu : ∀ j, i < j → j < 16 → m j = fu j) (hi : m i < fu i) : rv 65536 m 16 < P := by
  obtain ⟨k, hk⟩ : ∃ k, 16 = i + 1 + k := ⟨15 - i, by omega⟩
  have h2 := above (m := m) (i + 1) k (fun j a b => hu j (by omega) (by omega))
  rw [← hk] at h2
  have h3 := rv_fu_all
  have h4 := rv_fu i h15
  have h5 := rv_lt (X := 65536) (a := m) i (fun j _ => hm j)
  rw [rv_succ 65536 m i, rv_succ 65536 fu i] at h2
  have h6 : (m i + 1) * 65536 ^ i ≤ fu i * 65536 ^ i := Nat.mul_le_mul_right _ hi
  rw [Nat.add_mul] at h6
  have h7 : 65536 ≤ 65536 ^ i := Nat.le_self_pow (by omega) _
  have h8 := P_T
  omega

theorem greatest {m : Nat → Nat} (hu : ∀ j, 0 < j → j < 16 → m j = fu j) : rv 65536 m 16 + 65536 = T + m 0 := by
  have h2 := above (m := m) 1 15 (fun j a b => hu j (by omega) (by omega))
  rw [show 1 + 15 = 16 from rfl] at h2
  have h3 := rv_fu_all
  have e : ∀ a : Nat → Nat, rv 65536 a 1 = a 0 := fun a => by simp [rv]
  rw [e, e, show fu 0 = 65535 from rfl] at h2
  omega

set_option maxRecDepth 100000 in
theorem less_any (v : Nat) (hv : v < T) (r : Bool) (hr : r = true ↔ v < P) (w : World) :
    Calls Try.prog 51 #[nv v] w fun e w' => e = .returned (.bool r) ∧ Below w.heap.size w w' := by
  obtain ⟨m, hm⟩ : ∃ m, m = dg 65536 v := ⟨_, rfl⟩
  have HM := Lib.hid (show ∀ i, m i < 65536 from fun i => by rw [hm]; exact lim_lt v i)
  have HV := Lib.hid (show rv 65536 m 16 = v by rw [hm, rv_lim v (by have := M_T; omega)])
  have htop : m 15 ≤ 32767 := by
    have h1 : rv 65536 m 15 + m 15 * 65536 ^ 15 = v := HV.out
    have h2 : m 15 * 65536 ^ 15 < 32768 * 65536 ^ 15 := by
      have : T = 32768 * 65536 ^ 15 := by unfold T; decide
      omega
    have := Nat.lt_of_mul_lt_mul_right h2
    omega
  have HLE := Lib.hid (fun i h1 h15 hu hi => HV.out ▸ lesser HM.out i h1 h15 hu hi)
  have HGR := Lib.hid (fun hu => HV.out ▸ greatest (m := m) hu)
  have HPT := Lib.hid P_T
  rw [nv, ← hm, icells_lit16 m]
  clear hm hv
  go_enter Try.func51, Try.ntmps51
  go_upto_region 1 with fail
  rw [← icells_lit16 m]
  refine cut_world (fun W => Whole W w.heap.size 24 (icells m 16).toArray ∧ Below w.heap.size w W) ⟨whole_new _ _ rfl, below_alloc (Below.refl _ _) _⟩ ?_
  rintro W ⟨k1, kb⟩
  have K1 := Lib.hid k1
  have KB := Lib.hid kb
  have c15 := k1.inum 15 (by omega)
  clear k1 kb
  generalize hB : w.heap.size = B at K1 KB c15 ⊢
  by_cases h15 : m 15 = 32767
  · have hd : (((m 15 : Nat) : Int) != 32767) = false := by rw [h15]; rfl
    go_wp2_with fail
    go_loopw [3] (fun i wr => ∃ k : Nat, k ≤ 14 ∧ i = .int .i64 k ∧ (∀ j, k < j → j < 16 → m j = fu j) ∧ wr = W) (fun i _ => (intOf i).toNat)
    case atStart => exact ⟨14, by omega, rfl, fun j h1 h2 => by rw [show j = 15 by omega, h15]; rfl, rfl⟩
    case round =>
      obtain ⟨k, hk, rfl, hj, rfl⟩ := hrel
      have HJ := Lib.hid hj
      clear hj
      by_cases hk0 : 0 < k
      · have ck := K1.out.inum k (by omega)
        have ik : (k : Int) < 16 := by omega
        by_cases hf : m k = 65535
        · have hd2 : (((m k : Nat) : Int) != 65535) = false := by rw [hf]; rfl
          go_wp2_with fail
          go_roundw
          case rel =>
            exact ⟨k - 1, by omega, by go_num, fun j h1 h2 => by
              rcases Nat.lt_or_ge k j with l | l
              · exact HJ.out j l h2
              · rw [show j = k by omega, hf]
                exact (if_neg (by omega)).symm, trivial⟩
          case measure => simp [intOf]; omega
        · have hd2 : (((m k : Nat) : Int) != 65535) = true := by rw [bne_iff_ne]; omega
          have hlt := HLE.out k (by omega) (by omega) HJ.out (by
            rw [show fu k = 65535 from if_neg (by omega)]
            have := HM.out k
            omega)
          obtain rfl : r = true := hr.2 hlt
          clear hlt
          go_wp2_with fail
          go_ret
          exact ⟨rfl, by first | exact KB.out | (rw [hB]; exact KB.out)⟩
      · obtain rfl : k = 0 := by omega
        have c0 := K1.out.inum 0 (by omega)
        have hg := HGR.out HJ.out
        have hpt := HPT.out
        have h0 := HM.out 0
        have HD := Lib.hid (show decide (((m 0 : Nat) : Int) < 65517) = r from by
          by_cases l : m 0 < 65517
          · rw [decide_eq_true (by omega), hr.2 (by omega)]
          · rw [decide_eq_false (by omega)]
            cases r
            · rfl
            · have := hr.1 rfl
              omega)
        clear hg hpt
        go_wp2_with fail
        rw [HD.out]
        go_ret
        exact ⟨rfl, by first | exact KB.out | (rw [hB]; exact KB.out)⟩
  · have hd : (((m 15 : Nat) : Int) != 32767) = true := by rw [bne_iff_ne]; omega
    have hlt := HLE.out 15 (by omega) (by omega) (fun j h1 h2 => by omega) (by rw [show fu 15 = 32767 from rfl]; omega)
    obtain rfl : r = true := hr.2 hlt
    have hd3 : decide (((m 15 : Nat) : Int) < 32767) = true := decide_eq_true (by omega)
    clear hlt
    go_wp2_with fail
    go_ret
    exact ⟨rfl, by first | exact KB.out | (rw [hB]; exact KB.out)⟩

/-- what goes past 2^255 comes back nineteen times -/
def tv (v : Nat) : Nat := v % T + 19 * (v / T)
def tn (v : Nat) : Nat → Nat
  | 0 => v
  | n + 1 => tv (tn v n)
theorem tv_mod (v : Nat) : tv v % P = v % P := back_mod v
theorem tn_mod (v : Nat) : ∀ n, tn v n % P = v % P
  | 0 => rfl
  | n + 1 => by rw [tn, tv_mod, tn_mod v n]
theorem tv_small {v : Nat} (h : v < M256) : tv v < T + 19 := by
  have h1 := M_T
  have h2 := T_big
  have h3 : v / T < 2 := Nat.div_lt_of_lt_mul (by omega)
  have h4 := Nat.mod_lt v (show 0 < T by omega)
  unfold tv
  omega
theorem tv_done {v : Nat} (h : v < T + 19) : tv (tv v) < T := by
  have h2 := T_big
  have hd : ∀ u, u < T → tv u = u := fun u hu => by unfold tv; rw [Nat.mod_eq_of_lt hu, Nat.div_eq_of_lt hu]; omega
  rcases Nat.lt_or_ge v T with l | l
  · rw [hd v l, hd v l]; exact l
  · have e : tv v < T := by
      unfold tv
      rw [show v = v - T + T by omega, Nat.add_mod_right, Nat.add_div_right _ (by omega), Nat.mod_eq_of_lt (by omega), Nat.div_eq_of_lt (by omega)]
      omega
    rw [hd _ e]; exact e
theorem tn_small {v : Nat} (h : v < M256) : ∀ n, tn v n < M256
  | 0 => h
  | n + 1 => by
    have h1 := tv_small (tn_small h n)
    have h2 := M_T
    have h3 := T_big
    rw [tn]
    omega

/-- the limbs that are handed on in a round -/
def tl (v i : Nat) : Nat := if i = 0 then dg 65536 v 0 + 19 * (v / T) else if i = 15 then dg 65536 v 15 % 32768 else dg 65536 v i
theorem top_T (v : Nat) (h : v < M256) : dg 65536 v 15 / 32768 = v / T ∧ rv 65536 (dg 65536 v) 15 + dg 65536 v 15 % 32768 * 65536 ^ 15 = v % T := by
  have h1 := rv_lim v h
  have e : rv 65536 (dg 65536 v) 16 = rv 65536 (dg 65536 v) 15 + dg 65536 v 15 * 65536 ^ 15 := rv_succ 65536 (dg 65536 v) 15
  have hl := rv_lt (X := 65536) (a := dg 65536 v) 15 (fun i _ => lim_lt v i)
  have hT : T = 32768 * 65536 ^ 15 := by unfold T; decide
  rw [h1] at e
  generalize rv 65536 (dg 65536 v) 15 = L at e hl ⊢
  generalize dg 65536 v 15 = d at e ⊢
  have hp : 0 < 65536 ^ 15 := Nat.pow_pos (by omega)
  generalize 65536 ^ 15 = M at e hl hT hp ⊢
  have hd := Nat.div_add_mod d 32768
  have e2 : v = (L + d % 32768 * M) + T * (d / 32768) := by
    rw [e, hT]
    conv => lhs; rw [← hd, Nat.add_mul]
    rw [show 32768 * (d / 32768) * M = 32768 * M * (d / 32768) by ac_rfl]
    omega
  have hlt : L + d % 32768 * M < T := by
    have : d % 32768 * M ≤ 32767 * M := Nat.mul_le_mul_right _ (by omega)
    omega
  rw [e2, Nat.add_mul_div_left _ _ (by omega), Nat.div_eq_of_lt hlt, Nat.add_mul_mod_self_left, Nat.mod_eq_of_lt hlt]
  omega
theorem rv_tl (v : Nat) (h : v < M256) : rv 65536 (tl v) 16 = tv v := by
  obtain ⟨h1, h2⟩ := top_T v h
  have e := rv_first16 (fun i => if i = 15 then dg 65536 v 15 % 32768 else dg 65536 v i) (19 * (v / T))
  have e2 : rv 65536 (fun i => if i = 15 then dg 65536 v 15 % 32768 else dg 65536 v i) 16 = v % T := by
    rw [rv_succ 65536 (fun i => if i = 15 then dg 65536 v 15 % 32768 else dg 65536 v i) 15, if_pos rfl, rv_congr (b := dg 65536 v) 15 (fun i hi => if_neg (by omega)), h2]
  rw [e2] at e
  rw [tv, ← e]
  exact rv_congr 16 fun i hi => rfl

theorem dg_one (x : Nat) (h : x < 65536) (i : Nat) : dg 65536 x i = if i = 0 then x else 0 := by
  unfold dg
  by_cases e : i = 0
  · subst e
    rw [if_pos rfl, Nat.pow_zero, Nat.div_one, Nat.mod_eq_of_lt h]
  · rw [if_neg e, Nat.div_eq_of_lt (Nat.lt_of_lt_of_le h (Nat.le_self_pow e _)), Nat.zero_mod]
/-- what is not below the prime, but below 2^255 -/
theorem above_P (u : Nat) (h : u < T) (hp : P ≤ u) : dg 65536 u 0 = u - P + 65517 := by
  have h1 := P_T
  have h2 : T = 65536 * (32768 * 65536 ^ 14) := by unfold T; decide
  generalize 32768 * 65536 ^ 14 = M at h2
  unfold dg
  rw [Nat.pow_zero, Nat.div_one]
  omega

set_option maxRecDepth 100000 in
theorem told_any (v : Nat) (hv : v < M256) (w : World) :
    Calls Try.prog 38 #[nv v] w fun e w' => e = .returned (nv (v % P)) ∧ Below w.heap.size w w' := by
  have HSM := Lib.hid (tn_small hv)
  have HFIN := Lib.hid (show tn v 3 < T from tv_done (tv_small hv))
  have HMOD := Lib.hid (tn_mod v)
  have HV0 := Lib.hid (show dg 65536 (tn v 0) = dg 65536 v from rfl)
  rw [nv]
  rw [← HV0.out]
  rw [icells_lit16 (dg 65536 (tn v 0))]
  clear hv
  go_enter Try.func38, Try.ntmps38
  go_upto_region 1 with fail
  rw [← icells_lit16 (dg 65536 (tn v 0))]
  refine cut_world (fun W => Whole W w.heap.size 24 (icells (dg 65536 (tn v 0)) 16).toArray ∧ Whole W (w.heap.size + 1) 24 (icells (fun _ => 0) 16).toArray ∧ Below w.heap.size w W ∧ w.heap.size + 1 + 1 ≤ W.heap.size) ⟨?_, ?_, ?_, by simp⟩ ?_
  · exact (whole_new _ _ rfl).alloc _
  · rw [icells_lit16 fun _ => 0]
    exact whole_new _ _ (by simp)
  · exact below_alloc (below_alloc (Below.refl _ _) _) _
  rintro W ⟨k1, k2, kb, hsz⟩
  have K1 := Lib.hid k1
  have K2 := Lib.hid k2
  have KB := Lib.hid kb
  clear k1 k2 kb
  generalize hB : w.heap.size = B at K1 K2 KB hsz ⊢
  go_wp2_with fail
  go_loopw [3] (fun i wr => ∃ n : Nat, n ≤ 3 ∧ i = .int .i64 n ∧ Whole wr B 24 (icells (dg 65536 (tn v n)) 16).toArray ∧ Whole wr (B + 1) 24 (icells (fun _ => 0) 16).toArray ∧ Below B w wr ∧ B + 1 + 1 ≤ wr.heap.size) (fun i _ => 3 - (intOf i).toNat)
  case atStart => exact ⟨0, by omega, rfl, K1.out, K2.out, KB.out, hsz⟩
  case round =>
    obtain ⟨n, hn, rfl, q1, q2, qb, hsz2⟩ := hrel
    by_cases hlt : n < 3
    · have in3 : (n : Int) < 3 := by omega
      have hu := HSM.out n
      have HNX := Lib.hid (show dg 65536 (tn v (n + 1)) = dg 65536 (cc2 (tv (tn v n))) from by
        have h1 := HSM.out (n + 1)
        rw [tn] at h1
        rw [cc2, cv_fix h1, cv_fix h1, tn])
      generalize tn v n = u at hu q1 HNX
      obtain ⟨m, hm⟩ : ∃ m, m = dg 65536 u := ⟨_, rfl⟩
      obtain ⟨t, ht⟩ : ∃ t, t = tl u := ⟨_, rfl⟩
      have HM := Lib.hid (show ∀ i, m i < 65536 from fun i => by rw [hm]; exact lim_lt u i)
      obtain ⟨htop, _⟩ := top_T u hu
      rw [← hm] at htop q1
      obtain ⟨d, hd⟩ : ∃ d, d = m 15 / 32768 := ⟨_, rfl⟩
      have hT15 : t 15 = m 15 % 32768 := by rw [ht, hm]; rfl
      have hT0 : t 0 = m 0 + 19 * d := by rw [ht, hd, htop, hm]; rfl
      have HTI := Lib.hid (show ∀ i, i ≠ 0 → i ≠ 15 → m i = t i from fun i h0 h15 => by
        rw [ht, hm]
        unfold tl
        rw [if_neg h0, if_neg h15])
      have HTV := Lib.hid (show rv 65536 t 16 = tv u by rw [ht]; exact rv_tl u hu)
      have m15 := HM.out 15
      have m0 := HM.out 0
      have HTL := Lib.hid (show ∀ i, i < 16 → t i < 70368744177664 from fun i _ => by
        by_cases e0 : i = 0
        · subst e0
          omega
        · by_cases e15 : i = 15
          · subst e15
            omega
          · rw [← HTI.out i e0 e15]
            have := HM.out i
            omega)
      have c15 := q1.inum 15 (by omega)
      have f15 := q1.free 15
      have h1 := q1.put 15 (.int .i64 (t 15 : Nat))
      rw [icells_set] at h1
      have Q1 := Lib.hid h1
      have Q2 := Lib.hid (q2.far (p := ⟨B, 15, none⟩) (by simp) (.int .i64 (t 15 : Nat)))
      have QB := Lib.hid (qb.setCell (p := ⟨B, 15, none⟩) (by simp) (.int .i64 (t 15 : Nat)))
      have HD := Lib.hid (show ((m 15 : Nat) : Int) / 32768 = (d : Int) by omega)
      have HR := Lib.hid (show ((m 15 : Nat) : Int) % 32768 = ((t 15 : Nat) : Int) by omega)
      have HS0 := Lib.hid (show ((m 0 : Nat) : Int) + 19 * (d : Int) = ((t 0 : Nat) : Int) by omega)
      have hd2 : d < 2 := by omega
      clear h1 q1 q2 qb hm ht htop hd hT15 hT0
      go_upto_region 6 with fail
      rw [HD.out, HR.out]
      refine cut_world (fun X => Whole X B 24 (icells (fun i => if i = 15 then t 15 else m i) 16).toArray ∧ Whole X (B + 1) 24 (icells (fun _ => 0) 16).toArray ∧ Below B w X ∧ B + 1 + 1 ≤ X.heap.size) ⟨Q1.out, Q2.out, QB.out, by simpa using hsz2⟩ ?_
      clear Q1 Q2 QB c15 f15
      rintro X ⟨q1, q2, qb, hsz3⟩
      have c0 := q1.inum 0 (by omega)
      rw [if_neg (by omega)] at c0
      have f0 := q1.free 0
      have h1 := q1.put 0 (.int .i64 (t 0 : Nat))
      rw [icells_set, icells_congr (g := t) (fun i hi => by
        show (if i = 0 then t 0 else if i = 15 then t 15 else m i) = t i
        by_cases e0 : i = 0
        · rw [if_pos e0, e0]
        · rw [if_neg e0]
          by_cases e15 : i = 15
          · rw [if_pos e15, e15]
          · rw [if_neg e15, HTI.out i e0 e15])] at h1
      have Q1 := Lib.hid h1
      have Q2 := Lib.hid (q2.far (p := ⟨B, 0, none⟩) (by simp) (.int .i64 (t 0 : Nat)))
      have QB := Lib.hid (qb.setCell (p := ⟨B, 0, none⟩) (by simp) (.int .i64 (t 0 : Nat)))
      clear h1 q1 q2 qb
      go_upto_region 7 with fail
      rw [HS0.out]
      refine cut_world (fun X => Whole X B 24 (icells t 16).toArray ∧ Whole X (B + 1) 24 (icells (fun _ => 0) 16).toArray ∧ Below B w X ∧ B + 1 + 1 ≤ X.heap.size) ⟨Q1.out, Q2.out, QB.out, by simpa using hsz3⟩ ?_
      clear Q1 Q2 QB c0 f0
      rintro Y ⟨q1, q2, qb, hsz4⟩
      have K1 := Lib.hid q1
      have K2 := Lib.hid q2
      have KB := Lib.hid qb
      clear q1 q2 qb
      go_wp2_with fail
      go_loopw [5, 6] (fun o i wr' => ∃ (k : Nat) (A : Option Addr) (c : Nat), k ≤ 16 ∧ i = .int .i64 k ∧ o = .slice A k c ∧ OwnI wr' (B + 1 + 1) A k c t ∧ Below (B + 1 + 1) Y wr' ∧ B + 1 + 1 ≤ wr'.heap.size) (fun _ i _ => 16 - (intOf i).toNat)
      case atStart => exact ⟨0, none, 0, by omega, rfl, rfl, OwnI.nil _ _ _, Below.refl _ _, hsz4⟩
      case round =>
        obtain ⟨k, A, c, hk, rfl, rfl, ho, hbl, hsz5⟩ := hrel
        have HO := Lib.hid ho
        have HL := Lib.hid hbl
        clear ho hbl
        by_cases hlk : k < 16
        · have ck := (K1.out.below HL.out (by omega)).inum k hlk
          have ik : (k : Int) < 16 := by omega
          go_wp2_with (at_builtin; refine wpList_pushI (W := Y) rfl _ _ rfl rfl rfl HO.out HL.out hsz5 rfl (by omega) ?_; intro A2 c2' w1 hown1 hbel1 hsz1 _; have HO1 := Lib.hid hown1; have HL1 := Lib.hid hbel1; clear hown1 hbel1)
          go_roundw
          case rel => exact ⟨k + 1, A2, c2', by omega, by go_num, rfl, HO1.out, HL1.out, by omega⟩
          case measure => simp [intOf]; omega
        · obtain rfl : k = 16 := by omega
          obtain ⟨g, rfl, hg1, hg2⟩ := HO.out.at (by omega)
          go_wp2_with fail
          refine (carry_any (B + 1 + 1) g c t HTL.out _ HO.out hg1).mono ?_
          rintro e w1 ⟨rfl, hb1⟩
          have R1 := Lib.hid ((K1.out.below HL.out (by omega)).below hb1 (by omega))
          have R2 := Lib.hid ((K2.out.below HL.out (by omega)).below hb1 (by omega))
          have RB := Lib.hid (KB.out.trans ((HL.out.trans hb1).mono (by omega)))
          have hs6 := hb1.size
          clear hb1
          rw [HTV.out, show cv (cv (tv u)) = cc2 (tv u) from rfl, ← HNX.out]
          generalize hL : dg 65536 (tn v (n + 1)) = L
          have HLL := Lib.hid hL
          clear hL
          go_wp2_with (refine wpList_store_row rfl 24 (.tmp 1) (.tmp 36) rfl B (icells L 16).toArray rfl rfl 24 _ R1.out (by rw [icells_size]; kernel_rfl) (by rw [icells_size, icells_size]) (icells_one _ _) ?_)
          go_roundw
          case rel =>
            refine ⟨n + 1, by omega, by go_num, ?_, Whole.farRow R2.out (by omega) _, below_setRow RB.out (Nat.le_refl _) _, by simp [World.setRow]; omega⟩
            rw [HLL.out]
            exact setRow_heap _ _ _ _ _ _ R1.out
          case measure => simp [intOf]; omega
    · obtain rfl : n = 3 := by omega
      have hmod := HMOD.out 3
      have hlt3 := HFIN.out
      generalize tn v 3 = u at q1 hmod hlt3
      rw [show ((3 : Nat) : Int) = 3 from rfl]
      have hl1 := q1.lt
      by_cases hp : u < P
      · have hfin : u = v % P := by rw [← hmod, Nat.mod_eq_of_lt hp]
        have HLS := Lib.hid (less_any u hlt3 true (by simp [hp]))
        have HF := Lib.hid hfin
        rw [nv] at HLS
        generalize hL : dg 65536 u = L at q1 HLS
        have HLL := Lib.hid hL
        have Q1 := Lib.hid q1
        have Q2 := Lib.hid q2
        have QB := Lib.hid qb
        clear hmod hlt3 hfin hL q1 q2 qb
        go_wp2_with (refine wpList_load_row rfl 24 (.tmp 1) rfl B rfl 24 (icells L 16).toArray (0, 0) _ Q1.out rfl rfl (by rw [icells_size]; kernel_rfl) ?_)
        refine (HLS.out _).mono ?_
        rintro e w1 ⟨rfl, hb⟩
        have R1 := Lib.hid (Q1.out.below hb hl1)
        have R2 := Lib.hid (Q2.out.below hb Q2.out.lt)
        have RB := Lib.hid (QB.out.trans (hb.mono (by omega)))
        clear hb
        go_wp2_with (first | (refine wpList_load_row rfl 24 (.tmp 1) rfl B rfl 24 (icells L 16).toArray (0, 0) _ R1.out rfl rfl (by rw [icells_size]; kernel_rfl) ?_) | (refine wpList_store_row rfl 24 (.tmp 2) (.tmp 39) rfl (B + 1) (icells L 16).toArray rfl rfl 24 _ R2.out (by rw [icells_size]; kernel_rfl) (by rw [icells_size, icells_size]) (icells_one _ _) ?_))
        have hret : Whole (w1.setRow (B + 1) (icells L 16).toArray) (B + 1) 24 (icells L 16).toArray := setRow_heap _ _ _ _ _ _ R2.out
        refine bodyPost_ret (results_cell_row rfl _ _ (B + 1) 24 _ (0, 0) _ rfl hret rfl rfl (by rw [icells_size]; kernel_rfl)) rfl ?_
        exact ⟨by rw [← HF.out, nv, HLL.out], by rw [hB]; exact below_setRow RB.out (by omega) _⟩
      · have hPT := P_T
        have hfin : u - P = v % P := by rw [← hmod, Nat.mod_eq_sub_mod (by omega), Nat.mod_eq_of_lt (by have := P_big; omega)]
        have HLS := Lib.hid (less_any u hlt3 false (by simp [hp]))
        rw [nv] at HLS
        have hm0 := above_P u hlt3 (by omega)
        generalize hL : dg 65536 u = L at q1 HLS hm0
        obtain ⟨x, hx⟩ : ∃ x, x = u - P := ⟨_, rfl⟩
        have l0a : 65517 ≤ L 0 := by omega
        have l0b : L 0 < 65536 := by omega
        have HX0 := Lib.hid (show ((L 0 : Nat) : Int) - 65517 = (x : Nat) by omega)
        have HXL := Lib.hid (show icells (fun i => if i = 0 then x else 0) 16 = icells (dg 65536 x) 16 from icells_congr fun i _ => (dg_one x (by omega) i).symm)
        have HF := Lib.hid (show x = v % P by rw [hx, hfin])
        have Q1 := Lib.hid q1
        have Q2 := Lib.hid q2
        have QB := Lib.hid qb
        clear hmod hlt3 hfin hL q1 q2 qb hPT hm0 hx
        go_wp2_with (refine wpList_load_row rfl 24 (.tmp 1) rfl B rfl 24 (icells L 16).toArray (0, 0) _ Q1.out rfl rfl (by rw [icells_size]; kernel_rfl) ?_)
        refine (HLS.out _).mono ?_
        rintro e w1 ⟨rfl, hb⟩
        have R1 := Lib.hid (Q1.out.below hb hl1)
        have R2 := Lib.hid (Q2.out.below hb Q2.out.lt)
        have RB := Lib.hid (QB.out.trans (hb.mono (by omega)))
        clear hb
        go_upto_region 16 with fail
        refine cut_world (fun X => Whole X B 24 (icells L 16).toArray ∧ Whole X (B + 1) 24 (icells (fun _ => 0) 16).toArray ∧ Whole X w1.heap.size 24 (icells (fun _ => 0) 16).toArray ∧ Below B w X ∧ B + 1 < w1.heap.size) ⟨R1.out.alloc _, R2.out.alloc _, whole_new _ _ rfl, RB.out.alloc (by have := R1.out.lt; omega) _, R2.out.lt⟩ ?_
        rintro X ⟨k1, k2, k3, kb, hG⟩
        generalize w1.heap.size = G at k3 hG ⊢
        have c0 := k1.inum 0 (by omega)
        have d0 := k3.inum 0 (by omega)
        have f0 := k3.free 0
        have h := k3.put 0 (.int .i64 (x : Nat))
        rw [icells_set, HXL.out] at h
        have K2 := Lib.hid (k2.far (p := ⟨G, 0, none⟩) (by show B + 1 ≠ G; omega) (.int .i64 (x : Nat)))
        have K3 := Lib.hid h
        have KB' := Lib.hid (kb.setCell (p := ⟨G, 0, none⟩) (by show B ≤ G; omega) (.int .i64 (x : Nat)))
        clear k1 k2 k3 kb h R1 R2 RB
        go_upto_region 17 with fail
        rw [HX0.out]
        refine cut_world (fun X => Whole X (B + 1) 24 (icells (fun _ => 0) 16).toArray ∧ Whole X G 24 (icells (dg 65536 x) 16).toArray ∧ Below B w X) ⟨K2.out, K3.out, KB'.out⟩ ?_
        clear K2 K3 KB' c0 d0 f0
        rintro Y ⟨k2, k3, kb⟩
        have R2 := Lib.hid k2
        have R3 := Lib.hid k3
        have RB := Lib.hid kb
        clear k2 k3 kb
        go_wp2_with (first | (refine wpList_load_row rfl 24 (.tmp 7) rfl G rfl 24 (icells (dg 65536 x) 16).toArray (0, 0) _ R3.out rfl rfl (by rw [icells_size]; kernel_rfl) ?_) | (refine wpList_store_row rfl 24 (.tmp 2) (.tmp 44) rfl (B + 1) (icells (dg 65536 x) 16).toArray rfl rfl 24 _ R2.out (by rw [icells_size]; kernel_rfl) (by rw [icells_size, icells_size]) (icells_one _ _) ?_))
        have hret : Whole (Y.setRow (B + 1) (icells (dg 65536 x) 16).toArray) (B + 1) 24 (icells (dg 65536 x) 16).toArray := setRow_heap _ _ _ _ _ _ R2.out
        refine bodyPost_ret (results_cell_row rfl _ _ (B + 1) 24 _ (0, 0) _ rfl hret rfl rfl (by rw [icells_size]; kernel_rfl)) rfl ?_
        exact ⟨by rw [← HF.out, nv], by rw [hB]; exact below_setRow RB.out (by omega) _⟩

end RefF
end Go.Proofs.Ytnopjjkijedpeaa
