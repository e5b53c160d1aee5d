/- The document's own answers of layer 5 (package aditref05): Mul. -/
import Derived.Test.YtnopjjkijedpeaaRefOps
namespace Go.Proofs.Ytnopjjkijedpeaa
namespace RefF
open Go.ChangeShapes Go.WideShapes Go.ChangeAt Go.RowKit
open Num Mem Words Radix FieldN Chacha Quiet

theorem rv_none (X n : Nat) : rv X (fun _ => 0) n = 0 := by
  induction n with
  | zero => rfl
  | succ n ih => rw [rv, ih, Nat.zero_mul]

theorem rv_bump (X : Nat) (t : Nat → Nat) (m v : Nat) : ∀ n, m < n → rv X (fun k => if k = m then t m + v else t k) n = rv X t n + v * X ^ m
  | 0, h => by omega
  | n + 1, h => by
    by_cases e : m = n
    · subst e
      rw [rv, rv, if_pos rfl, rv_congr (b := t) m (fun i hi => if_neg (by omega)), Nat.add_mul]
      omega
    · rw [rv, rv_bump X t m v n (by omega), if_neg (by omega), rv]
      omega

theorem rv_split (X : Nat) (t : Nat → Nat) (n : Nat) : ∀ k, rv X t (n + k) = rv X t n + X ^ n * rv X (fun i => t (i + n)) k
  | 0 => by simp [rv]
  | k + 1 => by
    rw [show n + (k + 1) = n + k + 1 from rfl, rv, rv_split X t n k, rv, Nat.mul_add, Nat.pow_add, Nat.add_comm k n, show X ^ n * (t (n + k) * X ^ k) = t (n + k) * (X ^ n * X ^ k) by ac_rfl]
    omega

theorem rv_mul38 (X : Nat) (t : Nat → Nat) : ∀ k, rv X (fun i => 38 * t i) k = 38 * rv X t k
  | 0 => rfl
  | k + 1 => by rw [rv, rv, rv_mul38 X t k, Nat.mul_add, Nat.mul_assoc]

/-- a product's limbs come back below 2^256 -/
theorem fold_val (t : Nat → Nat) (S : Nat) (h : rv 65536 t 31 = S) : rv 65536 (fun i => if i < 15 then t i + 38 * t (i + 16) else t i) 16 % P = S % P := by
  have h1 := rv_split 65536 t 16 15
  rw [show 16 + 15 = 31 from rfl, h, M_pow] at h1
  have h2 : rv 65536 (fun i => if i < 15 then t i + 38 * t (i + 16) else t i) (15 + 1) = rv 65536 t (15 + 1) + 38 * rv 65536 (fun i => t (i + 16)) 15 := by
    rw [rv, rv_congr (b := fun i => t i + 38 * t (i + 16)) 15 (fun i hi => if_pos hi), rv_add, rv_mul38 65536 (fun i => t (i + 16)), if_neg (by omega), show rv 65536 t (15 + 1) = rv 65536 t 15 + t 15 * 65536 ^ 15 from rfl]
    omega
  rw [show 15 + 1 = 16 from rfl] at h2
  rw [h2, h1]
  generalize rv 65536 (fun i => t (i + 16)) 15 = H
  rw [M_P, show rv 65536 t 16 + (38 + 2 * P) * H = rv 65536 t 16 + 38 * H + P * (2 * H) by rw [Nat.add_mul, show 2 * P * H = P * (2 * H) by ac_rfl]; omega, Nat.add_mul_mod_self_left]

theorem icells_lit31 : (icells (fun _ => 0) 31).toArray = #[.int .i64 0, .int .i64 0, .int .i64 0, .int .i64 0, .int .i64 0, .int .i64 0, .int .i64 0, .int .i64 0, .int .i64 0, .int .i64 0, .int .i64 0, .int .i64 0, .int .i64 0, .int .i64 0, .int .i64 0, .int .i64 0, .int .i64 0, .int .i64 0, .int .i64 0, .int .i64 0, .int .i64 0, .int .i64 0, .int .i64 0, .int .i64 0, .int .i64 0, .int .i64 0, .int .i64 0, .int .i64 0, .int .i64 0, .int .i64 0, .int .i64 0] := rfl

/-- what lies in memory while the products are summed -/
def MW (w : World) (B : Nat) (x y : Nat → Nat) (X : World) : Prop :=
  Whole X B 24 (icells x 16).toArray ∧ Whole X (B + 1) 24 (icells y 16).toArray ∧ Whole X (B + 1 + 1) 24 (icells (fun _ => 0) 16).toArray ∧ Below B w X
theorem mw_put {w X : World} {B i : Nat} {x y : Nat → Nat} {v : Value} (h : MW w B x y X) : MW w B x y (X.setCell ⟨B + 1 + 1 + 1, i, none⟩ v) := by
  obtain ⟨h1, h2, h3, h4⟩ := h
  exact ⟨h1.far (by show B ≠ B + 1 + 1 + 1; omega) _, h2.far (by show B + 1 ≠ B + 1 + 1 + 1; omega) _, h3.far (by show B + 1 + 1 ≠ B + 1 + 1 + 1; omega) _, h4.setCell (by show B ≤ B + 1 + 1 + 1; omega) _⟩

theorem top_small (t : Nat → Nat) (ht : ∀ i, i < 16 → t i < 70368744177664) : rv 65536 t 16 / M256 < 2147483648 := by
  have h := cy_div (X := 65536) (by omega) t 0 16
  rw [M_pow, Nat.add_zero] at h
  rw [← h]
  exact cy_lt (X := 65536) t 0 16 2147483648 (by omega) (fun i c hi hc => by have := ht i hi; omega) 16 (by omega)

theorem mul_step (x y t : Nat) (hx : x < 65536) (hy : y < 65536) (ht : t ≤ 256 * 4294836225) : IntKind.i64.wrap ((t : Int) + IntKind.i64.wrap ((x : Int) * (y : Int))) = ((t + x * y : Nat) : Int) := by
  have h : x * y ≤ 65535 * 65535 := Nat.mul_le_mul (by omega) (by omega)
  have e : (x : Int) * (y : Int) = ((x * y : Nat) : Int) := by rw [Int.natCast_mul]
  rw [e]
  generalize x * y = z at h
  rw [IntKind.wrap_i64, IntKind.wrap_i64]
  omega
theorem mul_bound (x y t n : Nat) (hx : x < 65536) (hy : y < 65536) (ht : t ≤ n * 4294836225) : t + x * y ≤ (n + 1) * 4294836225 := by
  have h : x * y ≤ 65535 * 65535 := Nat.mul_le_mul (by omega) (by omega)
  omega

set_option maxRecDepth 100000 in
theorem mul_any (a b : Nat) (ha : a < M256) (hb : b < M256) (w : World) :
    Calls Try.prog 23 #[nv a, nv b] w fun e w' => ∃ v, v < M256 ∧ v % P = a * b % P ∧ e = .returned (nv v) ∧ Below w.heap.size w w' := by
  obtain ⟨x, hx⟩ : ∃ x, x = dg 65536 a := ⟨_, rfl⟩
  obtain ⟨y, hy⟩ : ∃ y, y = dg 65536 b := ⟨_, rfl⟩
  have HX := Lib.hid (show ∀ i, x i < 65536 from fun i => by rw [hx]; exact lim_lt a i)
  have HY := Lib.hid (show ∀ i, y i < 65536 from fun i => by rw [hy]; exact lim_lt b i)
  have HXV := Lib.hid (show rv 65536 x 16 = a by rw [hx, rv_lim a ha])
  have HYV := Lib.hid (show rv 65536 y 16 = b by rw [hy, rv_lim b hb])
  rw [nv, nv, ← hx, ← hy, icells_lit16 x, icells_lit16 y]
  clear hx hy ha hb
  go_enter Try.func23, Try.ntmps23
  go_upto_region 2 with fail
  rw [← icells_lit16 x, ← icells_lit16 y]
  refine cut_world (fun W => MW w w.heap.size x y W ∧ Whole W (w.heap.size + 1 + 1 + 1) 67 (icells (fun _ => 0) 31).toArray) ⟨⟨?_, ?_, ?_, ?_⟩, ?_⟩ ?_
  · exact (((whole_new _ _ rfl).alloc _).alloc _).alloc _
  · exact ((whole_new _ _ (by simp)).alloc _).alloc _
  · rw [icells_lit16 fun _ => 0]
    exact (whole_new _ _ (by simp)).alloc _
  · exact below_alloc (below_alloc (below_alloc (below_alloc (Below.refl _ _) _) _) _) _
  · rw [icells_lit31]
    exact whole_new _ _ (by simp)
  rintro W ⟨k1, k2⟩
  have K1 := Lib.hid k1
  have K2 := Lib.hid k2
  clear k1 k2
  generalize hB : w.heap.size = B at K1 K2 ⊢
  go_wp2_with fail
  go_loopw [6] (fun i wr => ∃ (k : Nat) (t : Nat → Nat), k ≤ 16 ∧ i = .int .i64 k ∧ rv 65536 t 31 = rv 65536 x k * b ∧ (∀ i, t i ≤ 16 * k * 4294836225) ∧ MW w B x y wr ∧ Whole wr (B + 1 + 1 + 1) 67 (icells t 31).toArray) (fun i _ => 16 - (intOf i).toNat)
  case atStart => exact ⟨0, fun _ => 0, by omega, rfl, by rw [rv_none]; simp [rv], fun _ => by simp, K1.out, K2.out⟩
  case round =>
    obtain ⟨i, t, hi, rfl, hval, hbd, q1, q2⟩ := hrel
    have HVAL := Lib.hid hval
    have HBD := Lib.hid hbd
    have Q1 := Lib.hid q1
    have Q2 := Lib.hid q2
    clear hval hbd q1 q2
    by_cases hli : i < 16
    · have i2 : (i : Int) < 16 := by omega
      go_wp2_with fail
      go_loopw [7] (fun j wr => ∃ (k : Nat) (t : Nat → Nat), k ≤ 16 ∧ j = .int .i64 k ∧ rv 65536 t 31 = rv 65536 x i * b + x i * 65536 ^ i * rv 65536 y k ∧ (∀ q, t q ≤ (16 * i + k) * 4294836225) ∧ MW w B x y wr ∧ Whole wr (B + 1 + 1 + 1) 67 (icells t 31).toArray) (fun j _ => 16 - (intOf j).toNat)
      case atStart => exact ⟨0, t, by omega, rfl, by rw [HVAL.out]; simp [rv], fun q => HBD.out q, Q1.out, Q2.out⟩
      case round =>
        obtain ⟨j, t, hj, rfl, hval, hbd, q1, q2⟩ := hrel
        by_cases hlj : j < 16
        · obtain ⟨m, hm⟩ : ∃ m, m = i + j := ⟨_, rfl⟩
          have hm31 : m < 31 := by omega
          have c1 := q1.1.inum i hli
          have c2 := q1.2.1.inum j hlj
          have c3 := q2.inum m hm31
          have f3 := q2.free m
          have i1 : (m : Int) < 31 := by omega
          have i3 : (j : Int) < 16 := by omega
          have HI := Lib.hid (show IntKind.i64.wrap ((i : Int) + (j : Int)) = (m : Int) by rw [IntKind.wrap_i64]; omega)
          have hb1 := mul_bound (x i) (y j) (t m) (16 * i + j) (HX.out i) (HY.out j) (hbd m)
          have HS := Lib.hid (mul_step (x i) (y j) (t m) (HX.out i) (HY.out j) (Nat.le_trans (hbd m) (Nat.mul_le_mul_right _ (by omega))))
          have hv2 := rv_bump 65536 t m (x i * y j) 31 hm31
          have HVN := Lib.hid (show rv 65536 (fun k => if k = m then t m + x i * y j else t k) 31 = rv 65536 x i * b + x i * 65536 ^ i * rv 65536 y (j + 1) by
            rw [hv2, hval, rv, Nat.mul_add, hm, Nat.pow_add, show x i * 65536 ^ i * (y j * 65536 ^ j) = x i * y j * (65536 ^ i * 65536 ^ j) by ac_rfl, Nat.add_assoc])
          have HBN := Lib.hid (show ∀ q, (fun k => if k = m then t m + x i * y j else t k) q ≤ (16 * i + (j + 1)) * 4294836225 from fun q => by
            show (if q = m then t m + x i * y j else t q) ≤ _
            split
            · rw [← Nat.add_assoc]; exact hb1
            · exact Nat.le_trans (hbd q) (Nat.mul_le_mul_right _ (by omega)))
          have R1 := Lib.hid q1
          have R2 := Lib.hid q2
          have HME := Lib.hid hm
          clear hval hbd q1 q2 hb1 hv2 hm
          go_wp2_with fail
          refine wp_region_still_tail 16 (by kernel_rfl) (by kernel_rfl) ?_
          simp only [List.take_succ_cons, List.take_zero, List.drop_succ_cons, List.drop_zero]
          repeat still_step
          rw [HI.out]
          repeat still_step
          refine wpStill_nil ?_
          change wpList _ _ _ _ _ wr.drew
          rw [HS.out]
          go_wp2_with fail
          go_roundw
          case rel =>
            refine ⟨j + 1, _, by omega, by go_num, HVN.out, HBN.out, mw_put ⟨R1.out.1.drew, R1.out.2.1.drew, R1.out.2.2.1.drew, below_drewN R1.out.2.2.2 1⟩, ?_⟩
            have h := R2.out.drew.put m (.int .i64 (t m + x i * y j : Nat))
            rw [icells_set] at h
            exact h
          case measure => simp [intOf]; omega
        · obtain rfl : j = 16 := by omega
          have HV2 := Lib.hid (show rv 65536 t 31 = rv 65536 x (i + 1) * b by rw [hval, HYV.out, rv, Nat.add_mul])
          have HB2 := Lib.hid (show ∀ q, t q ≤ 16 * (i + 1) * 4294836225 from fun q => by
            have := hbd q
            rw [show 16 * (i + 1) = 16 * i + 16 by omega]
            exact this)
          have R1 := Lib.hid q1
          have R2 := Lib.hid q2
          clear hval hbd q1 q2
          go_wp2_with fail
          go_roundw
          case rel => exact ⟨i + 1, t, by omega, by go_num, HV2.out, HB2.out, R1.out, R2.out⟩
          case measure => simp [intOf]; omega
    · obtain rfl : i = 16 := by omega
      obtain ⟨z, hz⟩ : ∃ z : Nat → Nat, z = fun i => if i < 15 then t i + 38 * t (i + 16) else t i := ⟨_, rfl⟩
      have HZL := Lib.hid (show ∀ i, i < 16 → z i < 70368744177664 from fun i _ => by
        have h1 := HBD.out i
        have h2 := HBD.out (i + 16)
        rw [hz]
        show (if i < 15 then t i + 38 * t (i + 16) else t i) < _
        split <;> omega)
      have HZM := Lib.hid (show rv 65536 z 16 % P = a * b % P by rw [hz]; exact fold_val t (a * b) (by rw [HVAL.out, HXV.out]))
      have HZA := Lib.hid (show ∀ i, i < 15 → z i = t i + 38 * t (i + 16) from fun i hi => by rw [hz]; exact if_pos hi)
      have HZB := Lib.hid (show z 15 = t 15 by rw [hz]; exact if_neg (by omega))
      have HZT := Lib.hid (show ∀ q, t q < 1200000000000 from fun q => by have := HBD.out q; omega)
      have K4 := Q2
      have hb4 := Q2.out.lt
      clear hz
      rw [show ((16 : Nat) : Int) = 16 from rfl]
      obtain ⟨X, hX⟩ : ∃ X, X = wr := ⟨_, rfl⟩
      subst hX
      go_wp2_with fail
      go_loopw [8, 9] (fun o i wr' => ∃ (k : Nat) (A : Option Addr) (c : Nat), k ≤ 16 ∧ i = .int .i64 k ∧ o = .slice A k c ∧ OwnI wr' (B + 1 + 1 + 1 + 1) A k c z ∧ Below (B + 1 + 1 + 1 + 1) X wr' ∧ B + 1 + 1 + 1 + 1 ≤ wr'.heap.size) (fun _ i _ => 16 - (intOf i).toNat)
      case atStart => exact ⟨0, none, 0, by omega, rfl, rfl, OwnI.nil _ _ _, Below.refl _ _, hb4⟩
      case round =>
        obtain ⟨k, A, c, hk, rfl, rfl, ho, hbl, hsz⟩ := hrel
        have HO := Lib.hid ho
        have HL := Lib.hid hbl
        clear ho hbl
        by_cases hlt : k < 16
        · have ik : (k : Int) < 16 := by omega
          by_cases h15 : k < 15
          · have hd15 : decide ((k : Int) < 15) = true := decide_eq_true (by omega)
            obtain ⟨m, hm⟩ : ∃ m, m = k + 16 := ⟨_, rfl⟩
            have i1 : (m : Int) < 31 := by omega
            have i4 : (k : Int) < 31 := by omega
            have t1 := HZT.out k
            have t2 := HZT.out m
            have HM16 := Lib.hid (show IntKind.i64.wrap ((k : Int) + 16) = (m : Int) by rw [IntKind.wrap_i64]; omega)
            have HS := Lib.hid (show IntKind.i64.wrap ((t k : Int) + IntKind.i64.wrap (38 * (t m : Int))) = (z k : Int) by rw [HZA.out k h15, ← hm, IntKind.wrap_i64, IntKind.wrap_i64]; omega)
            have HME := Lib.hid hm
            have hm31 : m < 31 := by omega
            clear hm
            go_wp2_with fail
            refine region_drew (fun Y => Below (B + 1 + 1 + 1 + 1) X Y ∧ B + 1 + 1 + 1 + 1 ≤ Y.heap.size) rfl ⟨below_drewN HL.out 1, hsz⟩ ?_
            intro hS
            refine take 0 _ rfl (by kernel_rfl) (by kernel_rfl) (by kernel_rfl) (fun _ _ _ h => h) (by rfl) hS (by intro w _; go_simp; with_reducible rfl) ?_
            try simp only [Act.put, List.setIfInBounds_toArray, List.set_cons_zero, List.set_cons_succ]
            refine take 1 _ rfl (by kernel_rfl) (by kernel_rfl) (by kernel_rfl) (fun _ _ _ h => h) (by rfl) hS (by intro w _; go_simp; with_reducible rfl) ?_
            try simp only [Act.put, List.setIfInBounds_toArray, List.set_cons_zero, List.set_cons_succ]
            refine take 2 _ rfl (by kernel_rfl) (by kernel_rfl) (by kernel_rfl) (fun _ _ _ h => h) (by rfl) hS (by intro w _; go_simp; with_reducible rfl) ?_
            try simp only [Act.put, List.setIfInBounds_toArray, List.set_cons_zero, List.set_cons_succ]
            refine take 3 _ rfl (by kernel_rfl) (by kernel_rfl) (by kernel_rfl) (fun _ _ _ h => h) (by rfl) hS (by intro w hw; have hcl := (K4.out.below hw.1 (by omega)).inum k (by omega); go_simp; with_reducible rfl) ?_
            try simp only [Act.put, List.setIfInBounds_toArray, List.set_cons_zero, List.set_cons_succ]
            refine take 4 _ rfl (by kernel_rfl) (by kernel_rfl) (by kernel_rfl) (fun _ _ _ h => h) (by rfl) hS (by intro w _; go_simp; with_reducible rfl) ?_
            try simp only [Act.put, List.setIfInBounds_toArray, List.set_cons_zero, List.set_cons_succ]
            refine take 5 _ rfl (by kernel_rfl) (by kernel_rfl) (by kernel_rfl) (fun _ _ _ h => h) (by rfl) hS (by intro w _; go_simp; with_reducible rfl) ?_
            try simp only [Act.put, List.setIfInBounds_toArray, List.set_cons_zero, List.set_cons_succ]
            rw [HM16.out]
            refine take 6 _ rfl (by kernel_rfl) (by kernel_rfl) (by kernel_rfl) (fun _ _ _ h => h) (by rfl) hS (by intro w _; go_simp; with_reducible rfl) ?_
            try simp only [Act.put, List.setIfInBounds_toArray, List.set_cons_zero, List.set_cons_succ]
            refine take 7 _ rfl (by kernel_rfl) (by kernel_rfl) (by kernel_rfl) (fun _ _ _ h => h) (by rfl) hS (by intro w hw; have hcl := (K4.out.below hw.1 (by omega)).inum m (by omega); go_simp; with_reducible rfl) ?_
            try simp only [Act.put, List.setIfInBounds_toArray, List.set_cons_zero, List.set_cons_succ]
            refine take 8 _ rfl (by kernel_rfl) (by kernel_rfl) (by kernel_rfl) (fun _ _ _ h => h) (by rfl) hS (by intro w _; go_simp; with_reducible rfl) ?_
            try simp only [Act.put, List.setIfInBounds_toArray, List.set_cons_zero, List.set_cons_succ]
            refine take 9 _ rfl (by kernel_rfl) (by kernel_rfl) (by kernel_rfl) (fun _ _ _ h => h) (by rfl) hS (by intro w _; go_simp; with_reducible rfl) ?_
            try simp only [Act.put, List.setIfInBounds_toArray, List.set_cons_zero, List.set_cons_succ]
            rw [HS.out]
            refine alone 10 rfl (by kernel_rfl) (by rfl) ?_
            intro K hK
            go_simp
            have hS1 := ops_alloc (o := .cells #[.int .i64 (z k : Nat)] 2) hS
            refine hK.out _ _ hS1 ?_
            clear hK K
            try simp only [Act.put, List.setIfInBounds_toArray, List.set_cons_zero, List.set_cons_succ]
            clear hS1
            refine alone 11 rfl (by kernel_rfl) (by rfl) ?_
            intro K hK
            refine wp_pushI (W := X) _ _ rfl rfl rfl HO.out.drew hS.1 hS.2 rfl (by omega) ?_
            intro A2 c2' w1 hown1 hbel1 hsz1 _
            have HO1 := Lib.hid hown1
            have hS1 : Below (B + 1 + 1 + 1 + 1) X w1 ∧ B + 1 + 1 + 1 + 1 ≤ w1.heap.size := ⟨hbel1, hsz1⟩
            clear hown1 hbel1 hsz1 hS
            refine hK.out _ _ hS1 ?_
            clear hK K
            have hS := hS1
            clear hS1
            try simp only [Act.put, List.setIfInBounds_toArray, List.set_cons_zero, List.set_cons_succ]
            refine take 12 _ rfl (by kernel_rfl) (by kernel_rfl) (by kernel_rfl) (fun _ _ _ h => h) (by rfl) hS (by intro w _; go_simp; with_reducible rfl) ?_
            try simp only [Act.put, List.setIfInBounds_toArray, List.set_cons_zero, List.set_cons_succ]
            refine region_end (by kernel_rfl) ?_
            have HS1 := Lib.hid hS
            clear hS
            go_wp2_with fail
            go_roundw
            case rel => exact ⟨k + 1, A2, c2', by omega, by go_num, rfl, HO1.out, HS1.out.1, HS1.out.2⟩
            case measure => simp [intOf]; omega
          · obtain rfl : k = 15 := by omega
            have hc1 := (K4.out.below HL.out (by omega)).inum 15 (by omega)
            rw [show ((15 : Nat) : Int) = 15 from rfl]
            have HZ15 := Lib.hid (show ((t 15 : Nat) : Int) = (z 15 : Nat) by rw [HZB.out])
            go_wp2_with (at_builtin; rw [HZ15.out]; refine wpList_pushI (W := X) rfl _ _ rfl rfl rfl HO.out HL.out hsz rfl (by omega) ?_; intro A2 c2' w1 hown1 hbel1 hsz1 _; have HO1 := Lib.hid hown1; have HL1 := Lib.hid hbel1; clear hown1 hbel1)
            go_roundw
            case rel => exact ⟨15 + 1, A2, c2', by omega, by go_num, rfl, HO1.out, HL1.out, by omega⟩
            case measure => simp [intOf]
        · obtain rfl : k = 16 := by omega
          obtain ⟨g, rfl, hg1, hg2⟩ := HO.out.at (by omega)
          go_wp2_with fail
          refine (carry_any (B + 1 + 1 + 1 + 1) g c z HZL.out _ HO.out hg1).mono ?_
          rintro e w1 ⟨rfl, hb1⟩
          have R3 := Lib.hid ((Q1.out.2.2.1.below HL.out (by omega)).below hb1 (by omega))
          have RB := Lib.hid (Q1.out.2.2.2.trans ((HL.out.trans hb1).mono (by omega)))
          clear hb1
          have HVV := Lib.hid (show cv (cv (rv 65536 z 16)) < M256 from cv_two (top_small z HZL.out))
          have HVM := Lib.hid (show cv (cv (rv 65536 z 16)) % P = a * b % P by rw [cv_mod, cv_mod, HZM.out])
          generalize cv (cv (rv 65536 z 16)) = v at HVV HVM ⊢
          generalize hL : dg 65536 v = L
          have HLL := Lib.hid hL
          clear hL
          go_wp2_with (refine wpList_store_row rfl 24 (.tmp 4) (.tmp 60) rfl (B + 1 + 1) (icells L 16).toArray rfl rfl 24 _ R3.out (by rw [icells_size]; kernel_rfl) (by rw [icells_size, icells_size]) (icells_one _ _) ?_)
          have hret : Whole (w1.setRow (B + 1 + 1) (icells L 16).toArray) (B + 1 + 1) 24 (icells L 16).toArray := setRow_heap _ _ _ _ _ _ R3.out
          refine bodyPost_ret (results_cell_row rfl _ _ (B + 1 + 1) 24 _ (0, 0) _ rfl hret rfl rfl (by rw [icells_size]; kernel_rfl)) rfl ?_
          exact ⟨v, HVV.out, HVM.out, by rw [nv, HLL.out], by rw [hB]; exact below_setRow RB.out (by omega) _⟩

end RefF
end Go.Proofs.Ytnopjjkijedpeaa
