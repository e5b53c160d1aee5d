/- The call Take of package field. -/
import Derived.Test.YtnopjjkijedpeaaFieldProd
import Derived.Test.YtnopjjkijedpeaaArr
import Derived.Test.YtnopjjkijedpeaaWords
import Derived.Test.YtnopjjkijedpeaaCopy
import Derived.Test.YtnopjjkijedpeaaCatB
import Derived.Test.YtnopjjkijedpeaaBlock
namespace Go.Proofs.Ytnopjjkijedpeaa
namespace Field
open Go.ChangeShapes Go.WideShapes Go.ChangeAt Go.RowKit
open Num Mem Words Radix FieldN Chacha

/-- an element: the limbs of a number -/
def el (v : Nat) : Value := .agg (qcells (dg 2251799813685248 v) 5).toArray

/-- where limb i begins: the byte, and how many digits are left out of it -/
theorem limb_place (i : Nat) (hi : i < 5) : ∃ p s : Nat, (if (24 : Int) < 51 * (i : Int) / 8 then (24 : Int) else 51 * (i : Int) / 8) = (p : Int) ∧ 51 * (i : Int) - 8 * (p : Int) = (s : Int) ∧ p + 8 ≤ 32 ∧ s ≤ 12 ∧ 8 * p + s = 51 * i := by
  refine ⟨min (51 * i / 8) 24, 51 * i - 8 * min (51 * i / 8) 24, ?_, ?_, ?_, ?_, ?_⟩
  · split <;> omega
  all_goals omega

theorem le_part (f : Nat → Nat) (hf : ∀ i, f i < 256) (p k m : Nat) (h : p + k ≤ m) : le f p k = le f 0 m / 2 ^ (8 * p) % 2 ^ (8 * k) := by
  obtain ⟨n, rfl⟩ : ∃ n, m = p + k + n := ⟨m - (p + k), by omega⟩
  have h1 : ∀ n, ∃ x, le f 0 (p + k + n) = le f 0 p + le f p k * 2 ^ (8 * p) + x * 2 ^ (8 * k) * 2 ^ (8 * p) := by
    intro n
    induction n with
    | zero =>
      refine ⟨0, ?_⟩
      rw [Nat.zero_mul, Nat.zero_mul, Nat.add_zero, Nat.add_zero]
      clear h
      induction k with
      | zero => simp [le]
      | succ k ih =>
        rw [show p + (k + 1) = p + k + 1 from rfl, le, ih, show le f p (k + 1) = le f p k + f (p + k) * 2 ^ (8 * k) from rfl, Nat.zero_add, Nat.add_mul, Nat.mul_assoc (f (p + k)), ← Nat.pow_add, show 8 * k + 8 * p = 8 * (p + k) by omega]
        omega
    | succ n ih =>
      obtain ⟨x, hx⟩ := ih
      refine ⟨x + f (p + k + n) * 2 ^ (8 * n), ?_⟩
      rw [show p + k + (n + 1) = p + k + n + 1 from rfl, le, hx, Nat.zero_add, Nat.add_mul, Nat.add_mul, Nat.mul_assoc (f (p + k + n)), Nat.mul_assoc (f (p + k + n)), ← Nat.pow_add, ← Nat.pow_add, show 8 * n + 8 * k + 8 * p = 8 * (p + k + n) by omega]
      omega
  obtain ⟨x, hx⟩ := h1 n
  rw [hx, show le f 0 p + le f p k * 2 ^ (8 * p) + x * 2 ^ (8 * k) * 2 ^ (8 * p) = le f 0 p + (le f p k + x * 2 ^ (8 * k)) * 2 ^ (8 * p) by rw [Nat.add_mul]; omega, Nat.add_mul_div_right _ _ (Nat.two_pow_pos _), Nat.div_eq_of_lt (le_lt hf 0 p), Nat.zero_add, Nat.add_mul_mod_self_right, Nat.mod_eq_of_lt (le_lt hf p k)]

/-- a limb out of eight bytes -/
theorem limb_load (f : Nat → Nat) (hf : ∀ i, f i < 256) (i p s : Nat) (hp : p + 8 ≤ 32) (hs : s ≤ 12) (h : 8 * p + s = 51 * i) :
    bits .and .u64 ((le f p 8 : Int) / 2 ^ s) 2251799813685247 = ((dg 2251799813685248 (le f 0 32) i : Nat) : Int) := by
  have hv : le f p 8 < 18446744073709551616 := le_lt hf p 8
  rw [show ((le f p 8 : Nat) : Int) / 2 ^ s = ((le f p 8 / 2 ^ s : Nat) : Int) by rw [Int.natCast_ediv, Int.natCast_pow]; rfl, and51 _ (Nat.lt_of_le_of_lt (Nat.div_le_self _ _) hv)]
  congr 1
  rw [le_part f hf p 8 32 hp, dg, show (2251799813685248 : Nat) = 2 ^ 51 from rfl, ← Nat.pow_mul, ← h, Nat.pow_add, ← Nat.div_div_eq_div_mul]
  generalize le f 0 32 / 2 ^ (8 * p) = v
  rw [show (2 : Nat) ^ (8 * 8) = 2 ^ s * 2 ^ (64 - s) by rw [← Nat.pow_add]; congr 1; omega, Nat.mod_mul_right_div_self, show (2 : Nat) ^ (64 - s) = 2 ^ 51 * 2 ^ (13 - s) by rw [← Nat.pow_add]; congr 1; omega, Nat.mod_mul_right_mod]

theorem dg_take (v i : Nat) (hi : i < 5) : dg 2251799813685248 v i = dg 2251799813685248 (v % T) i := by
  rw [← T_pow, dg_mod (by omega) v i 5 hi]

set_option maxRecDepth 100000 in
theorem take_any (f : Nat → Nat) (hf : ∀ i, f i < 256) (w : World) :
    Calls Try.prog 19 #[.agg (byteCells f 32).toArray] w fun e w' => e = .returned (el (tk f)) ∧ Below w.heap.size w w' := by
  have HF := Lib.hid hf
  clear hf
  obtain ⟨G, hG⟩ : ∃ G, G = dg 2251799813685248 (le f 0 32) := ⟨_, rfl⟩
  have HG := Lib.hid hG
  have HT := Lib.hid (show rv 2251799813685248 G 5 % P = tk f by rw [hG, rv_dg, T_pow]; rfl)
  have HV := Lib.hid (show rv 2251799813685248 G 5 < 2 * P by
    rw [hG, rv_dg, T_pow]
    have h1 := P_T
    have h2 := P_big
    have := Nat.mod_lt (le f 0 32) (show 0 < T by omega)
    omega)
  have HB := Lib.hid (show ∀ i, i < 5 → G i < 9223372036854775808 from fun i _ => by
    have := dg_lt (X := 2251799813685248) (by omega) (le f 0 32) i
    rw [hG]
    omega)
  clear hG
  rw [byteCells_lit32]
  go_enter Try.func19, Try.ntmps19
  go_upto_region 2 with fail
  refine cut_world (fun W => Whole W w.heap.size 22 (byteCells f 32).toArray ∧ Whole W (w.heap.size + 1) 38 (qcells (fun _ => 0) 5).toArray ∧ Whole W (w.heap.size + 1 + 1) 38 (qcells (fun _ => 0) 5).toArray ∧ Below w.heap.size w W) ⟨?_, ?_, ?_, ?_⟩ ?_
  · rw [byteCells_lit32]
    exact ((whole_new _ _ rfl).alloc _).alloc _
  · exact (whole_new _ _ (by simp)).alloc _
  · exact whole_new _ _ (by simp)
  · exact below_alloc (below_alloc (below_alloc (Below.refl _ _) _) _) _
  rintro W ⟨k1, k2, k3, kb⟩
  have K1 := Lib.hid k1
  have K2 := Lib.hid k2
  have K3 := Lib.hid k3
  have KB := Lib.hid kb
  clear k1 k2 k3 kb
  generalize hB : w.heap.size = B at K1 K2 K3 KB ⊢
  go_wp2_with fail
  go_loopw [8] (fun i wr => ∃ k : Nat, k ≤ 5 ∧ i = .int .i64 k ∧ Whole wr B 22 (byteCells f 32).toArray ∧ Whole wr (B + 1) 38 (qcells (fun _ => 0) 5).toArray ∧ Whole wr (B + 1 + 1) 38 (qcells (fun i => if i < k then G i else 0) 5).toArray ∧ Below B w wr) (fun i _ => 5 - (intOf i).toNat)
  case atStart => exact ⟨0, by omega, rfl, K1.out, K2.out, K3.out, KB.out⟩
  case round =>
    obtain ⟨k, hk, rfl, q1, q2, q3, qb⟩ := hrel
    by_cases hlt : k < 5
    · have f1 := q3.free k
      have c1 := q3.num k hlt
      have Q1 := Lib.hid q1
      have Q2 := Lib.hid q2
      have Q3 := Lib.hid q3
      have QB := Lib.hid qb
      obtain ⟨p, s, hp, hs, h17, hs6, hps⟩ := limb_place k hlt
      have HL := Lib.hid (limb_load f HF.out k p s h17 hs6 hps)
      have hv : le f p 8 < 18446744073709551616 := le_lt HF.out p 8
      rw [← HG.out] at HL
      have HV := Lib.hid hv
      have HPI := Lib.hid hp
      have HSI := Lib.hid hs
      clear q1 q2 q3 qb hp hs hps hv
      go_upto_region 6 with fail
      rw [HPI.out]
      go_upto_region 7 with (go_at_call 41; refine (load64_ok B 0 32 32 f HF.out p h17 (by omega) _ (fun i hi => Q1.out.bytes i hi)).mono ?_; rintro e w1 ⟨rfl, rfl⟩)
      go_wp2_with (rw [HSI.out])
      rw [HL.out]
      go_roundw
      case rel =>
        refine ⟨k + 1, by omega, by go_num, Q1.out.far (by simp; omega) _, Q2.out.far (by simp) _, ?_, QB.out.setCell (by simp; omega) _⟩
        have h := Q3.out.put k (.int .u64 (G k : Nat))
        rw [qcells_set, qcells_congr (g := fun i => if i < k + 1 then G i else 0) (fun i hi => ?_)] at h
        · exact h
        · by_cases e : i = k
          · subst e
            rw [if_pos rfl, if_pos (by omega)]
          · rw [if_neg e]
            by_cases l : i < k
            · rw [if_pos l, if_pos (by omega)]
            · rw [if_neg l, if_neg (by omega)]
      case measure => simp [intOf]; omega
    · obtain rfl : k = 5 := by omega
      rw [qcells_congr (g := G) (fun i hi => if_pos hi)] at q3
      have Q2 := Lib.hid q2
      have Q3 := Lib.hid q3
      have QB := Lib.hid qb
      clear q1 q2 q3 qb
      go_wp2_with fail
      refine (lower_any (B + 1 + 1) G HB.out HV.out _ Q3.out).mono ?_
      rintro e w1 ⟨rfl, h1, h2⟩
      have R2 := Lib.hid (whole_grown Q2.out h2 (by omega))
      have RB := Lib.hid (below_grown QB.out h2 (by omega) (by have := QB.out.size; omega))
      rw [HT.out] at h1
      have R3 := Lib.hid h1
      clear h1 h2
      generalize hL : dg 2251799813685248 (tk f) = L at R3
      have HL := Lib.hid hL
      clear hL
      go_wp2_with (first | (refine wpList_load_row rfl 38 (.tmp 3) rfl (B + 1 + 1) rfl 38 (qcells L 5).toArray (0, 0) _ R3.out rfl rfl (by rw [qcells_size]; kernel_rfl) ?_) | (refine wpList_store_row rfl 38 (.tmp 2) (.tmp 34) rfl (B + 1) (qcells L 5).toArray rfl rfl 38 _ R2.out (by rw [qcells_size]; kernel_rfl) (by rw [qcells_size, qcells_size]) (qcells_one _ _) ?_))
      have hret : Whole (w1.setRow (B + 1) (qcells L 5).toArray) (B + 1) 38 (qcells L 5).toArray := setRow_heap w1 _ _ _ _ _ R2.out
      refine bodyPost_ret (results_cell_row rfl _ _ (B + 1) 38 _ (0, 0) _ rfl hret rfl rfl (by rw [qcells_size]; kernel_rfl)) rfl ?_
      exact ⟨by rw [el, HL.out], by rw [hB]; exact below_setRow RB.out (by omega) _⟩

end Field
end Go.Proofs.Ytnopjjkijedpeaa
