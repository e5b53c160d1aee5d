/- The document's own answers of layer 5 (package aditref05): Power, Invert. -/
import Derived.Test.YtnopjjkijedpeaaRefTake
import Derived.Test.YtnopjjkijedpeaaFieldPower
namespace Go.Proofs.Ytnopjjkijedpeaa
namespace RefF
open Go.ChangeShapes Go.WideShapes Go.ChangeAt Go.RowKit
open Num Mem Words Radix FieldN Chacha Quiet
open Go.Proofs.Ytnopjjkijedpeaa.Field (pw pw_lt pw_zero pw_even pw_odd pw_all le_bit)

theorem and_small : ∀ x, x < 256 → ∀ j, j < 8 → (x &&& (128 / 2 ^ j) = 0 ↔ x / 2 ^ (7 - j) % 2 = 0) := by decide +kernel
theorem and_bit (x j : Nat) (hx : x < 256) (hj : j < 8) : (bits .and .u8 (x : Int) ((128 / 2 ^ j : Nat) : Int) != 0) = decide (x / 2 ^ (7 - j) % 2 = 1) := by
  have hp : 128 / 2 ^ j < 256 := Nat.lt_of_le_of_lt (Nat.div_le_self _ _) (by omega)
  rw [u8_and_nat x (128 / 2 ^ j) hx hp]
  have h := and_small x hx j hj
  generalize x &&& (128 / 2 ^ j) = z at h
  by_cases hz : z = 0
  · have := h.1 hz
    rw [hz, decide_eq_false (by omega)]
    rfl
  · have h2 : ¬ x / 2 ^ (7 - j) % 2 = 0 := fun e => hz (h.2 e)
    rw [decide_eq_true (by omega), bne_iff_ne]
    omega

set_option maxRecDepth 100000 in
theorem power_any (a : Nat) (ha : a < M256) (A : Option Addr) (c : Nat) (f : Nat → Nat) (hf : ∀ i, f i < 256) (w : World) (hr : Rd w A 32 f) :
    Calls Try.prog 48 #[nv a, .slice A 32 c] w fun e w' => ∃ v, v < M256 ∧ v % P = a ^ le f 0 32 % P ∧ e = .returned (nv v) ∧ Below w.heap.size w w' := by
  rcases hr with h0 | ⟨b, off, rfl, hblk, hcell⟩
  · omega
  obtain ⟨E, hE⟩ : ∃ E, E = le f 0 32 := ⟨_, rfl⟩
  have HBIT := Lib.hid (le_bit f hf)
  rw [← hE] at HBIT ⊢
  have HZ := Lib.hid (show 1 % P = pw a E 0 by rw [pw_zero a E (by rw [hE]; exact le_lt hf 0 32), Nat.mod_eq_of_lt (by have := P_big; omega)])
  have HC := Lib.hid hcell
  have HF := Lib.hid hf
  have HA := Lib.hid ha
  obtain ⟨x, hx⟩ : ∃ x, x = dg 65536 a := ⟨_, rfl⟩
  have HX := Lib.hid hx
  have HS1 := Lib.hid (small_any 1 (by omega))
  rw [nv] at HS1
  rw [nv, ← hx, icells_lit16 x]
  clear hE hcell hf ha hx
  go_enter Try.func48, Try.ntmps48
  go_upto_region 1 with fail
  rw [← icells_lit16 x]
  refine cut_world (fun W => Whole W w.heap.size 24 (icells x 16).toArray ∧ Whole W (w.heap.size + 1) 24 (icells (fun _ => 0) 16).toArray ∧ Below w.heap.size w W) ⟨?_, ?_, ?_⟩ ?_
  · exact (whole_new _ _ rfl).alloc _
  · rw [icells_lit16 fun _ => 0]
    exact whole_new _ _ (by simp)
  · exact below_alloc (below_alloc (Below.refl _ _) _) _
  rintro W ⟨k1, k2, kb⟩
  have K1 := Lib.hid k1
  have K2 := Lib.hid k2
  have KB := Lib.hid kb
  have hw2 := k2.lt
  clear k1 k2 kb
  generalize hB : w.heap.size = B at K1 K2 KB hblk hw2 ⊢
  go_wp2_with fail
  refine (HS1.out _).mono ?_
  rintro e w1 ⟨rfl, hb1⟩
  have R1 := Lib.hid (K1.out.below hb1 K1.out.lt)
  have R2 := Lib.hid (K2.out.below hb1 K2.out.lt)
  have RB := Lib.hid (KB.out.trans (hb1.mono (by omega)))
  have hs1 := hb1.size
  clear hb1 K1 K2 KB
  generalize hO : dg 65536 1 = O
  have HO := Lib.hid hO
  clear hO
  go_upto_region 2 with (refine wpList_store_row rfl 24 (.tmp 5) (.tmp 8) rfl w1.heap.size (icells O 16).toArray rfl rfl 24 _ (Whole.new _ _ _) (by rw [icells_size]; kernel_rfl) (by rw [icells_size]; rfl) (icells_one _ _) ?_)
  refine cut_world (fun X => Whole X B 24 (icells x 16).toArray ∧ Whole X (B + 1) 24 (icells (fun _ => 0) 16).toArray ∧ Whole X w1.heap.size 24 (icells (dg 65536 1) 16).toArray ∧ Below B w X ∧ B + 1 < w1.heap.size) ⟨Whole.farRow (R1.out.alloc _) (by omega) _, Whole.farRow (R2.out.alloc _) (by omega) _, by rw [HO.out]; exact setRow_heap _ _ _ _ _ _ (Whole.new _ _ _), below_setRow (RB.out.alloc (by omega) _) (by omega) _, by omega⟩ ?_
  clear R1 R2 RB hs1 hw2
  rintro Y ⟨k1, k2, k3, kb, hG⟩
  have K1 := Lib.hid k1
  have K2 := Lib.hid k2
  have K3 := Lib.hid k3
  have KB := Lib.hid kb
  clear k1 k2 k3 kb
  generalize w1.heap.size = G at K3 hG ⊢
  have hM1 : 1 < M256 := by have := M_big; omega
  go_wp2_with fail
  go_loopw [6] (fun i wr => ∃ (k v : Nat), k ≤ 32 ∧ i = .int .i64 (31 - (k : Int)) ∧ v < M256 ∧ v % P = pw a E (8 * k) ∧ Whole wr B 24 (icells x 16).toArray ∧ Whole wr (B + 1) 24 (icells (fun _ => 0) 16).toArray ∧ Whole wr G 24 (icells (dg 65536 v) 16).toArray ∧ Below B w wr) (fun i _ => (intOf i + 1).toNat)
  case atStart => exact ⟨0, 1, by omega, rfl, hM1, HZ.out, K1.out, K2.out, K3.out, KB.out⟩
  case round =>
    obtain ⟨k, v, hk, rfl, hv, hvm, q1, q2, q3, qb⟩ := hrel
    have HV := Lib.hid hv
    have HVM := Lib.hid hvm
    have Q1 := Lib.hid q1
    have Q2 := Lib.hid q2
    have Q3 := Lib.hid q3
    have QB := Lib.hid qb
    clear hv hvm q1 q2 q3 qb
    by_cases hlt : k < 32
    · obtain ⟨n, hn⟩ : ∃ n, n = 31 - k := ⟨_, rfl⟩
      rw [show (31 : Int) - (k : Int) = (n : Int) by omega]
      have in1 : 0 ≤ (n : Int) := by omega
      have in2 : (n : Int) < 32 := by omega
      have HN := Lib.hid hn
      clear hn
      go_wp2_with fail
      go_loopw [7] (fun t wr => ∃ (j v : Nat), j ≤ 8 ∧ t = .int .u8 (128 / 2 ^ j : Nat) ∧ v < M256 ∧ v % P = pw a E (8 * k + j) ∧ Whole wr B 24 (icells x 16).toArray ∧ Whole wr (B + 1) 24 (icells (fun _ => 0) 16).toArray ∧ Whole wr G 24 (icells (dg 65536 v) 16).toArray ∧ Below B w wr) (fun t _ => (intOf t).toNat)
      case atStart => exact ⟨0, v, by omega, rfl, HV.out, HVM.out, Q1.out, Q2.out, Q3.out, QB.out⟩
      case round =>
        obtain ⟨j, v, hj, rfl, hv, hvm, q1, q2, q3, qb⟩ := hrel
        have hl3 := q3.lt
        have HV := Lib.hid hv
        have HVM := Lib.hid hvm
        have Q1 := Lib.hid q1
        have Q2 := Lib.hid q2
        have Q3 := Lib.hid q3
        have QB := Lib.hid qb
        clear hv hvm q1 q2 q3 qb
        by_cases hlj : j < 8
        · have hbj := and_bit (f n) j (HF.out n) hlj
          have hbit := HBIT.out (255 - (8 * k + j)) (by omega)
          have hnn := HN.out
          rw [show (255 - (8 * k + j)) / 8 = n by omega, show (255 - (8 * k + j)) % 8 = 7 - j by omega] at hbit
          rw [hbit] at hbj
          have hpos : 0 < 128 / 2 ^ j := Nat.div_pos (by have : 2 ^ j ≤ 2 ^ 7 := Nat.pow_le_pow_right (by omega) (by omega); omega) (Nat.two_pow_pos j)
          have hle : 128 / 2 ^ j ≤ 128 := Nat.div_le_self _ _
          have HNX := Lib.hid (show 128 / 2 ^ (j + 1) = 128 / 2 ^ j / 2 by rw [Nat.pow_succ, Nat.div_div_eq_div_mul])
          have HEV := Lib.hid (pw_even a E (8 * k + j) (by omega))
          have HOD := Lib.hid (pw_odd a E (8 * k + j) (by omega))
          have HSQ := Lib.hid (mul_any v v HV.out HV.out)
          rw [nv] at HSQ
          generalize dg 65536 v = y at Q3 HSQ
          generalize hbt : 128 / 2 ^ j = bt at hbj hpos hle HNX
          have HBT := Lib.hid hbt
          have hd2 : E / 2 ^ (255 - (8 * k + j)) % 2 = 0 ∨ E / 2 ^ (255 - (8 * k + j)) % 2 = 1 := by omega
          generalize E / 2 ^ (255 - (8 * k + j)) % 2 = d at hbj HEV HOD hd2
          clear hbit hnn hbt
          go_wp2_with (refine wpList_load_row rfl 24 (.tmp 5) rfl G rfl 24 (icells y 16).toArray (0, 0) _ Q3.out rfl rfl (by rw [icells_size]; kernel_rfl) ?_)
          refine (HSQ.out _).mono ?_
          rintro e w5 ⟨m, hm1, hm2, rfl, hb⟩
          have R1 := Lib.hid (Q1.out.below hb Q1.out.lt)
          have R2 := Lib.hid (Q2.out.below hb Q2.out.lt)
          have R3 := Lib.hid (Q3.out.below hb hl3)
          have RB := Lib.hid (QB.out.trans (hb.mono (by omega)))
          have HM1 := Lib.hid hm1
          have HM2 := Lib.hid (show m % P = pw a E (8 * k + j) * pw a E (8 * k + j) % P by rw [hm2, Nat.mul_mod, HVM.out])
          clear hb hm1 hm2 Q1 Q2 Q3 QB HSQ
          rw [nv]
          generalize hML : dg 65536 m = ML
          have HML := Lib.hid hML
          clear hML
          go_upto_region 9 with (refine wpList_store_row rfl 24 (.tmp 5) (.tmp 19) rfl G (icells ML 16).toArray rfl rfl 24 _ R3.out (by rw [icells_size]; kernel_rfl) (by rw [icells_size, icells_size]) (icells_one _ _) ?_)
          refine cut_world (fun X => Whole X B 24 (icells x 16).toArray ∧ Whole X (B + 1) 24 (icells (fun _ => 0) 16).toArray ∧ Whole X G 24 (icells ML 16).toArray ∧ Below B w X) ⟨Whole.farRow R1.out (by omega) _, Whole.farRow R2.out (by omega) _, setRow_heap _ _ _ _ _ _ R3.out, below_setRow RB.out (by omega) _⟩ ?_
          clear R1 R2 R3 RB
          rintro Z ⟨k1, k2, k3, kb⟩
          have hl4 := k3.lt
          have cf := (kb.cell (p := ⟨b, off + n, none⟩) hblk).trans (HC.out n (by omega))
          have Q1 := Lib.hid k1
          have Q2 := Lib.hid k2
          have Q3 := Lib.hid k3
          have QB := Lib.hid kb
          clear k1 k2 k3 kb
          rcases hd2 with rfl | rfl
          · have hbj2 : (bits .and .u8 ((f n : Nat) : Int) ((bt : Nat) : Int) != 0) = false := by rw [hbj]; rfl
            clear hbj
            have he := HEV.out rfl
            have HNV := Lib.hid (show m % P = pw a E (8 * k + (j + 1)) by rw [HM2.out, he]; rfl)
            clear he
            go_wp2_with fail
            go_roundw
            case rel => exact ⟨j + 1, m, by omega, by rw [HNX.out]; go_num, HM1.out, HNV.out, Q1.out, Q2.out, by rw [HML.out]; exact Q3.out, QB.out⟩
            case measure => simp [intOf]; omega
          · have hbj2 : (bits .and .u8 ((f n : Nat) : Int) ((bt : Nat) : Int) != 0) = true := by rw [hbj]; rfl
            clear hbj
            have ho := HOD.out rfl
            have HPR := Lib.hid (mul_any m a HM1.out HA.out)
            rw [nv, nv, HML.out, ← HX.out] at HPR
            go_wp2_with (first | (refine wpList_load_row rfl 24 (.tmp 5) rfl G rfl 24 (icells ML 16).toArray (0, 0) _ Q3.out rfl rfl (by rw [icells_size]; kernel_rfl) ?_) | (refine wpList_load_row rfl 24 (.tmp 2) rfl B rfl 24 (icells x 16).toArray (0, 0) _ Q1.out rfl rfl (by rw [icells_size]; kernel_rfl) ?_))
            refine (HPR.out _).mono ?_
            rintro e w6 ⟨m2, hm1, hm2, rfl, hb⟩
            have R1 := Lib.hid (Q1.out.below hb Q1.out.lt)
            have R2 := Lib.hid (Q2.out.below hb Q2.out.lt)
            have R3 := Lib.hid (Q3.out.below hb hl4)
            have RB := Lib.hid (QB.out.trans (hb.mono (by omega)))
            have HN1 := Lib.hid hm1
            have HN2 := Lib.hid (show m2 % P = pw a E (8 * k + (j + 1)) by rw [hm2, ← Nat.mod_mul_mod, HM2.out, ho]; rfl)
            clear hb hm1 hm2 ho Q1 Q2 Q3 QB HPR
            rw [nv]
            generalize hML2 : dg 65536 m2 = ML2
            have HML2 := Lib.hid hML2
            clear hML2
            go_wp2_with (refine wpList_store_row rfl 24 (.tmp 5) (.tmp 29) rfl G (icells ML2 16).toArray rfl rfl 24 _ R3.out (by rw [icells_size]; kernel_rfl) (by rw [icells_size, icells_size]) (icells_one _ _) ?_)
            go_roundw
            case rel => exact ⟨j + 1, m2, by omega, by rw [HNX.out]; go_num, HN1.out, HN2.out, Whole.farRow R1.out (by omega) _, Whole.farRow R2.out (by omega) _, by rw [HML2.out]; exact setRow_heap _ _ _ _ _ _ R3.out, below_setRow RB.out (by omega) _⟩
            case measure => simp [intOf]; omega
        · obtain rfl : j = 8 := by omega
          have HV8 := Lib.hid (show v % P = pw a E (8 * (k + 1)) by rw [HVM.out]; rfl)
          have HI := Lib.hid (show (n : Int) - 1 = 31 - ((k + 1 : Nat) : Int) by have := HN.out; omega)
          rw [show ((128 / 2 ^ 8 : Nat) : Int) = 0 from rfl]
          go_wp2_with fail
          go_roundw
          case rel => exact ⟨k + 1, v, by omega, by rw [HI.out], HV.out, HV8.out, Q1.out, Q2.out, Q3.out, QB.out⟩
          case measure => simp [intOf]
    · obtain rfl : k = 32 := by omega
      rw [show (31 : Int) - ((32 : Nat) : Int) = -1 from rfl]
      have HFIN := Lib.hid (show v % P = a ^ E % P by rw [HVM.out, show 8 * 32 = 256 from rfl, pw_all])
      generalize hL : dg 65536 v = L at Q3
      have HL := Lib.hid hL
      clear hL
      go_wp2_with (first | (refine wpList_load_row rfl 24 (.tmp 5) rfl G rfl 24 (icells L 16).toArray (0, 0) _ Q3.out rfl rfl (by rw [icells_size]; kernel_rfl) ?_) | (refine wpList_store_row rfl 24 (.tmp 4) (.tmp 30) rfl (B + 1) (icells L 16).toArray rfl rfl 24 _ Q2.out (by rw [icells_size]; kernel_rfl) (by rw [icells_size, icells_size]) (icells_one _ _) ?_))
      have hret : Whole (wr.setRow (B + 1) (icells L 16).toArray) (B + 1) 24 (icells L 16).toArray := setRow_heap _ _ _ _ _ _ Q2.out
      refine bodyPost_ret (results_cell_row rfl _ _ (B + 1) 24 _ (0, 0) _ rfl hret rfl rfl (by rw [icells_size]; kernel_rfl)) rfl ?_
      exact ⟨v, HV.out, HFIN.out, by rw [nv, HL.out], by rw [hB]; exact below_setRow QB.out (by omega) _⟩

end RefF
end Go.Proofs.Ytnopjjkijedpeaa
