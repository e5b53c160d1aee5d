/- The calls pass, lower and back of package field, on an element that lies in memory. -/
import Derived.Test.YtnopjjkijedpeaaFieldNum
import Derived.Test.YtnopjjkijedpeaaLimbs
import Derived.StillTailTactics
namespace Go.Proofs.Ytnopjjkijedpeaa
namespace Field
open Go.ChangeShapes Go.WideShapes Go.ChangeAt Go.RowKit
open Num Mem Words Radix FieldN Chacha

theorem and51 (v : Nat) (hv : v < 18446744073709551616) : bits .and .u64 (v : Int) 2251799813685247 = ((v % 2251799813685248 : Nat) : Int) := by
  have h := u64_and_nat v 2251799813685247 hv (by omega)
  rw [show (2251799813685247 : Nat) = 2 ^ 51 - 1 from rfl, Nat.and_two_pow_sub_one_eq_mod] at h
  exact h

theorem cy_small (a : Nat → Nat) (over : Nat) (ha : ∀ i, i < 5 → a i < 9223372036854775808) (ho : over < 9223372036854775808) (k : Nat) (hk : k ≤ 5) : cy 2251799813685248 a over k < 9223372036854775808 :=
  cy_lt a over 5 _ ho (fun i c hi hc => by have := ha i hi; omega) k hk

/-- what stays in limb i -/
def po (a : Nat → Nat) (over i : Nat) : Nat := (a i + cy 2251799813685248 a over i) % 2251799813685248

theorem grown_refl (w : World) (g : Nat) : w.grownBy w (some g) := World.grownBy.refl _ _

set_option maxRecDepth 100000 in
theorem pass_any (g : Nat) (a : Nat → Nat) (over : Nat) (ha : ∀ i, i < 5 → a i < 9223372036854775808) (ho : over < 9223372036854775808) (w : World) (hw : Whole w g 38 (qcells a 5).toArray) :
    Calls Try.prog 44 #[.pointer (some ⟨g, 0, none⟩), .int .u64 over] w fun e w' => e = .returned (.int .u64 (cy 2251799813685248 a over 5 : Nat)) ∧ Whole w' g 38 (qcells (po a over) 5).toArray ∧ w.grownBy w' (some g) := by
  have HA := Lib.hid ha
  have HP := Lib.hid (cy_small a over ha ho)
  have HW := Lib.hid hw
  clear ha hw
  go_enter Try.func44, Try.ntmps44
  go_wp2_with fail
  go_loopw [1, 7] (fun o i wr => ∃ k : Nat, k ≤ 5 ∧ i = .int .i64 k ∧ o = .int .u64 (cy 2251799813685248 a over k : Nat) ∧ Whole wr g 38 (qcells (fun i => if i < k then po a over i else a i) 5).toArray ∧ w.grownBy wr (some g)) (fun _ i _ => 5 - (intOf i).toNat)
  case atStart => exact ⟨0, by omega, rfl, rfl, HW.out, grown_refl _ _⟩
  case round =>
    obtain ⟨k, hk, rfl, rfl, q1, qb⟩ := hrel
    have Q1 := Lib.hid q1
    have QB := Lib.hid qb
    by_cases hlt : k < 5
    · have c1 := q1.num k hlt
      have f1 := q1.free k
      rw [if_neg (Nat.lt_irrefl k)] at c1
      have a1 := HA.out k hlt
      have p1 := HP.out k hk
      have HN := Lib.hid (show cy 2251799813685248 a over (k + 1) = (a k + cy 2251799813685248 a over k) / 2251799813685248 from rfl)
      have HO := Lib.hid (show po a over k = (a k + cy 2251799813685248 a over k) % 2251799813685248 from rfl)
      have HS := Lib.hid (show ((a k : Nat) : Int) + ((cy 2251799813685248 a over k : Nat) : Int) = ((a k + cy 2251799813685248 a over k : Nat) : Int) by omega)
      have s1 : a k + cy 2251799813685248 a over k < 18446744073709551616 := by omega
      generalize hs : a k + cy 2251799813685248 a over k = s at HN HO HS s1
      have HSS := Lib.hid hs
      have hand := and51 s (by omega)
      clear q1 qb hs
      go_wp2_with fail
      go_roundw
      case rel =>
        rw [HS.out, hand]
        refine ⟨k + 1, by omega, by go_num, by rw [HN.out]; rfl, ?_, grown_trans QB.out (grown_set _ _ _ _)⟩
        have h := Q1.out.put k (.int .u64 ((s % 2251799813685248 : Nat) : Int))
        rw [qcells_set, qcells_congr (g := fun i => if i < k + 1 then po a over i else a i) (fun i hi => ?_)] at h
        · exact h
        · by_cases e : i = k
          · subst e
            rw [if_pos rfl, if_pos (by omega), HO.out]
          · rw [if_neg e]
            by_cases l : i < k
            · rw [if_pos l, if_pos (by omega)]
            · rw [if_neg l, if_neg (by omega)]
      case measure => simp [intOf]; omega
    · obtain rfl : k = 5 := by omega
      have hz := Lib.hid (qcells_congr (f := fun i => if i < 5 then po a over i else a i) (g := po a over) (n := 5) (fun i hi => if_pos hi))
      rw [hz.out] at q1
      have Q1' := Lib.hid q1
      clear q1 qb Q1
      go_wp2_with fail
      go_ret
      exact ⟨rfl, Q1'.out, QB.out⟩

set_option maxRecDepth 100000 in
theorem lower_any (g : Nat) (a : Nat → Nat) (ha : ∀ i, i < 5 → a i < 9223372036854775808) (hv : rv 2251799813685248 a 5 < 2 * P) (w : World) (hw : Whole w g 38 (qcells a 5).toArray) :
    Calls Try.prog 42 #[.pointer (some ⟨g, 0, none⟩)] w fun e w' => e = .returned (.tuple #[]) ∧ Whole w' g 38 (qcells (dg 2251799813685248 (rv 2251799813685248 a 5 % P)) 5).toArray ∧ w.grownBy w' (some g) := by
  have HA := Lib.hid ha
  have HP := Lib.hid (cy_small a 19 ha (by omega))
  have HW := Lib.hid hw
  have HV := Lib.hid hv
  clear ha hw hv
  go_enter Try.func42, Try.ntmps42
  go_wp2_with fail
  go_loopw [2, 4] (fun o i wr => ∃ k : Nat, k ≤ 5 ∧ i = .int .i64 k ∧ o = .int .u64 (cy 2251799813685248 a 19 k : Nat) ∧ wr = w) (fun _ i _ => 5 - (intOf i).toNat)
  case atStart => exact ⟨0, by omega, rfl, rfl, rfl⟩
  case round =>
    obtain ⟨k, hk, rfl, rfl, rfl⟩ := hrel
    by_cases hlt : k < 5
    · have c1 := HW.out.num k hlt
      have a1 := HA.out k hlt
      have p1 := HP.out k hk
      have HN := Lib.hid (show cy 2251799813685248 a 19 (k + 1) = (a k + cy 2251799813685248 a 19 k) / 2251799813685248 from rfl)
      have HS := Lib.hid (show ((a k : Nat) : Int) + ((cy 2251799813685248 a 19 k : Nat) : Int) = ((a k + cy 2251799813685248 a 19 k : Nat) : Int) by omega)
      have s1 : a k + cy 2251799813685248 a 19 k < 18446744073709551616 := by omega
      generalize hs : a k + cy 2251799813685248 a 19 k = s at HN HS s1
      have HSS := Lib.hid hs
      clear hs
      go_wp2_with fail
      go_roundw
      case rel =>
        rw [HS.out]
        exact ⟨k + 1, by omega, by go_num, by rw [HN.out]; rfl, trivial⟩
      case measure => simp [intOf]; omega
    · obtain rfl : k = 5 := by omega
      have hover := low_over a HV.out
      have hstay := Lib.hid (low_stay a HV.out)
      generalize ho : cy 2251799813685248 a 19 5 = o at hover hstay ⊢
      have hso : o ≤ 1 := by rw [hover]; split <;> omega
      have hso' : 19 * o < 9223372036854775808 := by omega
      have HM := Lib.hid (show IntKind.u64.wrap (19 * (o : Int)) = ((19 * o : Nat) : Int) by rw [show 19 * (o : Int) = ((19 * o : Nat) : Int) by omega, wrap64_nat, Nat.mod_eq_of_lt (by omega)])
      clear hover ho
      go_wp2_with fail
      first
        | rw [show (19 : Int) * (o : Int) = ((19 * o : Nat) : Int) by omega]
        | skip
      refine (pass_any g a (19 * o) HA.out hso' _ HW.out).mono ?_
      rintro e w1 ⟨rfl, h1, h2⟩
      rw [qcells_congr (f := po a (19 * o)) (g := dg 2251799813685248 (rv 2251799813685248 a 5 % P)) (fun i hi => hstay.out i hi)] at h1
      have H1 := Lib.hid h1
      have H2 := Lib.hid h2
      clear h1 h2
      go_wp2_with fail
      go_end0
      exact ⟨rfl, H1.out, H2.out⟩

set_option maxRecDepth 100000 in
theorem back_any (g : Nat) (a : Nat → Nat) (over : Nat) (ha : ∀ i, i < 5 → a i < 4611686018427387904) (ho : 19 * over < 4611686018427387904) (hv : rv 2251799813685248 a 5 + 19 * over < 2 * P) (w : World) (hw : Whole w g 38 (qcells a 5).toArray) :
    Calls Try.prog 43 #[.pointer (some ⟨g, 0, none⟩), .int .u64 over] w fun e w' => e = .returned (.tuple #[]) ∧ Whole w' g 38 (qcells (dg 2251799813685248 ((rv 2251799813685248 a 5 + 19 * over) % P)) 5).toArray ∧ w.grownBy w' (some g) := by
  have c1 := hw.num 0 (by omega)
  have f1 := hw.free 0
  have a0 := ha 0 (by omega)
  obtain ⟨b, hb⟩ : ∃ b, b = fun i => if i = 0 then a 0 + 19 * over else a i := ⟨_, rfl⟩
  have HA := Lib.hid (show ∀ i, i < 5 → b i < 9223372036854775808 from fun i hi => by
    have := ha i hi
    rw [hb]
    show (if i = 0 then a 0 + 19 * over else a i) < _
    split <;> omega)
  have hval := rv_first a (19 * over)
  rw [← hb] at hval
  rw [← hval] at hv ⊢
  have HV := Lib.hid hv
  have HS := Lib.hid (show IntKind.u64.wrap (((a 0 : Nat) : Int) + IntKind.u64.wrap (19 * (over : Int))) = ((b 0 : Nat) : Int) by
    rw [show 19 * (over : Int) = ((19 * over : Nat) : Int) by omega, wrap64_nat, Nat.mod_eq_of_lt (by omega), ← Int.natCast_add, wrap64_nat, Nat.mod_eq_of_lt (by omega), hb]
    rfl)
  have h1 := hw.put 0 (.int .u64 ((b 0 : Nat) : Int))
  rw [qcells_set, qcells_congr (g := b) (fun i _ => by
    rw [hb]
    show (if i = 0 then (if 0 = 0 then a 0 + 19 * over else a 0) else a i) = if i = 0 then a 0 + 19 * over else a i
    rw [if_pos rfl])] at h1
  have HW := Lib.hid h1
  have HG := Lib.hid (grown_set w g 0 (.int .u64 ((b 0 : Nat) : Int)))
  clear ha hw hv hval h1 hb
  go_enter Try.func43, Try.ntmps43
  go_wp2_with fail
  refine wp_region_still_tail 11 (by kernel_rfl) (by kernel_rfl) ?_
  simp only [List.take_succ_cons, List.take_zero, List.drop_succ_cons, List.drop_zero]
  repeat still_step
  refine wpStill_nil ?_
  change wpList _ _ _ _ _ w.drew
  rw [HS.out]
  go_upto_region 1 with fail
  refine cut_world (fun X => Whole X g 38 (qcells b 5).toArray ∧ w.grownBy X (some g)) ⟨HW.out, ⟨HG.out.1, HG.out.2, HG.out.3, HG.out.4, HG.out.5⟩⟩ ?_
  rintro v ⟨hov, hgv⟩
  have HOV := Lib.hid hov
  have HGV := Lib.hid hgv
  clear hov hgv c1 f1
  go_wp2_with fail
  refine (lower_any g b HA.out HV.out _ HOV.out).mono ?_
  rintro e w1 ⟨rfl, h1, h2⟩
  have H1 := Lib.hid h1
  have H2 := Lib.hid h2
  clear h1 h2
  go_wp2_with fail
  go_end0
  exact ⟨rfl, H1.out, grown_trans HGV.out H2.out⟩

end Field
end Go.Proofs.Ytnopjjkijedpeaa
