/- Package aditlaw22: alive. -/
import Derived.Test.YtbmabfnjjflbnaaYdTakeAll
namespace Go.Proofs.Ytbmabfnjjflbnaa
namespace Yd
open Go.ChangeShapes Go.WideShapes Go.ChangeAt Go.RowKit Go.Maps
open Num Mem Words Chacha Aead Poly Quiet RowV

def aliveL : Nat → List Pk
  | 0 => []
  | k + 1 => pushP (aliveL k) ⟨k + 1, 1, fun _ => k, 0⟩
theorem aliveL_len : ∀ k : Fin 9, (aliveL k.val).length = k.val := by decide
theorem aliveL_len' (k : Nat) (h : k ≤ 8) : (aliveL k).length = k := aliveL_len ⟨k, by omega⟩
theorem aliveL_9 : aliveL 9 = ⟨2, 1, fun _ => 1, 0⟩ :: [⟨3, 1, fun _ => 2, 0⟩, ⟨4, 1, fun _ => 3, 0⟩, ⟨5, 1, fun _ => 4, 0⟩, ⟨6, 1, fun _ => 5, 0⟩, ⟨7, 1, fun _ => 6, 0⟩, ⟨8, 1, fun _ => 7, 0⟩, ⟨9, 1, fun _ => 8, 0⟩] := rfl
def aliveY (k : Nat) : Int → List Pk := upd (fun _ => []) 1 (aliveL k)
theorem aliveY_step (k : Nat) : upd (aliveY k) 1 (pushP (aliveY k 1) ⟨k + 1, 1, fun _ => k, 0⟩) = aliveY (k + 1) := by
  unfold aliveY
  rw [upd_twice, upd_same]
  rfl
theorem aliveY_0 : aliveY 0 = fun _ => [] := upd_self (fun _ : Int => ([] : List Pk)) 1
theorem byteCells_one (k : Nat) : (byteCells (fun _ => k) 1).toArray = #[.int .u8 (k : Nat)] := rfl
theorem one_rd {w : World} {k : Nat} {cs : Array Value} {n : Nat} (hn : w.heap.size = n) (hc : cs = #[.int .u8 (k : Nat)]) : Rd (w.alloc (.cells cs 5)) (some ⟨n, 0, none⟩) 1 (fun _ => k) := Rd.of_new (n := 1) (f := fun _ => k) hn.symm (by rw [hc, byteCells_one])
theorem foreign_new {B : Nat} {w : World} {t : TypeId} {cs : Array Value} {n : Nat} (hn : w.heap.size = n) (h1 : t ≠ 66) (h2 : t ≠ 41) : Foreign B (w.alloc (.cells cs t)) n := .inr ⟨cs, t, (0, 0), by rw [← hn]; exact Whole.new w t cs, h1, h2⟩
theorem below_trans' {B : Nat} {x y z : World} (h : Below x.heap.size x y) (k : Yk B y z) (hB : B ≤ x.heap.size) : Below B x z := (h.mono hB).trans ⟨k.os, k.tape, k.output, k.size, fun i hi => k.block i (Nat.lt_of_lt_of_le hi (Nat.le_trans hB h.size)) (.inl hi)⟩
theorem okI_of {o : Int} (h0 : -9223372036854775808 ≤ o) (h1 : o ≤ 9223372036854775807) : okI o := by
  unfold okI
  have e0 : IntKind.min .i64 = -9223372036854775808 := by decide
  have e1 : IntKind.max .i64 = 9223372036854775807 := by decide
  show (decide (IntKind.min .i64 ≤ o) && decide (o ≤ IntKind.max .i64)) = true
  rw [e0, e1, Bool.and_eq_true, decide_eq_true_eq, decide_eq_true_eq]
  exact ⟨h0, h1⟩
theorem ok1 : okI 1 := okI_of (by omega) (by omega)
def rest7 : List Pk := [⟨3, 1, fun _ => 2, 0⟩, ⟨4, 1, fun _ => 3, 0⟩, ⟨5, 1, fun _ => 4, 0⟩, ⟨6, 1, fun _ => 5, 0⟩, ⟨7, 1, fun _ => 6, 0⟩, ⟨8, 1, fun _ => 7, 0⟩, ⟨9, 1, fun _ => 8, 0⟩]
theorem aliveY_9 : aliveY 9 1 = ⟨2, 1, fun _ => 1, 0⟩ :: rest7 := by unfold aliveY; rw [upd_same]; exact aliveL_9

set_option maxRecDepth 100000 in
set_option maxHeartbeats 1000000 in
theorem alive_ok (w : World) : Calls Try.prog 9 #[] w fun e w' => e = .returned (.bool true) ∧ Below w.heap.size w w' := by
  have HN := Lib.hid (new_any w)
  go_enter Try.func9, Try.ntmps9
  go_wp2_with fail
  refine HN.out.mono ?_
  rintro e w1 ⟨g, b, rfl, hb1, hy⟩
  have HY := Lib.hid (show YW w1 w.heap.size g b (aliveY 0) 0 0 from by rw [aliveY_0]; exact hy)
  have HB := Lib.hid hb1
  clear hy hb1 HN
  go_wp2_with fail
  go_loopw [2, 3] (fun t i wr => ∃ k : Nat, k ≤ 9 ∧ t = .bool (decide (k = 9)) ∧ i = .int .i64 k ∧ YW wr w.heap.size g b (aliveY k) k (if k = 9 then 1 else 0) ∧ Below w.heap.size w wr) (fun _ i _ => 9 - (intOf i).toNat)
  case atStart => exact ⟨0, by omega, rfl, rfl, HY.out, HB.out⟩
  case round =>
    obtain ⟨k, hk, rfl, rfl, hy, hb⟩ := hrel
    have HY1 := Lib.hid hy
    have HB1 := Lib.hid hb
    clear hy hb HY HB
    by_cases hlt : k < 9
    · have hk2 : IntKind.i64.wrap ((k : Int) + 1) = (k : Int) + 1 := by rw [IntKind.wrap_i64]; omega
      have hk3 : IntKind.u8.wrap (k : Int) = (k : Int) := by rw [IntKind.wrap_u8]; omega
      have hlen : (aliveY k 1).length = k := by unfold aliveY; rw [upd_same]; exact aliveL_len' k (by omega)
      have hlt2 : (k : Int) < 9 := by omega
      go_wp2_with fail
      have HYA := Lib.hid (HY1.out.below (below_alloc (Below.refl _ wr) (.cells #[.int .u8 (k : Nat)] 5)))
      refine (put_ok HYA.out (Nat.le_trans HB1.out.size (below_alloc (Below.refl _ wr) _).size) 1 (by omega) (by omega) (some ⟨wr.heap.size, 0, none⟩) 1 1 (fun _ => k) (fun _ => by omega) (by omega) (by omega) (by split <;> omega) (one_rd rfl rfl) (fun a ha _ => by injection ha with ha; subst ha; exact foreign_new rfl (by decide) (by decide))).mono ?_
      rw [hlen, aliveY_step]
      rintro e w2 ⟨rfl, hy2, hk2'⟩
      have e1 : decide (k = 8) = decide (k + 1 = 9) := by simp
      have e2 : (if k = 9 then 1 else 0) + (if k = 8 then 1 else 0) = (if k + 1 = 9 then 1 else 0) := by
        rw [if_neg (by omega), Nat.zero_add]
        by_cases h : k = 8
        · rw [if_pos h, if_pos (by omega)]
        · rw [if_neg h, if_neg (by omega)]
      rw [e2] at hy2
      rw [e1]
      have HY2 := Lib.hid hy2
      have HB2 := Lib.hid (HB1.out.trans ((below_trans' (below_alloc (Below.refl _ wr) (.cells #[.int .u8 (k : Nat)] 5)) hk2' HB1.out.size)))
      clear hy2 hk2' e1 e2 hlen HYA HY1 HB1
      go_wp2_with fail
      go_round
      case rel => exact ⟨k + 1, by omega, by simp, by go_num, HY2.out, HB2.out⟩
      case measure => simp [intOf]; omega
    · obtain rfl : k = 9 := by omega
      have HC := Lib.hid (take_some HY1.out 1 ok1 ⟨2, 1, fun _ => 1, 0⟩ rest7 aliveY_9)
      go_wp2_with fail
      refine HC.out.mono ?_
      rintro e w2 ⟨a, rfl, hby, hy2, hyk⟩
      have HBY := Lib.hid hby
      have HY2 := Lib.hid hy2
      have HB2 := Lib.hid (HB1.out.trans ⟨hyk.os, hyk.tape, hyk.output, hyk.size, fun i hi => hyk.block i (Nat.lt_of_lt_of_le hi HB1.out.size) (.inl hi)⟩)
      clear hby hy2 hyk HC HY1 HB1
      unfold pkV
      have HPO := Lib.hid (pk_one a ⟨2, 1, fun _ => 1, 0⟩)
      obtain ⟨Q, hQ⟩ : ∃ Q, (pkL a ⟨2, 1, fun _ => 1, 0⟩).toArray = Q := ⟨_, rfl⟩
      rw [hQ] at HPO ⊢
      have HQS := Lib.hid (show Q.size = 2 by rw [← hQ]; rfl)
      have HQ := Lib.hid hQ
      clear hQ
      go_upto_region 8 with (refine wpList_store_row rfl 46 (.tmp 4) (.tmp 26) rfl w2.heap.size Q rfl rfl 46 _ (Whole.new _ _ _) (by rw [HQS.out]; kernel_rfl) (by rw [HQS.out]; rfl) HPO.out ?_)
      refine cut_world (fun X => YW X w.heap.size g b (upd (aliveY 9) 1 rest7) 9 1 ∧ Whole X w2.heap.size 46 #[.int .u64 2, .slice (some ⟨a, 0, none⟩) 1 1] ∧ Whole X a 5 #[.int .u8 1] ∧ Below w.heap.size w X) (by
        have hb := below_var w2 #[.int .u64 0, .slice none 0 0] Q 46
        refine ⟨HY2.out.below hb, ?_, HBY.out.below hb HBY.out.lt, HB2.out.trans (hb.mono HB2.out.size)⟩
        have h := setRow_heap _ _ _ Q _ _ (Whole.new w2 46 #[.int .u64 0, .slice none 0 0])
        exact HQ.out ▸ h) ?_
      rintro X ⟨x1, x2, x3, x4⟩
      have X1 := Lib.hid x1
      have X4 := Lib.hid x4
      generalize w2.heap.size = p at x2 ⊢
      have c0 := x2.cell 0
      have c1 := x2.cell 1
      have c2 := x3.cell 0
      obtain ⟨D, m, hm, hF⟩ := x1
      have HL := Lib.hid (put_low g b _ _ 0 none 0 0 X hm.obj (by omega))
      have HW := Lib.hid (waits_any 1 ok1 X1.out)
      have HT := Lib.hid (thrown_any X1.out)
      rw [upd_same] at HW
      have c0 : X.cell? ⟨p, 0, none⟩ = some (.int .u64 2) := c0
      have c1 : X.cell? ⟨p, 1, none⟩ = some (.slice (some ⟨a, 0, none⟩) 1 1) := c1
      have c2 : X.cell? ⟨a, 0, none⟩ = some (.int .u8 1) := c2
      clear x2 x3 x4 hm hF HPO HQS HQ HBY HY2 HB2
      go_wp2_with fail
      refine HL.out.mono ?_
      rintro e w3 ⟨rfl, rfl⟩
      go_wp2_with fail
      refine HW.out.mono ?_
      rintro e w3 ⟨rfl, rfl⟩
      go_wp2_with fail
      refine HT.out.mono ?_
      rintro e w3 ⟨rfl, rfl⟩
      go_wp2_with fail
      go_ret
      exact ⟨rfl, X4.out⟩
end Yd
end Go.Proofs.Ytbmabfnjjflbnaa
