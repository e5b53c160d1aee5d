/- The document's limiter: Right, Place, level, find. -/
import Derived.Test.YtlccgplgbokgkaaLimRow
namespace Go.Proofs.Ytlccgplgbokgkaa
namespace Lim
open Go.ChangeShapes Go.WideShapes Go.ChangeAt Go.RowKit Go.Maps
open Num Mem Words Chacha Aead Poly Adr Ops Quiet Stamp RowV

set_option maxRecDepth 100000 in
theorem rright_any (s : Bool) (f : Nat → Nat) (w : World) : Calls Try.prog 29 #[.agg (addrL s f).toArray] w fun e w' => e = .returned (.bool (rightB s f)) ∧ Below w.heap.size w w' := by
  have HRT := Lib.hid (show ∀ i, i < 16 → (addrL s f)[1 + i]? = some (.int .u8 (f i : Nat)) from fun i hi => by
    unfold addrL
    rw [Nat.add_comm 1 i, List.getElem?_cons_succ, byteCells_get _ _ _ hi])
  have H0 := Lib.hid (show (addrL s f)[0]? = some (.bool s) from rfl)
  obtain ⟨A, hA⟩ : ∃ A, addrL s f = A := ⟨_, rfl⟩
  rw [hA] at HRT H0 ⊢
  clear hA
  obtain ⟨r, hr⟩ : ∃ r, rightB s f = r := ⟨_, rfl⟩
  rw [hr]
  have HR := Lib.hid hr
  clear hr
  go_enter Try.func29, Try.ntmps29
  go_upto_region 1 with fail
  refine cut_world (fun X => Whole X w.heap.size 25 A.toArray ∧ Below w.heap.size w X) ⟨Whole.new _ _ _, below_alloc (Below.refl _ _) _⟩ ?_
  rintro W ⟨p1, p2⟩
  have P1 := Lib.hid p1
  have PB := Lib.hid p2
  have c0 : W.cell? ⟨w.heap.size, 0, none⟩ = some (.bool s) := by rw [p1.cell, List.getElem?_toArray]; exact H0.out
  clear p1 p2
  go_wp2_with fail
  go_loop [3] (fun i => ∃ k : Nat, 4 ≤ k ∧ k ≤ 16 ∧ i = .int .i64 k ∧ (s = true ∨ ∀ j, 4 ≤ j → j < k → f j = 0)) (fun i => 16 - (intOf i).toNat)
  case atStart => exact ⟨4, Nat.le_refl _, by omega, rfl, Or.inr (fun j h1 h2 => by omega)⟩
  case round =>
    obtain ⟨k, hk4, hk, rfl, hz⟩ := hrel
    have HZ := Lib.hid hz
    clear hz
    by_cases hlt : k < 16
    · have hk2 : IntKind.i64.wrap ((k : Int) + 1) = (k : Int) + 1 := by rw [IntKind.wrap_i64]; omega
      cases s
      · have hc : W.cell? ⟨w.heap.size, 1 + k, none⟩ = some (.int .u8 (f k : Nat)) := by rw [P1.out.cell, List.getElem?_toArray]; exact HRT.out k hlt
        obtain ⟨v, hv⟩ : ∃ v, f k = v := ⟨_, rfl⟩
        rw [hv] at hc
        have HV := Lib.hid hv
        clear hv
        by_cases h0 : v = 0
        · subst h0
          go_wp2_with fail
          go_round
          case rel =>
            refine ⟨k + 1, by omega, by omega, by go_num, Or.inr (fun j h1 h2 => ?_)⟩
            rcases HZ.out with h | h
            · cases h
            · by_cases e : j = k
              · rw [e]; exact HV.out
              · exact h j h1 (by omega)
          case measure => simp [intOf]; omega
        · have n1 : ((v : Int) == 0) = false := by rw [beq_eq_false_iff_ne]; omega
          have n2 : ((v : Int) = 0) = False := eq_false (by omega)
          go_wp2_with fail
          go_ret
          refine ⟨?_, PB.out⟩
          have : rightB false f = false := by
            unfold rightB
            rw [Bool.false_or, decide_eq_false_iff_not]
            intro h
            have := h ⟨k, hlt⟩ hk4
            rw [HV.out] at this
            exact h0 this
          rw [← HR.out, this]
          rfl
      · go_wp2_with fail
        go_round
        case rel => exact ⟨k + 1, by omega, by omega, by go_num, by simp⟩
        case measure => simp [intOf]; omega
    · obtain rfl : k = 16 := by omega
      go_wp2_with fail
      go_ret
      refine ⟨?_, PB.out⟩
      have : rightB s f = true := by
        unfold rightB
        rcases HZ.out with h | h
        · rw [h]; rfl
        · have : decide (∀ i : Fin 16, 4 ≤ i.1 → f i.1 = 0) = true := decide_eq_true (fun i h4 => h i.1 h4 i.2)
          rw [this]
          simp
      rw [← HR.out, this]
      rfl

/-- what Place answers -/
def plS (s : Bool) (f : Nat → Nat) : Bool := if rightB s f then s else false
def plG (s : Bool) (f : Nat → Nat) : Nat → Nat := if rightB s f then plF s f else nought
/-- the bytes behind k rounds of noughts -/
def upP (f : Nat → Nat) (k i : Nat) : Nat := if 8 ≤ i ∧ i < k then 0 else f i
theorem upP_succ (f : Nat → Nat) (k : Nat) (hk : 8 ≤ k) : (fun i => if i = k then 0 else upP f k i) = upP f (k + 1) := by
  funext i
  unfold upP
  by_cases h : i = k
  · subst h; rw [if_pos rfl, if_pos (by omega)]
  · rw [if_neg h]
    by_cases h2 : 8 ≤ i ∧ i < k
    · rw [if_pos h2, if_pos (by omega)]
    · rw [if_neg h2, if_neg (by omega)]
theorem addr_set (s : Bool) (f : Nat → Nat) (j v : Nat) : (addrL s f).toArray.setIfInBounds (1 + j) (.int .u8 (v : Nat)) = (addrL s (fun i => if i = j then v else f i)).toArray := by
  have e := byteCells_set f 16 j v
  rw [List.setIfInBounds_toArray] at e ⊢
  congr 1
  have e' : (byteCells f 16).set j (.int .u8 (v : Nat)) = byteCells (fun i => if i = j then v else f i) 16 := by simpa using e
  unfold addrL
  rw [Nat.add_comm 1 j, List.set_cons_succ, e']

structure PlW (w : World) (B : Nat) (L : List Value) (zs : Array Value) (X : World) : Prop where
  arg : Whole X B 25 L.toArray
  res : Whole X (B + 1) 25 zs
  bel : Below B w X
theorem PlW.below {w : World} {B : Nat} {L : List Value} {zs : Array Value} {X Y : World} (h : PlW w B L zs X) (hb : Below X.heap.size X Y) : PlW w B L zs Y :=
  ⟨Whole.below h.arg hb h.arg.lt, Whole.below h.res hb h.res.lt, h.bel.trans (hb.mono (Nat.le_of_lt h.arg.lt))⟩

set_option maxRecDepth 100000 in
set_option maxHeartbeats 2000000 in
theorem rplace_any (s : Bool) (f : Nat → Nat) (w : World) : Calls Try.prog 22 #[.agg (addrL s f).toArray] w fun e w' => e = .returned (.tuple #[.agg (addrL (plS s f) (plG s f)).toArray, .bool (rightB s f)]) ∧ Below w.heap.size w w' := by
  obtain ⟨zs, hz, hzs, hzc⟩ : ∃ zs : Array Value, (∀ w, (zeroValue 25).run Try.prog w = .ok (.agg zs) w) ∧ zs.size = 17 ∧ zs = (addrL false nought).toArray := ⟨_, zero_addr, addr_size _ _, rfl⟩
  have HZS := Lib.hid hzs
  have HZC := Lib.hid hzc
  have HB0 := Lib.hid addr_built0
  have HO := Lib.hid (addr_one false nought)
  rw [← hzc] at HB0 HO
  clear hzs hzc
  obtain ⟨M, hM⟩ : ∃ M : Array Value, (addrL (plS s f) (plG s f)).toArray = M := ⟨_, rfl⟩
  rw [hM]
  have HM := Lib.hid hM
  have HC := Lib.hid (rright_any s f)
  obtain ⟨r, hr⟩ : ∃ r, rightB s f = r := ⟨_, rfl⟩
  rw [hr] at HC ⊢
  have HR := Lib.hid hr
  obtain ⟨A, hA⟩ : ∃ A, addrL s f = A := ⟨_, rfl⟩
  rw [hA] at HC ⊢
  have HA := Lib.hid hA
  have HAS := Lib.hid (show A.toArray.size = 17 by rw [← hA, addr_size])
  clear hM hr hA
  go_enter Try.func22, Try.ntmps22
  go_upto_region 1 with fail
  refine cut_world (fun X => PlW w w.heap.size A zs X) ⟨(Whole.new _ _ _).alloc _, whole_new _ _ (by simp), below_alloc (below_alloc (Below.refl _ _) _) _⟩ ?_
  intro W hW
  generalize hB : w.heap.size = B at hW ⊢
  have HB := Lib.hid hB
  have HW := Lib.hid hW
  clear hB hW
  go_wp2_with (refine wpList_load_row rfl 25 (.tmp 1) rfl B rfl 25 A.toArray (0, 0) _ HW.out.arg rfl rfl (by rw [HAS.out]; kernel_rfl) ?_)
  refine (HC.out W).mono ?_
  rintro e w1 ⟨rfl, hb1⟩
  have HW1 := Lib.hid (HW.out.below hb1)
  clear hb1 HW HC
  cases r
  · go_wp2_with (first | (refine wpList_built0 rfl 25 rfl zs HB0.out ?_) | (refine wpList_store_row rfl 25 (.tmp 2) (.tmp 8) rfl (B + 1) zs rfl rfl 25 _ HW1.out.res (by rw [HZS.out]; kernel_rfl) rfl HO.out ?_))
    have hret : Whole (w1.setRow (B + 1) zs) (B + 1) 25 (addrL false nought).toArray := by
      rw [← HZC.out]
      exact setRow_heap _ _ _ _ _ _ HW1.out.res
    refine bodyPost_ret (Poly.results_cell_tmp rfl _ _ (B + 1) 25 _ _ rfl hret rfl rfl (by rw [addrL_length]; kernel_rfl)) rfl ?_
    refine ⟨?_, by rw [HB.out]; exact below_setRow HW1.out.bel (Nat.le_succ _) _⟩
    rw [← HM.out]
    unfold plS plG
    rw [HR.out]
    rfl
  · have c0 : w1.cell? ⟨B, 0, none⟩ = some (.bool s) := by rw [HW1.out.arg.cell, ← HA.out]; rfl
    cases s
    · go_wp2_with (first | (refine wpList_load_row rfl 25 (.tmp 1) rfl B rfl 25 A.toArray (0, 0) _ HW1.out.arg rfl rfl (by rw [HAS.out]; kernel_rfl) ?_) | (refine wpList_store_row rfl 25 (.tmp 2) (.tmp 20) rfl (B + 1) A.toArray rfl rfl 25 _ HW1.out.res (by rw [HAS.out]; kernel_rfl) (by rw [HAS.out, HZS.out]) (by rw [← HA.out]; exact addr_one _ _) ?_))
      go_loop [4] (fun i => i = .int .i64 8) (fun i => 16 - (intOf i).toNat)
      case atStart => rfl
      case round =>
        subst hrel
        go_wp2_with (first | (refine wpList_load_row rfl 25 (.tmp 1) rfl B rfl 25 A.toArray (0, 0) _ HW1.out.arg rfl rfl (by rw [HAS.out]; kernel_rfl) ?_) | (refine wpList_store_row rfl 25 (.tmp 2) (.tmp 20) rfl (B + 1) A.toArray rfl rfl 25 _ HW1.out.res (by rw [HAS.out]; kernel_rfl) (by rw [HAS.out, HZS.out]) (by rw [← HA.out]; exact addr_one _ _) ?_))
        have hret : Whole (w1.setRow (B + 1) A.toArray) (B + 1) 25 A.toArray := setRow_heap _ _ _ _ _ _ HW1.out.res
        refine bodyPost_ret (Poly.results_cell_tmp rfl _ _ (B + 1) 25 _ _ rfl hret rfl rfl (by rw [← List.size_toArray, HAS.out]; kernel_rfl)) rfl ?_
        refine ⟨?_, by rw [HB.out]; exact below_setRow HW1.out.bel (Nat.le_succ _) _⟩
        rw [← HM.out, ← HA.out]
        unfold plS plG
        rw [HR.out, if_pos rfl, if_pos rfl, addr_congr (f := plF false f) (g := f) (fun i _ => by unfold plF; rw [if_neg (by simp)])]
        rfl
    · go_wp2_with fail
      clear c0
      go_loopw [4] (fun i X => ∃ k : Nat, 8 ≤ k ∧ k ≤ 16 ∧ i = .int .i64 k ∧ PlW w B (addrL true (upP f k)) zs X) (fun i _ => 16 - (intOf i).toNat)
      case atStart => exact ⟨8, Nat.le_refl _, by omega, rfl, by rw [show upP f 8 = f from by funext i; unfold upP; rw [if_neg (by omega)]]; rw [HA.out]; exact HW1.out⟩
      case round =>
        obtain ⟨k, hk8, hk, rfl, hX⟩ := hrel
        have HX := Lib.hid hX
        clear hX
        have c0 : wr.cell? ⟨B, 0, none⟩ = some (.bool true) := by rw [HX.out.arg.cell]; rfl
        by_cases hlt : k < 16
        · have hk2 : IntKind.i64.wrap ((k : Int) + 1) = (k : Int) + 1 := by rw [IntKind.wrap_i64]; omega
          have c1 : wr.cell? ⟨B, 1 + k, none⟩ = some (.int .u8 (upP f k k : Nat)) := by
            rw [HX.out.arg.cell, List.getElem?_toArray]
            unfold addrL
            rw [Nat.add_comm 1 k, List.getElem?_cons_succ, byteCells_get _ _ _ hlt]
          have f1 := HX.out.arg.free (1 + k)
          have HS := Lib.hid (show PlW w B (addrL true (upP f (k + 1))) zs (wr.setCell ⟨B, 1 + k, none⟩ (.int .u8 0)) from by
            have h := HX.out.arg.put (1 + k) (.int .u8 ((0 : Nat) : Int))
            rw [addr_set, upP_succ f k hk8] at h
            exact ⟨h, HX.out.res.far (by show B + 1 ≠ B; omega) _, HX.out.bel.setCell (Nat.le_refl _) _⟩)
          clear HX
          go_wp2_with fail
          go_round
          case rel => exact ⟨k + 1, by omega, by omega, by go_num, HS.out⟩
          case measure => simp [intOf]; omega
        · obtain rfl : k = 16 := by omega
          obtain ⟨A2, hA2⟩ : ∃ A2, addrL true (upP f 16) = A2 := ⟨_, rfl⟩
          have HA2 := Lib.hid hA2
          have HAS2 := Lib.hid (show A2.toArray.size = 17 by rw [← hA2, addr_size])
          rw [hA2] at HX
          clear hA2
          go_wp2_with (first | (refine wpList_load_row rfl 25 (.tmp 1) rfl B rfl 25 A2.toArray (0, 0) _ HX.out.arg rfl rfl (by rw [HAS2.out]; kernel_rfl) ?_) | (refine wpList_store_row rfl 25 (.tmp 2) (.tmp 20) rfl (B + 1) A2.toArray rfl rfl 25 _ HX.out.res (by rw [HAS2.out]; kernel_rfl) (by rw [HAS2.out, HZS.out]) (by rw [← HA2.out]; exact addr_one _ _) ?_))
          have hret : Whole (wr.setRow (B + 1) A2.toArray) (B + 1) 25 A2.toArray := setRow_heap _ _ _ _ _ _ HX.out.res
          refine bodyPost_ret (Poly.results_cell_tmp rfl _ _ (B + 1) 25 _ _ rfl hret rfl rfl (by rw [← List.size_toArray, HAS2.out]; kernel_rfl)) rfl ?_
          refine ⟨?_, by rw [HB.out]; exact below_setRow HX.out.bel (Nat.le_succ _) _⟩
          rw [← HM.out, ← HA2.out]
          unfold plS plG
          rw [HR.out, if_pos rfl, if_pos rfl, addr_congr (f := plF true f) (g := upP f 16) (fun i hi => by unfold plF upP; by_cases h : 8 ≤ i; rw [if_pos ⟨rfl, h⟩, if_pos ⟨h, hi⟩]; rw [if_neg (by omega), if_neg (by omega)])]
          rfl
end Lim
end Go.Proofs.Ytlccgplgbokgkaa
