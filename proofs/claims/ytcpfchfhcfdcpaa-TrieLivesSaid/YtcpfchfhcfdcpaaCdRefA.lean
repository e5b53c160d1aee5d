/- The document's own Right, Size and Bit of addresses. -/
import Derived.Test.YtcpfchfhcfdcpaaTrPlay
namespace Go.Proofs.Ytcpfchfhcfdcpaa
namespace Tri
open Go.ChangeShapes Go.WideShapes Go.ChangeAt Go.RowKit
open Num Mem Words Chacha Aead Poly Quiet Ops Adr RowS

theorem addr_at {X : World} {g : Nat} {t : TypeId} {s : Bool} {f : Nat → Nat} (h : Whole X g t (addrL s f).toArray) {i : Nat} (hi : i < 16) : X.cell? ⟨g, 1 + i, none⟩ = some (.int .u8 (f i : Nat)) := by
  rw [h.cell, List.getElem?_toArray]
  unfold addrL
  rw [Nat.add_comm 1 i, List.getElem?_cons_succ, byteCells_get _ _ _ hi]
set_option maxRecDepth 100000 in
set_option maxHeartbeats 2000000 in
theorem rRight_any (s : Bool) (f : Nat → Nat) (hf : ∀ i, f i < 256) (w : World) :
    Calls Try.prog 44 #[.agg (addrL s f).toArray] w fun e w' => e = .returned (.bool (rightB s f)) ∧ Below w.heap.size w w' := by
  have HF := Lib.hid hf
  clear hf
  obtain ⟨R, hR⟩ : ∃ R, rightB s f = R := ⟨_, rfl⟩
  rw [hR]
  have HR := Lib.hid hR
  have HC := Lib.hid (show ∀ X B T, Whole X B T (addrL s f).toArray → X.cell? ⟨B, 0, none⟩ = some (.bool s) ∧ ∀ i, i < 16 → X.cell? ⟨B, 1 + i, none⟩ = some (.int .u8 (f i : Nat)) from fun X B T h => ⟨by rw [h.cell]; rfl, fun i hi => addr_at h hi⟩)
  obtain ⟨A, hA⟩ : ∃ L, addrL s f = L := ⟨_, rfl⟩
  rw [hA] at HC ⊢
  clear hA hR
  go_enter Try.func44, Try.ntmps44
  go_upto_region 1 with fail
  refine cut_world (fun X => Whole X w.heap.size 27 A.toArray ∧ Below w.heap.size w X) ⟨Whole.new _ _ _, below_alloc (Below.refl _ _) _⟩ ?_
  rintro W ⟨p1, pb⟩
  have P1 := Lib.hid p1
  have PB := Lib.hid pb
  clear p1 pb
  generalize hB : w.heap.size = B at P1 PB ⊢
  have HB := Lib.hid hB
  clear hB
  go_wp2_with fail
  go_loopw [3] (fun i X => ∃ k : Nat, 4 ≤ k ∧ k ≤ 16 ∧ i = .int .i64 k ∧ X = W ∧ (s = false → ∀ j, 4 ≤ j → j < k → f j = 0)) (fun i _ => 16 - (intOf i).toNat)
  case atStart => exact ⟨4, by omega, by omega, rfl, rfl, fun _ j h1 h2 => by omega⟩
  case round =>
    obtain ⟨k, hk4, hk, rfl, rfl, hz⟩ := hrel
    have HZ := Lib.hid hz
    clear hz
    by_cases hlt : k < 16
    · have hc0 := (HC.out _ _ _ P1.out).1
      have hck := (HC.out _ _ _ P1.out).2 k hlt
      have HX := Lib.hid (HF.out k)
      obtain ⟨x, hx⟩ : ∃ x, f k = x := ⟨_, rfl⟩
      have HXK := Lib.hid hx
      rw [hx] at hck
      clear hx
      cases s with
      | true =>
        go_wp2_with fail
        go_round
        case rel => exact ⟨k + 1, by omega, by omega, by go_num, trivial, fun h => by cases h⟩
        case measure => simp only [intOf]; omega
      | false =>
        by_cases hx0 : x = 0
        · subst hx0
          go_wp2_with fail
          go_round
          case rel =>
            refine ⟨k + 1, by omega, by omega, by go_num, trivial, fun h j h1 h2 => ?_⟩
            by_cases e : j = k
            · rw [e]; exact HXK.out
            · exact HZ.out rfl j h1 (by omega)
          case measure => simp only [intOf]; omega
        · have hd : ((x : Int) != 0) = true := by simp; exact hx0
          have hd2 : ((x : Int) = 0) = False := by simp; exact hx0
          have HX0 := Lib.hid hx0
          clear hx0
          go_wp2_with fail
          go_ret
          refine ⟨?_, by rw [HB.out]; exact PB.out⟩
          have : R = false := by
            rw [← HR.out]
            unfold rightB
            rw [Bool.false_or]
            exact decide_eq_false fun h => HX0.out (HXK.out ▸ h ⟨k, hlt⟩ hk4)
          rw [this]; rfl
    · obtain rfl : k = 16 := by omega
      go_wp2_with fail
      go_ret
      refine ⟨?_, by rw [HB.out]; exact PB.out⟩
      have : R = true := by
        rw [← HR.out]
        unfold rightB
        cases s with
        | true => rfl
        | false => rw [Bool.false_or]; exact decide_eq_true fun i hi => HZ.out rfl i.1 hi i.2
      rw [this]; rfl
set_option maxRecDepth 100000 in
theorem rSize_any (s : Bool) (f : Nat → Nat) (w : World) :
    Calls Try.prog 54 #[.agg (addrL s f).toArray] w fun e w' => e = .returned (.int .i64 (digitsI s)) ∧ Below w.heap.size w w' := by
  obtain ⟨L, hL⟩ : ∃ L, addrL s f = L := ⟨_, rfl⟩
  rw [hL]
  have HL := Lib.hid hL
  clear hL
  go_enter Try.func54, Try.ntmps54
  go_upto_region 1 with fail
  refine cut_world (fun X => X.cell? ⟨w.heap.size, 0, none⟩ = some (.bool s) ∧ Below w.heap.size w X) ⟨by rw [(Whole.new _ _ _).cell, ← HL.out]; rfl, below_alloc (Below.refl _ _) _⟩ ?_
  rintro W ⟨p1, pb⟩
  have PB := Lib.hid pb
  clear pb
  cases s
  · go_wp2_with fail
    go_ret
    exact ⟨rfl, PB.out⟩
  · go_wp2_with fail
    go_ret
    exact ⟨rfl, PB.out⟩
end Tri
end Go.Proofs.Ytcpfchfhcfdcpaa
