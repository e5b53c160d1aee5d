/- Package aditlaw17: alive; a limiter that one address alone asks. -/
import Derived.Test.YtlccgplgbokgkaaLimSome
namespace Go.Proofs.Ytlccgplgbokgkaa
namespace Lim
open Go.ChangeShapes Go.WideShapes Go.ChangeAt Go.RowKit Go.Maps
open Num Mem Words Chacha Aead Poly Adr Ops Quiet Stamp RowV

theorem nought_lt : ∀ i, nought i < 256 := fun _ => by show 0 < 256; omega
theorem nought_right : rightB false nought = true := by decide
/-- the key of the address of noughts -/
theorem key0 : ∃ K, placeO Try.prog 57 false nought = some K ∧ WideAt.IsKeyLit K := ⟨_, place_some nought_right, place_key nought_lt _ (place_some nought_right)⟩

/-- the list of buckets behind k asks at 0 -/
def aliveL (K : Lit) (k : Nat) : List Bk := if k = 0 then [] else [(K, (250 - 50 * min k 5 : Nat), 0)]
theorem ask_alive (K : Lit) : ∀ k, k < 6 → ask (aliveL K k) 0 (some K) 0 = (decide (k < 5), 0, aliveL K (k + 1), 0) := by
  have h : ∀ x : Int, lk [(K, x, 0)] K = some (x, 0) := fun x => by rw [lk_cons, if_pos rfl]
  have hl : ∀ x : Int, left1000 0 [(K, x, 0)] = [(K, x, 0)] := fun x => by unfold left1000; simp
  have hp : ∀ (x : Int) (v : Int × Int), putL [(K, x, 0)] K v = [(K, v)] := fun x v => by unfold putL; rw [h]; simp
  intro k hk
  rcases Nat.eq_zero_or_pos k with rfl | h0
  · rfl
  · have e : aliveL K k = [(K, ((250 - 50 * min k 5 : Nat) : Int), 0)] := by unfold aliveL; rw [if_neg (by omega)]
    have e2 : aliveL K (k + 1) = [(K, ((250 - 50 * min (k + 1) 5 : Nat) : Int), 0)] := by unfold aliveL; rw [if_neg (by omega)]
    rw [e, e2]
    unfold ask
    dsimp only
    rw [if_neg (by unfold okT; omega), hl, h]
    dsimp only
    have hlev : lev (((250 - 50 * min k 5 : Nat) : Int), 0) 0 = ((250 - 50 * min k 5 : Nat) : Int) := by unfold lev; dsimp only; omega
    rw [hlev, hp, hp]
    by_cases c : k < 5
    · rw [if_neg (by omega), decide_eq_true c, show ((250 - 50 * min k 5 : Nat) : Int) - 50 = ((250 - 50 * min (k + 1) 5 : Nat) : Int) by omega]
    · rw [if_pos (by omega), decide_eq_false c, show ((250 - 50 * min k 5 : Nat) : Int) = ((250 - 50 * min (k + 1) 5 : Nat) : Int) by omega]
theorem ask_alive6 (K : Lit) : ask (aliveL K 6) 0 (some K) 50 = (true, 0, [(K, 0, 50)], 50) := by
  have e : aliveL K 6 = [(K, 0, 0)] := rfl
  rw [e]
  unfold ask left1000 putL
  simp [lk_cons, lev, okT]
  rfl

set_option maxRecDepth 100000 in
theorem alive_ok (w : World) : Calls Try.prog 15 #[] w fun e w' => e = .returned (.bool true) ∧ Below w.heap.size w w' := by
  obtain ⟨K, hK, hKK⟩ := key0
  have HC := Lib.hid (fun g b L last D t w (h : LW w g b L last D) => allow_any g b L last D false nought nought_lt t w h)
  simp only [hK] at HC
  obtain ⟨A, hA⟩ : ∃ A : Array Value, (addrL false nought).toArray = A := ⟨_, rfl⟩
  have HB := Lib.hid addr_built0
  rw [hA] at HC HB
  have HN := Lib.hid (new_any w)
  clear hA hK
  go_enter Try.func15, Try.ntmps15
  go_wp2_with fail
  refine HN.out.mono ?_
  rintro e w1 ⟨g, b, hg, hb, rfl, hb1, D, hl⟩
  have HL := Lib.hid (show LW w1 g b (aliveL K 0) 0 D from hl)
  have HB1 := Lib.hid hb1
  clear hl hb1
  go_wp2_with fail
  go_loopw [2, 3, 4, 5] (fun n i _ _ wr => ∃ k : Nat, k ≤ 6 ∧ n = .int .i64 (min k 5 : Nat) ∧ i = .int .i64 k ∧ (∃ D, LW wr g b (aliveL K k) 0 D) ∧ Below w.heap.size w wr) (fun _ i _ _ _ => 6 - (intOf i).toNat)
  case atStart => exact ⟨0, by omega, rfl, rfl, ⟨D, HL.out⟩, HB1.out⟩
  case round =>
    obtain ⟨k, hk, rfl, rfl, ⟨D1, hl1⟩, hbel⟩ := hrel
    have HL1 := Lib.hid hl1
    have HBL := Lib.hid hbel
    clear hl1 hbel HL HB1
    by_cases hlt : k < 6
    · have hk2 : IntKind.i64.wrap ((k : Int) + 1) = (k : Int) + 1 := by rw [IntKind.wrap_i64]; omega
      have C := Lib.hid (HC.out g b _ 0 D1 0 wr HL1.out)
      rw [ask_alive K k hlt] at C
      obtain ⟨m, hm⟩ : ∃ m : Nat, min k 5 = m := ⟨_, rfl⟩
      rw [hm]
      have hm5 : m ≤ 5 := by omega
      have hm2 : IntKind.i64.wrap ((m : Int) + 1) = (m : Int) + 1 := by rw [IntKind.wrap_i64]; omega
      by_cases h5 : k < 5
      · have d5 : decide (k < 5) = true := decide_eq_true h5
        rw [d5] at C
        have HM := Lib.hid (show m + 1 = min (k + 1) 5 by omega)
        clear hm
        go_wp2_with (refine wpList_built0 rfl 25 rfl A HB.out ?_)
        refine C.out.mono ?_
        rintro e w2 ⟨rfl, ⟨D2, hl2⟩, htw⟩
        have HL2 := Lib.hid hl2
        have HB2 := Lib.hid (HBL.out.trans (htw.below (Nat.le_trans HBL.out.size (Nat.le_refl _)) hg hb))
        clear hl2 htw
        go_wp2_with fail
        go_round
        case rel => exact ⟨k + 1, by omega, by rw [← HM.out]; go_num, by go_num, ⟨D2, HL2.out⟩, HB2.out⟩
        case measure => simp [intOf]; omega
      · have d5 : decide (k < 5) = false := decide_eq_false h5
        rw [d5] at C
        have HM := Lib.hid (show m = min (k + 1) 5 by omega)
        clear hm
        go_wp2_with (refine wpList_built0 rfl 25 rfl A HB.out ?_)
        refine C.out.mono ?_
        rintro e w2 ⟨rfl, ⟨D2, hl2⟩, htw⟩
        have HL2 := Lib.hid hl2
        have HB2 := Lib.hid (HBL.out.trans (htw.below (Nat.le_trans HBL.out.size (Nat.le_refl _)) hg hb))
        clear hl2 htw
        go_wp2_with fail
        go_round
        case rel => exact ⟨k + 1, by omega, by rw [← HM.out], by go_num, ⟨D2, HL2.out⟩, HB2.out⟩
        case measure => simp [intOf]; omega
    · obtain rfl : k = 6 := by omega
      have C := Lib.hid (HC.out g b _ 0 D1 50 wr HL1.out)
      rw [ask_alive6 K] at C
      go_wp2_with (refine wpList_built0 rfl 25 rfl A HB.out ?_)
      refine C.out.mono ?_
      rintro e w2 ⟨rfl, ⟨D2, hl2⟩, htw⟩
      have CC := Lib.hid (count_any g b _ _ D2 w2 hl2)
      have HB2 := Lib.hid (HBL.out.trans (htw.below (Nat.le_trans HBL.out.size (Nat.le_refl _)) hg hb))
      clear hl2 htw C
      go_wp2_with fail
      refine CC.out.mono ?_
      rintro e w3 ⟨rfl, rfl⟩
      go_wp2_with fail
      go_ret
      exact ⟨rfl, HB2.out⟩
end Lim
end Go.Proofs.Ytlccgplgbokgkaa
