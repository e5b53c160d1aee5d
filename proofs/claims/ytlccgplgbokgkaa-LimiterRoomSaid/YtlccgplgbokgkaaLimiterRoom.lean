/- The walk of LimiterRoom. -/
import Derived.Test.YtlccgplgbokgkaaLimOne
namespace Go.Proofs.Ytlccgplgbokgkaa
namespace LimiterRoom
open Go.ChangeShapes Go.WideShapes Go.ChangeAt Go.RowKit Go.Maps
open Num Mem Words Chacha Aead Poly Adr Ops Quiet Stamp RowV Lim

/-- the i-th address's bytes -/
def roomF (v : Nat) (j : Nat) : Nat := if j = 0 then 1 else if j = 1 then v else 0
theorem roomF_lt {v : Nat} (h : v < 256) (j : Nat) : roomF v j < 256 := by unfold roomF; split <;> (try split) <;> omega
theorem room_right (v : Nat) : rightB false (roomF v) = true := by
  unfold rightB
  rw [Bool.false_or, decide_eq_true_eq]
  intro i h4
  unfold roomF
  rw [if_neg (by omega), if_neg (by omega)]
theorem room_built (v : Nat) : Try.prog.built 23 [(0, .int .u8 1), (1, .int .u8 (v : Nat))] = some (byteCells (roomF v) 16).toArray := by kernel_rfl
theorem addr_built (f : Nat → Nat) : Try.prog.built 25 [(1, .agg (byteCells f 16).toArray)] = some (addrL false f).toArray := by kernel_rfl
/-- its key; bytes alone count -/
def rkey (P : Program) (T : TypeId) (v : Nat) : Lit := klit P T false (plF false (roomF (v % 256))) 32
theorem rkey_place {v : Nat} (h : v < 256) : placeO Try.prog 57 false (roomF v) = some (rkey Try.prog 57 v) := by
  unfold rkey
  rw [Nat.mod_eq_of_lt h]
  exact place_pl (roomF_lt h) (room_right v)
theorem rkey_inj (i j : Nat) (hi : i < 256) (hj : j < 256) (h : rkey Try.prog 57 i = rkey Try.prog 57 j) : i = j := by
  unfold rkey at h
  rw [Nat.mod_eq_of_lt hi, Nat.mod_eq_of_lt hj] at h
  have := (klit_inj (plF_lt (roomF_lt hi) false) (plF_lt (roomF_lt hj) false) (by omega) (by omega) (by omega) (by omega) h).2.1 1 (by omega)
  simpa [plF, roomF] using this
theorem rkey_key (i : Nat) : WideAt.IsKeyLit (rkey Try.prog 57 i) := klit_key false _ (plF_lt (roomF_lt (Nat.mod_lt _ (by omega))) false) 32 (by omega) (by omega)

structure RoomW (g b : Nat) (w : World) (t : Nat) (k : Nat) (wr : World) : Prop where
  bel : Below w.heap.size w wr
  st : ∃ last D, last ≤ (t : Int) ∧ LW wr g b (filled (rkey Try.prog 57) t (min k 32)) last D

set_option maxRecDepth 100000 in
set_option maxHeartbeats 2000000 in
theorem walk (n t : Int) (w : World) (h0 : (Lit.int .u8 n).wf = true) (h1 : (Lit.int .u16 t).wf = true) :
    Calls Try.prog 8 #[.int .u8 n, .int .u16 t] w fun e w' => e = .returned (.bool true) ∧ Below w.heap.size w w' := by
  obtain ⟨n, rfl, hn0⟩ := nat_u8 h0
  have hn : n < 256 := hn0
  obtain ⟨t, rfl, ht0⟩ := RowA.nat_u16 h1
  have ht : t < 65536 := ht0
  clear h0 h1 hn0 ht0
  have HOK := Lib.hid (show okT (t : Int) by unfold okT; omega)
  have HOK2 := Lib.hid (show okT ((t : Int) + 1000) by unfold okT; omega)
  obtain ⟨K, hK, hKK⟩ := key0
  have HC0 := Lib.hid (fun g b L last D t w (h : LW w g b L last D) => allow_any g b L last D false nought nought_lt t w h)
  simp only [hK] at HC0
  obtain ⟨A, hA⟩ : ∃ A : Array Value, (addrL false nought).toArray = A := ⟨_, rfl⟩
  have HB := Lib.hid addr_built0
  rw [hA] at HC0 HB
  have HN := Lib.hid (new_any w)
  clear hA hK
  go_enter Try.func8, Try.ntmps8
  go_wp2_with fail
  refine HN.out.mono ?_
  rintro e w1 ⟨g, b, hg, hb, rfl, hb1, D, hl⟩
  have HL := Lib.hid hl
  have HB1 := Lib.hid hb1
  clear hl hb1 HN
  go_wp2_with fail
  go_loopw [6, 7, 8] (fun i _ _ wr => ∃ k : Nat, k ≤ n ∧ i = .int .i64 k ∧ RoomW g b w t k wr) (fun i _ _ _ => n - (intOf i).toNat)
  case atStart => exact ⟨0, Nat.zero_le _, rfl, HB1.out, 0, D, by omega, HL.out⟩
  case round =>
    obtain ⟨k, hk, rfl, hR⟩ := hrel
    obtain ⟨hbel, last, D1, hlast, hlw⟩ := hR
    have HBL := Lib.hid hbel
    have HLW := Lib.hid hlw
    clear hbel hlw HL HB1
    by_cases hlt : k < n
    · have hk256 : k < 256 := by omega
      have hk2 : IntKind.i64.wrap ((k : Int) + 1) = (k : Int) + 1 := by rw [IntKind.wrap_i64]; omega
      have hk3 : IntKind.u8.wrap (k : Int) = (k : Int) := by rw [IntKind.wrap_u8]; omega
      have ht3 : IntKind.i64.wrap (t : Int) = (t : Int) := by rw [IntKind.wrap_i64]; omega
      have C := Lib.hid (allow_any g b _ last D1 false (roomF k) (roomF_lt hk256) t wr HLW.out)
      rw [rkey_place hk256, ask_filled _ rkey_inj t last HOK.out hlast k hk256] at C
      have HRB := Lib.hid (room_built k)
      have HAB := Lib.hid (addr_built (roomF k))
      obtain ⟨R, hRr⟩ : ∃ R : Array Value, (byteCells (roomF k) 16).toArray = R := ⟨_, rfl⟩
      obtain ⟨AR, hAR⟩ : ∃ AR : Array Value, (addrL false (roomF k)).toArray = AR := ⟨_, rfl⟩
      rw [hRr] at HRB HAB
      rw [hAR] at HAB C
      have hmin : (filled (rkey Try.prog 57) (t : Int) (min (k + 1) 32)).length = min (k + 1) 32 := by simp [filled]
      have HMIN := Lib.hid hmin
      clear hRr hAR hmin
      by_cases h32 : k < 32
      · rw [if_pos h32] at C
        have d32 : decide ((k : Int) < 32) = true := decide_eq_true (by omega)
        have d32' : decide ((32 : Int) ≤ (k : Int)) = false := decide_eq_false (by omega)
        have hk32 : (k : Int) < 32 := by omega
        go_wp2_with (first | (refine wpList_built2 rfl 23 0 1 (.const (.int .u8 1)) (.tmp 21) rfl (.int .u8 1) (.int .u8 (k : Nat)) rfl rfl R HRB.out ?_) | (refine wpList_built1 rfl 25 1 (.tmp 22) rfl (.agg R) rfl AR HAB.out ?_))
        refine C.out.mono ?_
        rintro e w3 ⟨rfl, ⟨D3, hl3⟩, htw⟩
        have HL3 := Lib.hid hl3
        have HB3 := Lib.hid (HBL.out.trans (htw.below HBL.out.size hg hb))
        have CC := Lib.hid (count_any g b _ _ D3 w3 hl3)
        rw [HMIN.out, show min (k + 1) 32 = k + 1 by omega] at CC
        have hc32 : ¬ (32 : Int) < ((k + 1 : Nat) : Int) := by omega
        have hc33 : ¬ (32 : Int) < (k : Int) + 1 := by omega
        clear hl3 htw C
        go_wp2_with fail
        refine CC.out.mono ?_
        rintro e w4 ⟨rfl, rfl⟩
        go_wp2_with fail
        go_round
        case rel => exact ⟨k + 1, by omega, by go_num, HB3.out, _, D3, Int.le_refl _, HL3.out⟩
        case measure => simp [intOf]; omega
      · rw [if_neg h32] at C
        have d32 : decide ((k : Int) < 32) = false := decide_eq_false (by omega)
        have d32' : decide ((32 : Int) ≤ (k : Int)) = true := decide_eq_true (by omega)
        have hk32 : ¬ (k : Int) < 32 := by omega
        have hk33 : (32 : Int) ≤ (k : Int) := by omega
        go_wp2_with (first | (refine wpList_built2 rfl 23 0 1 (.const (.int .u8 1)) (.tmp 21) rfl (.int .u8 1) (.int .u8 (k : Nat)) rfl rfl R HRB.out ?_) | (refine wpList_built1 rfl 25 1 (.tmp 22) rfl (.agg R) rfl AR HAB.out ?_))
        refine C.out.mono ?_
        rintro e w3 ⟨rfl, ⟨D3, hl3⟩, htw⟩
        have HL3 := Lib.hid hl3
        have HB3 := Lib.hid (HBL.out.trans (htw.below HBL.out.size hg hb))
        have CC := Lib.hid (count_any g b _ _ D3 w3 hl3)
        rw [HMIN.out, show min (k + 1) 32 = 32 by omega] at CC
        clear hl3 htw C
        go_wp2_with fail
        refine CC.out.mono ?_
        rintro e w4 ⟨rfl, rfl⟩
        go_wp2_with fail
        go_round
        case rel => exact ⟨k + 1, by omega, by go_num, HB3.out, _, D3, Int.le_refl _, HL3.out⟩
        case measure => simp [intOf]; omega
    · obtain rfl : k = n := by omega
      have ht3 : IntKind.i64.wrap (t : Int) = (t : Int) := by rw [IntKind.wrap_i64]; omega
      have ht4 : IntKind.i64.wrap ((t : Int) + 1000) = (t : Int) + 1000 := by rw [IntKind.wrap_i64]; omega
      have C := Lib.hid (HC0.out g b _ last D1 ((t : Int) + 1000) wr HLW.out)
      rw [ask_late _ t last _ K HOK2.out (by omega)] at C
      go_wp2_with (refine wpList_built0 rfl 25 rfl A HB.out ?_)
      refine C.out.mono ?_
      rintro e w3 ⟨rfl, ⟨D3, hl3⟩, htw⟩
      have HB3 := Lib.hid (HBL.out.trans (htw.below HBL.out.size hg hb))
      have HL3 := Lib.hid hl3
      have HAL := Lib.hid (alive_ok w3)
      clear hl3 htw C
      go_wp2_with fail
      refine HAL.out.mono ?_
      rintro e w4 ⟨rfl, hb4⟩
      have HB4 := Lib.hid (below_trans HB3.out hb4)
      have CC := Lib.hid (count_any g b _ _ D3 w4 (HL3.out.below hb4))
      clear hb4
      go_wp2_with fail
      refine CC.out.mono ?_
      rintro e w5 ⟨rfl, rfl⟩
      go_wp2_with fail
      go_ret
      exact ⟨rfl, HB4.out⟩
end LimiterRoom
end Go.Proofs.Ytlccgplgbokgkaa
