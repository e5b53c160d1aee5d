/- 'aditlaw20.PairNumbers' returns true at every input and writes nothing that was there: the walk. No condition. -/
import Derived.Test.YtcncdejdpcelpaaPairAli
import Derived.Test.YtcncdejdpcelpaaPairEq
import Derived.Test.YtcncdejdpcelpaaPairArg
import Derived.Deep.DeepCutAuto
namespace Go.Proofs.Ytcncdejdpcelpaa
namespace PairNumbers
open Go.ChangeShapes Go.WideShapes Go.ChangeAt Go.RowKit
open Num Mem Words Chacha Aead Poly Ops Quiet WinT Win Pr

/-- a slice of u32 numbers reads as a function -/
def Rd32 (w : World) (A : Option Addr) (n : Nat) (f : Nat → Nat) : Prop := n = 0 ∨ ∃ b off, A = some ⟨b, off, none⟩ ∧ b < w.heap.size ∧ ∀ i, i < n → w.cell? ⟨b, off + i, none⟩ = some (.int .u32 (f i : Nat))
theorem Rd32.below {w w' : World} {A : Option Addr} {n B : Nat} {f : Nat → Nat} (h : Rd32 w A n f) (hb : Below B w w') (hB : w.heap.size ≤ B) : Rd32 w' A n f := by
  rcases h with h | ⟨b, off, e, hl, hc⟩
  · exact .inl h
  · refine .inr ⟨b, off, e, Nat.lt_of_lt_of_le hl hb.size, fun i hi => ?_⟩
    rw [← hc i hi]
    unfold World.cell?
    rw [hb.block b (by omega)]
theorem and_lt (v : Nat) : ∃ T : Nat, T ≤ 262143 ∧ bits .and .u32 (v : Int) 262143 = (T : Int) := by
  have h : v % 2 ^ 32 &&& 262143 % 2 ^ 32 ≤ 262143 := Nat.and_le_right
  refine ⟨v % 2 ^ 32 &&& 262143 % 2 ^ 32, h, ?_⟩
  unfold bits
  rw [show IntKind.u32.bits = 32 from rfl]
  simp
  rw [IntKind.wrap_u32]
  simp at h
  omega

structure NW (w : World) (G : Nat) (P : PS) (sk : Nat) (X : World) : Prop where
  pr : Whole X G 35 (pairL { P with sent := sk }).toArray
  bel : Below w.heap.size w X
  lt : sk < 18446744073709551616

set_option maxRecDepth 100000 in
set_option maxHeartbeats 8000000 in
theorem walk_f (s r : Nat → Nat) (l m : Nat) (one : Bool) (hs : ∀ i, s i < 256) (hr : ∀ i, r i < 256) (hl : l < 4294967296) (hm : m < 4294967296) (sent : Nat) (hsent : sent < 18446744073709551616)
    (A2 : Option Addr) (n2 c2 : Nat) (f2 : Nat → Nat) (hf2 : ∀ i, f2 i < 256) (A3 : Option Addr) (n3 c3 : Nat) (f3 : Nat → Nat) (w : World) (h2 : Rd w A2 n2 f2) (h3 : Rd32 w A3 n3 f3) :
    Calls Try.prog 4 #[.agg (keysL s r l m one).toArray, .int .u64 sent, .slice A2 n2 c2, .slice A3 n3 c3] w fun e w' => e = .returned (.bool true) ∧ Below w.heap.size w w' := by
  have HNW := Lib.hid (fun w => new_ok s r l m one 0 rfl w)
  have HP0 := Lib.hid (show (newP s r l m one 0).ok from ⟨hs, hr, hl, hm, by show (-9223372036854775808 : Int) ≤ 0; omega, by show (0 : Int) ≤ 9223372036854775807; omega, by show (0 : Nat) < _; omega, by refine ⟨?_, ?_, ?_⟩ <;> (show (0 : Nat) < _; omega)⟩)
  generalize newP s r l m one 0 = P at HNW HP0
  have HSN := Lib.hid hsent
  have H2 := Lib.hid h2
  have H3 := Lib.hid h3
  have HF2 := Lib.hid hf2
  have HAL := Lib.hid (fun w => Pr.alive_any w)
  unfold pairV at HNW
  have HKS := Lib.hid (keysL_length s r l m one)
  obtain ⟨K, hK⟩ : ∃ K, keysL s r l m one = K := ⟨_, rfl⟩
  rw [hK] at HNW HKS ⊢
  obtain ⟨M, hM⟩ : ∃ M, pairL noP = M := ⟨_, rfl⟩
  have HMS := Lib.hid (show M.length = 72 by rw [← hM]; exact pairL_length _)
  have HZ := Lib.hid (show ∀ w, (zeroValue 35).run Try.prog w = .ok (.agg M.toArray) w from fun w => by rw [← hM]; exact zero_pair w)
  obtain ⟨N, hN⟩ : ∃ N, dataL 0 0 (.slice none 0 0) = N := ⟨_, rfl⟩
  have HNS := Lib.hid (show N.length = 3 by rw [← hN]; rfl)
  have HN1 := Lib.hid (show N.toArray.all (·.oneCell') = true by rw [← hN]; exact data_one _ _ _ _ _)
  have HZD := Lib.hid (show ∀ w, (zeroValue 41).run Try.prog w = .ok (.agg N.toArray) w from fun w => by rw [← hN]; exact zero_data w)
  have HN2 := Lib.hid (show ∀ X g T, Whole X g T N.toArray → X.cell? ⟨g, 2, none⟩ = some (.slice none 0 0) from fun X g T h => (data_at 0 0 _ (by rw [hN]; exact h)).2.2)
  have HNN := Lib.hid hN
  obtain ⟨L0, hL0⟩ : ∃ L, pairL P = L := ⟨_, rfl⟩
  have HL0S := Lib.hid (show L0.length = 72 by rw [← hL0]; exact pairL_length _)
  have HL01 := Lib.hid (show L0.toArray.all (·.oneCell') = true by rw [← hL0]; exact pair_one _)
  have HL0 := Lib.hid hL0
  obtain ⟨SI, hSI⟩ : ∃ SI : Int, (sent : Int) = SI := ⟨_, rfl⟩
  have HPT := Lib.hid (show ∀ X B, Whole X B 35 L0.toArray → Whole (X.setCell ⟨B, 68, none⟩ (.int .u64 SI)) B 35 (pairL { P with sent := sent }).toArray from fun X B h => by rw [← hSI]; exact put_sent (by rw [hL0]; exact h) _)
  have HCS := Lib.hid (show ∀ X B, Whole X B 35 L0.toArray → X.cell? ⟨B, 68, none⟩ = some (.int .u64 (P.sent : Nat)) from fun X B h => at_sent (by rw [hL0]; exact h))
  have HSI := Lib.hid hSI
  rw [hL0] at HNW
  rw [hSI]
  clear hK hM hN hL0 hSI hs hr hl hm hsent h2 h3 hf2
  go_enter Try.func4, Try.ntmps4
  go_upto_region 1 with fail
  refine cut_world (fun X => Whole X w.heap.size 28 K.toArray ∧ Below w.heap.size w X) ⟨Whole.new _ _ _, below_alloc (Below.refl _ _) _⟩ ?_
  rintro W1 ⟨k1, kb⟩
  have K1 := Lib.hid k1
  have KB := Lib.hid kb
  have HWL := Lib.hid (show w.heap.size ≤ W1.heap.size from kb.size)
  clear k1 kb
  have hz := HZ.out
  go_upto_region 4 with (first
    | (refine Poly.wpList_load_row_if rfl 28 (.tmp 4) rfl w.heap.size rfl 28 K _ K1.out rfl rfl (by rw [HKS.out]; kernel_rfl) ?_)
    | (go_at_call 9; refine (HNW.out _).mono ?_; rintro e w1 ⟨rfl, hb⟩; have KB1 := Lib.hid (below_trans KB.out hb); clear hb)
    | (refine wpList_store_row rfl 35 (.tmp 9) (.tmp 20) rfl w1.heap.size L0.toArray rfl rfl 35 _ (Whole.new _ _ _) (by rw [List.size_toArray, HL0S.out]; kernel_rfl) (by simp [HL0S.out, HMS.out]) HL01.out ?_))
  clear hz
  refine cut_world (fun X => Whole X w1.heap.size 35 L0.toArray ∧ Below w.heap.size w X ∧ w1.heap.size < X.heap.size) ⟨setRow_heap _ _ _ _ _ _ (Whole.new _ _ _), below_setRow (below_alloc' KB1.out (KB1.out.size) _) KB1.out.size _, Whole.lt (setRow_heap _ _ _ L0.toArray _ _ (Whole.new w1 35 M.toArray))⟩ ?_
  rintro W4 ⟨k1, kb, _⟩
  have HG := Lib.hid (show w.heap.size ≤ w1.heap.size from KB1.out.size)
  clear K1 KB KB1
  generalize w1.heap.size = G at k1 HG ⊢
  have K1 := Lib.hid k1
  have KB := Lib.hid kb
  have hfz := k1.free 68
  have hcs := HCS.out _ _ k1
  clear k1 kb
  go_wp2_with fail
  clear hfz hcs
  have HNW0 := Lib.hid (show NW w G P sent (W4.setCell ⟨G, 68, none⟩ (.int .u64 SI)) from ⟨HPT.out _ _ K1.out, KB.out.setCell HG.out _, HSN.out⟩)
  clear K1 KB HPT
  go_loopw [11, 12] (fun nx i wr => ∃ (k sk : Nat), k ≤ n2 ∧ k ≤ 60 ∧ nx = .int .u64 (sk : Nat) ∧ i = .int .i64 (k : Nat) ∧ NW w G P sk wr) (fun _ i _ => 60 - (intOf i).toNat)
  case atStart => exact ⟨0, sent, Nat.zero_le _, Nat.zero_le _, by rw [← HSI.out], rfl, HNW0.out⟩
  case round =>
    clear HNW0
    obtain ⟨k, sk, hk, hk60, rfl, rfl, hnw⟩ := hrel
    have HW := Lib.hid hnw
    clear hnw
    by_cases hlt : k < n2 ∧ k < 60
    · obtain ⟨hk1, hk2⟩ := hlt
      have hk3 : (k : Int) < 60 := by omega
      obtain ⟨bb, off, rfl, hbl, hx⟩ := (H2.out.below HW.out.bel (Nat.le_refl _)).elim (fun h0 => absurd h0 (by omega)) id
      have HX := Lib.hid hx
      have HBL := Lib.hid hbl
      clear hx hbl
      go_upto_if 40 with fail
      go_cut [13] (fun t X => ∃ T : Int, t = .int .i64 T ∧ -9223372036854775808 ≤ T ∧ T ≤ 9223372036854775807 ∧ X = wr)
      case first =>
        by_cases h3 : k < n3
        · obtain ⟨b3, off3, rfl, hbl3, hx3⟩ := (H3.out.below HW.out.bel (Nat.le_refl _)).elim (fun h0 => absurd h0 (by omega)) id
          have hcell := hx3 k h3
          obtain ⟨T, hT, hTT⟩ := and_lt (f3 k)
          have hw : IntKind.i64.wrap (T : Int) = (T : Int) := by rw [IntKind.wrap_i64]; omega
          clear hx3
          generalize f3 k = v at hcell hTT
          go_wp2_with fail
          go_meet
          exact ⟨(T : Int), by rfl, by omega, by omega, rfl⟩
        · go_wp2_with fail
          go_meet
          exact ⟨1, rfl, by omega, by omega, rfl⟩
      case rest =>
        obtain ⟨T, rfl, hT0, hT1, rfl⟩ := hcut
        have hq0 := HF2.out k
        have hx1 := HX.out k hk1
        have HXC := Lib.hid (show ∀ Y, Below wc.heap.size wc Y → Y.cell? ⟨bb, off + k, none⟩ = some (.int .u8 (f2 k : Nat)) from fun Y hY => by rw [← hx1]; unfold World.cell?; rw [hY.block bb HBL.out])
        clear hx1 HX
        generalize f2 k = q at hq0 HXC
        have hqw : IntKind.i64.wrap (q : Int) = (q : Int) := by rw [IntKind.wrap_i64]; omega
        have HQ := Lib.hid (show Pr.PS.ok { P with sent := sk } from ⟨HP0.out.hs, HP0.out.hr, HP0.out.hl, HP0.out.hm, HP0.out.b0, HP0.out.b1, HW.out.lt, HP0.out.hw⟩)
        have HLS := Lib.hid (pairL_length { P with sent := sk })
        have HL1 := Lib.hid (pair_one { P with sent := sk })
        have HEQ := Lib.hid (Pr.pair_eq { P with sent := sk } HQ.out)
        have HG0 := Lib.hid HW.out.pr
        by_cases hse : sE { P with sent := sk } T q = 0
        · have hsp : sk < spent := by
            unfold sE at hse
            by_cases h1 : oldB { P with sent := sk } T = true
            · rw [if_pos h1] at hse; cases hse
            · rw [if_neg h1] at hse
              by_cases h2 : spent ≤ sk
              · rw [if_pos h2] at hse; cases hse
              · omega
          have HSE := Lib.hid (show ∀ w A c, Rd w A q (fun _ => 0) → Calls Try.prog 7 #[.agg (pairL { P with sent := sk }).toArray, .slice A q c, .int .i64 T] w fun e w' => ∃ x, e = .returned (.tuple #[.agg (pairL { P with sent := sk + 1 }).toArray, .agg (dataL P.m sk x).toArray, .int .i64 0]) ∧ (∃ A' : Option Addr, x = .slice A' (q + 16) (q + 16)) ∧ Below w.heap.size w w' from
            fun w A c hr => (Pr.seal_yes { P with sent := sk } HQ.out T hT0 hT1 A q c (fun _ => 0) (fun _ => by omega) w hr hse).mono fun e w' ⟨A', c', he, ho, hb⟩ => ⟨_, he, ⟨A', rfl⟩, hb⟩)
          have HLS' := Lib.hid (pairL_length { P with sent := sk + 1 })
          have HL1' := Lib.hid (pair_one { P with sent := sk + 1 })
          obtain ⟨SK, hSK⟩ : ∃ SK : Int, (sk : Int) = SK := ⟨_, rfl⟩
          have HC1 := Lib.hid (show ∀ X g T, Whole X g T (pairL { P with sent := sk + 1 }).toArray → X.cell? ⟨g, 68, none⟩ = some (.int .u64 (SK + 1)) from fun X g T h => by rw [at_sent h, ← hSK]; rfl)
          have HDC0 := Lib.hid (show ∀ v X g T, Whole X g T (dataL P.m sk v).toArray → X.cell? ⟨g, 1, none⟩ = some (.int .u64 SK) ∧ X.cell? ⟨g, 2, none⟩ = some v from fun v X g T h => ⟨by rw [(data_at _ _ _ h).2.1, hSK], (data_at _ _ _ h).2.2⟩)
          have HDS0 := Lib.hid (show ∀ v, (dataL P.m sk v).length = 3 from fun _ => rfl)
          have HD10 := Lib.hid (show ∀ A k c, (dataL P.m sk (.slice A k c)).toArray.all (·.oneCell') = true from fun _ _ _ => data_one _ _ _ _ _)
          have hsk : IntKind.u64.wrap (SK + 1) = SK + 1 := by unfold spent at hsp; rw [IntKind.wrap_u64, ← hSK]; omega
          have hge : decide ((18446744073709543423 : Int) ≤ SK) = false := decide_eq_false (by unfold spent at hsp; omega)
          have HSK := Lib.hid hSK
          have HSP := Lib.hid hsp
          obtain ⟨D, hD⟩ : ∃ D : Value → List Value, dataL P.m sk = D := ⟨_, rfl⟩
          obtain ⟨L, hL⟩ : ∃ L, pairL { P with sent := sk } = L := ⟨_, rfl⟩
          obtain ⟨L', hL'⟩ : ∃ L, pairL { P with sent := sk + 1 } = L := ⟨_, rfl⟩
          have HL' := Lib.hid hL'
          rw [hD] at HSE HDC0 HDS0 HD10
          rw [hL] at HSE HLS HL1 HEQ HG0
          rw [hL'] at HSE HLS' HL1' HC1
          rw [hSK]
          clear hD hL hL' hSK hse hsp hT0 hT1
          go_upto_region 12 with fail
          refine region_start (fun Y => Below wc.heap.size wc Y) (by kernel_rfl) (below_drewN (Below.refl _ _) 1) ?_
          intro V0 hS
          refine take 0 (.agg L.toArray) rfl (by kernel_rfl) (by kernel_rfl) (by kernel_rfl) (fun _ _ _ h => h) (by rfl) hS (fun V hV => run_mid_in 35 (.tmp 9) rfl G 0 rfl L _ (whole_range (HG0.out.below hV HG0.out.lt)) rfl rfl (by rw [HLS.out]; kernel_rfl)) ?_
          try simp only [Act.put, List.setIfInBounds_toArray, List.set_cons_zero, List.set_cons_succ]
          refine take 1 _ rfl (by kernel_rfl) (by kernel_rfl) (by kernel_rfl) (fun _ _ _ h => h) (by rfl) hS (by intro w _; go_simp; with_reducible rfl) ?_
          try simp only [Act.put, List.setIfInBounds_toArray, List.set_cons_zero, List.set_cons_succ]
          refine take 2 _ rfl (by kernel_rfl) (by kernel_rfl) (by kernel_rfl) (fun _ _ _ h => h) (by rfl) hS (by intro w _; go_simp; with_reducible rfl) ?_
          try simp only [Act.put, List.setIfInBounds_toArray, List.set_cons_zero, List.set_cons_succ]
          refine take 3 _ rfl (by kernel_rfl) (by kernel_rfl) (by kernel_rfl) (fun _ _ _ h => h) (by rfl) hS (by intro w _; go_simp; with_reducible rfl) ?_
          try simp only [Act.put, List.setIfInBounds_toArray, List.set_cons_zero, List.set_cons_succ]
          refine take 4 _ rfl (by kernel_rfl) (by kernel_rfl) (by kernel_rfl) (fun _ _ _ h => h) (by rfl) hS (by intro w hw; have hcl := HXC.out w hw; go_simp; with_reducible rfl) ?_
          try simp only [Act.put, List.setIfInBounds_toArray, List.set_cons_zero, List.set_cons_succ]
          refine take 5 _ rfl (by kernel_rfl) (by kernel_rfl) (by kernel_rfl) (fun _ _ _ h => h) (by rfl) hS (by intro w _; go_simp; with_reducible rfl) ?_
          try simp only [Act.put, List.setIfInBounds_toArray, List.set_cons_zero, List.set_cons_succ]
          refine take 7 _ rfl (by kernel_rfl) (by kernel_rfl) (by kernel_rfl) (fun _ _ _ h => h) (by rfl) hS (by intro w _; go_simp; with_reducible rfl) ?_
          try simp only [Act.put, List.setIfInBounds_toArray, List.set_cons_zero, List.set_cons_succ]
          obtain ⟨Φ, hΦ⟩ : ∃ Φ : Nat → Value → World → Prop, Φ = fun i => sealPhi (q) L'.toArray D 0 (fun x _ => ∃ A' : Option Addr, x = .slice A' (q + 16) (q + 16)) M N wc ((fun i => match i with | 6 => 0 | 8 => 1 | 9 => 2 | 10 => 3 | 11 => 4 | 12 => 5 | 13 => 6 | _ => 7) i) := ⟨_, rfl⟩
          have f0 : ∀ v w, Φ 6 v w ↔ sealPhi (q) L'.toArray D 0 (fun x _ => ∃ A' : Option Addr, x = .slice A' (q + 16) (q + 16)) M N wc 0 v w := fun v w => by rw [hΦ]; exact Iff.rfl
          have f1 : ∀ v w, Φ 8 v w ↔ sealPhi (q) L'.toArray D 0 (fun x _ => ∃ A' : Option Addr, x = .slice A' (q + 16) (q + 16)) M N wc 1 v w := fun v w => by rw [hΦ]; exact Iff.rfl
          have f2 : ∀ v w, Φ 9 v w ↔ sealPhi (q) L'.toArray D 0 (fun x _ => ∃ A' : Option Addr, x = .slice A' (q + 16) (q + 16)) M N wc 2 v w := fun v w => by rw [hΦ]; exact Iff.rfl
          have f3 : ∀ v w, Φ 10 v w ↔ sealPhi (q) L'.toArray D 0 (fun x _ => ∃ A' : Option Addr, x = .slice A' (q + 16) (q + 16)) M N wc 3 v w := fun v w => by rw [hΦ]; exact Iff.rfl
          have f4 : ∀ v w, Φ 11 v w ↔ sealPhi (q) L'.toArray D 0 (fun x _ => ∃ A' : Option Addr, x = .slice A' (q + 16) (q + 16)) M N wc 4 v w := fun v w => by rw [hΦ]; exact Iff.rfl
          have f5 : ∀ v w, Φ 12 v w ↔ sealPhi (q) L'.toArray D 0 (fun x _ => ∃ A' : Option Addr, x = .slice A' (q + 16) (q + 16)) M N wc 5 v w := fun v w => by rw [hΦ]; exact Iff.rfl
          have f6 : ∀ v w, Φ 13 v w ↔ sealPhi (q) L'.toArray D 0 (fun x _ => ∃ A' : Option Addr, x = .slice A' (q + 16) (q + 16)) M N wc 6 v w := fun v w => by rw [hΦ]; exact Iff.rfl
          have f7 : ∀ v w, Φ 14 v w ↔ sealPhi (q) L'.toArray D 0 (fun x _ => ∃ A' : Option Addr, x = .slice A' (q + 16) (q + 16)) M N wc 7 v w := fun v w => by rw [hΦ]; exact Iff.rfl
          have hst : ∀ i v w w', Φ i v w → Below w.heap.size w w' → Φ i v w' := fun i v w w' h hb => by rw [hΦ] at h ⊢; exact sealPhi_stays (fun _ _ _ h _ => h) h hb
          clear hΦ
          refine FloatD.floatL (W := wc) [(6, 54), (8, 56), (9, 47), (10, 57), (11, 58), (12, 59), (13, 14), (14, 15)] [6, 8, 9, 10, 11, 12, 13, 14] [6, 8, 9, 10, 13, 14] [11, 12] Φ (fun i => i == 13 || i == 14) 3 rfl (by rfl) (by rfl) (by rfl) (by kernel_rfl) (by kernel_rfl) (by kernel_rfl) (by kernel_rfl) (by kernel_rfl) (by kernel_rfl) (fun ν => rfl) hS (fun _ h => h) (fun _ _ _ _ _ h => h) hst ?_ ?_ ?_
          · refine ⟨⟨_, _, rfl, ?_⟩, ⟨_, _, rfl, ?_⟩, ⟨_, _, rfl, ?_⟩, ⟨_, _, rfl, ?_⟩, ⟨_, _, rfl, ?_⟩, ⟨_, _, rfl, ?_⟩, trivial⟩
            · intro ν V hV hd
              simp only [FloatD.puts, Act.put, List.setIfInBounds_toArray, List.set_cons_zero, List.set_cons_succ]
              refine FloatD.step_made (v := .slice (some ⟨V.heap.size, 0, none⟩) q q) (b := .cells (byteCells (fun _ => 0) q).toArray 5) ?_ ?_ rfl
              · exact run_made _ _ rfl q (by omega) rfl rfl
              · refine (f0 _ _).mpr ?_
                exact ⟨V.heap.size, rfl, Rd.of_whole (Whole.new _ _ _)⟩
            · intro ν V hV hd
              obtain ⟨g, eg, hrd⟩ := (f0 _ _).mp (hd 6 (by simp) (by kernel_rfl))
              simp only [FloatD.puts, Act.put, List.setIfInBounds_toArray, List.set_cons_zero, List.set_cons_succ]
              rw [eg]
              refine FloatD.step_call (f := 7) (args := #[.agg L.toArray, .slice (some ⟨g, 0, none⟩) q q, .int .i64 T]) ?_ ?_ rfl
              · go_simp
                try with_reducible rfl
              refine (HSE.out V _ q hrd).mono ?_
              rintro e w' ⟨x, rfl, hx, hb⟩
              exact ⟨_, rfl, (f1 _ _).mpr ⟨_, rfl, hx⟩, hb⟩
            · intro ν V hV hd
              obtain ⟨x, ex, hx⟩ := (f1 _ _).mp (hd 8 (by simp) (by kernel_rfl))
              simp only [FloatD.puts, Act.put, List.setIfInBounds_toArray, List.set_cons_zero, List.set_cons_succ]
              rw [ex]
              exact FloatD.step_value (by go_simp; try with_reducible rfl) ((f2 _ _).mpr ⟨x, rfl, hx⟩) rfl
            · intro ν V hV hd
              obtain ⟨x, ex, hx⟩ := (f2 _ _).mp (hd 9 (by simp) (by kernel_rfl))
              simp only [FloatD.puts, Act.put, List.setIfInBounds_toArray, List.set_cons_zero, List.set_cons_succ]
              rw [ex]
              exact FloatD.step_value (v := .agg L'.toArray) (by go_simp; try with_reducible rfl) ((f3 _ _).mpr rfl) rfl
            · intro ν V hV hd
              simp only [FloatD.puts, Act.put, List.setIfInBounds_toArray, List.set_cons_zero, List.set_cons_succ]
              refine FloatD.step_new (T := 35) (zs := M.toArray) ?_ ((f6 _ _).mpr ⟨_, rfl, hV.size, Whole.new _ _ _⟩)
              have hz := HZ.out
              go_simp
              try rfl
            · intro ν V hV hd
              simp only [FloatD.puts, Act.put, List.setIfInBounds_toArray, List.set_cons_zero, List.set_cons_succ]
              refine FloatD.step_new (T := 41) (zs := N.toArray) ?_ ((f7 _ _).mpr ⟨_, rfl, hV.size, Whole.new _ _ _⟩)
              have hz := HZD.out
              go_simp
              try rfl
          · refine ⟨⟨rfl, _, _, rfl, ?_⟩, ⟨rfl, _, _, rfl, ?_⟩, trivial⟩
            · intro ν V hV hd
              obtain ⟨x, ex, hx⟩ := (f2 _ _).mp (hd 9 (by simp) (by kernel_rfl))
              refine ⟨.agg (D x).toArray, (f4 _ _).mpr ⟨x, rfl, hx⟩, fun V' => ?_⟩
              simp only [FloatD.puts, Act.put, List.setIfInBounds_toArray, List.set_cons_zero, List.set_cons_succ]
              rw [ex]
              go_simp
              try with_reducible rfl
            · intro ν V hV hd
              obtain ⟨x, ex, hx⟩ := (f2 _ _).mp (hd 9 (by simp) (by kernel_rfl))
              refine ⟨.int .i64 0, (f5 _ _).mpr rfl, fun V' => ?_⟩
              simp only [FloatD.puts, Act.put, List.setIfInBounds_toArray, List.set_cons_zero, List.set_cons_succ]
              rw [ex]
              go_simp
              try with_reducible rfl
          intro ν V3 hS ⟨h0, h1, h2, h3, h4, h5, h6, h7, _⟩ ha
          obtain ⟨gm, em, -⟩ := (f0 _ _).mp h0
          obtain ⟨x1, ex1, -⟩ := (f1 _ _).mp h1
          obtain ⟨x2, ex2, -⟩ := (f2 _ _).mp h2
          have e3 := (f3 _ _).mp h3
          obtain ⟨x, e4, hx⟩ := (f4 _ _).mp h4
          have e5 := (f5 _ _).mp h5
          obtain ⟨gp, e6, hgp, hwp⟩ := (f6 _ _).mp h6
          obtain ⟨gd, e7, hgd, hwd⟩ := (f7 _ _).mp h7
          have hne : gp ≠ gd := fun e => ha 13 (by simp) 14 (by simp) (by decide) rfl rfl gp (by rw [e6]; rfl) (by rw [e7, e]; rfl)
          clear ha hst h0 h1 h2 h3 h4 h5 h6 h7 f0 f1 f2 f3 f4 f5 f6 f7
          simp only [FloatD.puts, Act.put, List.setIfInBounds_toArray, List.set_cons_zero, List.set_cons_succ]
          rw [em, ex1, ex2, e3, e4, e5, e6, e7]
          clear em ex1 ex2 e3 e4 e5 e6 e7
          obtain ⟨A', rfl⟩ := hx
          obtain ⟨DV, hDV⟩ : ∃ DV, D (.slice A' (q + 16) (q + 16)) = DV := ⟨_, rfl⟩
          have HDS := Lib.hid (show DV.length = 3 by rw [← hDV]; exact HDS0.out _)
          have HD1 := Lib.hid (show DV.toArray.all (·.oneCell') = true by rw [← hDV]; exact HD10.out _ _ _)
          have HDC := Lib.hid (show ∀ X g T, Whole X g T DV.toArray → X.cell? ⟨g, 1, none⟩ = some (.int .u64 SK) ∧ X.cell? ⟨g, 2, none⟩ = some (.slice A' (q + 16) (q + 16)) from fun X g T h => HDC0.out _ X g T (by rw [hDV]; exact h))
          rw [hDV]
          clear hDV
          refine alone 15 rfl (by kernel_rfl) (by rfl) ?_
          intro KK hKK
          refine wp_store_row 35 (.tmp 14) (.tmp 57) rfl gp L'.toArray rfl rfl 35 _ hwp (by rw [List.size_toArray, HLS'.out]; kernel_rfl) (by first | rfl | rw [List.size_toArray, List.size_toArray, HLS'.out, HMS.out]) (HL1'.out) ?_
          replace hwd := Whole.farRow hwd hne.symm L'.toArray
          replace hwp := setRow_heap _ _ _ L'.toArray _ _ hwp
          replace hS := below_setRow hS hgp L'.toArray
          refine hKK.out _ _ hS ?_
          clear hKK KK
          try simp only [Act.put]
          refine alone 16 rfl (by kernel_rfl) (by rfl) ?_
          intro KK hKK
          refine wp_store_row 41 (.tmp 15) (.tmp 58) rfl gd DV.toArray rfl rfl 41 _ hwd (by rw [List.size_toArray, HDS.out]; kernel_rfl) (by first | rfl | rw [List.size_toArray, List.size_toArray, HDS.out, HNS.out]) (HD1.out) ?_
          replace hwp := Whole.farRow hwp hne DV.toArray
          replace hwd := setRow_heap _ _ _ DV.toArray _ _ hwd
          replace hS := below_setRow hS hgd DV.toArray
          refine hKK.out _ _ hS ?_
          clear hKK KK
          try simp only [Act.put]
          refine take 17 _ rfl (by kernel_rfl) (by kernel_rfl) (by kernel_rfl) (fun _ _ _ h => h) (by rfl) hS (by intro w _; go_simp; with_reducible rfl) ?_
          try simp only [Act.put, List.setIfInBounds_toArray, List.set_cons_zero, List.set_cons_succ]
          refine region_end (by kernel_rfl) ?_
          have HGP := Lib.hid hwp
          have HGD := Lib.hid hwd
          have HGL := Lib.hid (HG0.out.below hS HG0.out.lt)
          have HBB := Lib.hid (below_trans HW.out.bel hS)
          have HXC2 := Lib.hid (HXC.out _ hS)
          clear hwp hwd hS hgp hgd hne
          generalize hX3 : (V3.setRow gp L'.toArray).setRow gd DV.toArray = X3 at HGP HGD HGL HBB HXC2 ⊢
          clear hX3
          obtain ⟨d1, d2⟩ := HDC.out _ _ _ HGD.out
          have c1 := HC1.out _ _ _ HGP.out
          have hk2w : IntKind.i64.wrap ((k : Int) + 1) = (k : Int) + 1 := by rw [IntKind.wrap_i64]; omega
          have hx2 := HXC2.out
          have hq16 : IntKind.i64.wrap ((q : Int) + 16) = (q : Int) + 16 := by rw [IntKind.wrap_i64]; omega
          go_upto_region 16 with fail
          go_quiet (fail)
          go_wp2_with (first
            | (refine Poly.wpList_load_row_if rfl 35 (.tmp 14) rfl gp rfl 35 L' _ HGP.out rfl rfl (by rw [HLS'.out]; kernel_rfl) ?_)
            | (refine wpList_store_row rfl 35 (.tmp 9) (.tmp 100) rfl G L'.toArray rfl rfl 35 _ HGL.out (by rw [List.size_toArray, HLS'.out]; kernel_rfl) (by rw [List.size_toArray, List.size_toArray, HLS'.out, HLS.out]) HL1'.out ?_))
          go_roundw
          case rel => exact ⟨k + 1, sk + 1, by omega, by omega, by rw [← HSK.out]; rfl, by go_num, ⟨by rw [HL'.out]; exact setRow_heap _ _ _ _ _ _ (HGL.out.drewN _), below_setRow (below_drewN HBB.out _) HG.out _, by have := HSP.out; unfold spent at this; omega⟩⟩
          case measure => simp [intOf]; omega
        · have HSE := Lib.hid (show ∀ w A c, Calls Try.prog 7 #[.agg (pairL { P with sent := sk }).toArray, .slice A q c, .int .i64 T] w fun e w' => e = .returned (.tuple #[.agg (pairL { P with sent := sk }).toArray, .agg (dataL 0 0 (.slice none 0 0)).toArray, .int .i64 (sE { P with sent := sk } T q : Nat)]) ∧ Below w.heap.size w w' from fun w A c => Pr.seal_no { P with sent := sk } T hT0 hT1 A q c w hse)
          obtain ⟨E, hE⟩ : ∃ E : Int, ((sE { P with sent := sk } T q : Nat) : Int) = E := ⟨_, rfl⟩
          have hne0 : (E != 0) = true := by rw [← hE]; simp; exact hse
          rw [hE, HNN.out] at HSE
          obtain ⟨L, hL⟩ : ∃ L, pairL { P with sent := sk } = L := ⟨_, rfl⟩
          have HL := Lib.hid hL
          rw [hL] at HSE HLS HL1 HEQ HG0
          clear hE hL hse hT0 hT1
          go_upto_region 12 with fail
          refine region_start (fun Y => Below wc.heap.size wc Y) (by kernel_rfl) (below_drewN (Below.refl _ _) 1) ?_
          intro V0 hS
          refine take 0 (.agg L.toArray) rfl (by kernel_rfl) (by kernel_rfl) (by kernel_rfl) (fun _ _ _ h => h) (by rfl) hS (fun V hV => run_mid_in 35 (.tmp 9) rfl G 0 rfl L _ (whole_range (HG0.out.below hV HG0.out.lt)) rfl rfl (by rw [HLS.out]; kernel_rfl)) ?_
          try simp only [Act.put, List.setIfInBounds_toArray, List.set_cons_zero, List.set_cons_succ]
          refine take 1 _ rfl (by kernel_rfl) (by kernel_rfl) (by kernel_rfl) (fun _ _ _ h => h) (by rfl) hS (by intro w _; go_simp; with_reducible rfl) ?_
          try simp only [Act.put, List.setIfInBounds_toArray, List.set_cons_zero, List.set_cons_succ]
          refine take 2 _ rfl (by kernel_rfl) (by kernel_rfl) (by kernel_rfl) (fun _ _ _ h => h) (by rfl) hS (by intro w _; go_simp; with_reducible rfl) ?_
          try simp only [Act.put, List.setIfInBounds_toArray, List.set_cons_zero, List.set_cons_succ]
          refine take 3 _ rfl (by kernel_rfl) (by kernel_rfl) (by kernel_rfl) (fun _ _ _ h => h) (by rfl) hS (by intro w _; go_simp; with_reducible rfl) ?_
          try simp only [Act.put, List.setIfInBounds_toArray, List.set_cons_zero, List.set_cons_succ]
          refine take 4 _ rfl (by kernel_rfl) (by kernel_rfl) (by kernel_rfl) (fun _ _ _ h => h) (by rfl) hS (by intro w hw; have hcl := HXC.out w hw; go_simp; with_reducible rfl) ?_
          try simp only [Act.put, List.setIfInBounds_toArray, List.set_cons_zero, List.set_cons_succ]
          refine take 5 _ rfl (by kernel_rfl) (by kernel_rfl) (by kernel_rfl) (fun _ _ _ h => h) (by rfl) hS (by intro w _; go_simp; with_reducible rfl) ?_
          try simp only [Act.put, List.setIfInBounds_toArray, List.set_cons_zero, List.set_cons_succ]
          refine take 7 _ rfl (by kernel_rfl) (by kernel_rfl) (by kernel_rfl) (fun _ _ _ h => h) (by rfl) hS (by intro w _; go_simp; with_reducible rfl) ?_
          try simp only [Act.put, List.setIfInBounds_toArray, List.set_cons_zero, List.set_cons_succ]
          obtain ⟨Φ, hΦ⟩ : ∃ Φ : Nat → Value → World → Prop, Φ = fun i => sealPhi (q) L.toArray (fun _ => N) E (fun _ _ => True) M N wc ((fun i => match i with | 6 => 0 | 8 => 1 | 9 => 2 | 10 => 3 | 11 => 4 | 12 => 5 | 13 => 6 | _ => 7) i) := ⟨_, rfl⟩
          have f0 : ∀ v w, Φ 6 v w ↔ sealPhi (q) L.toArray (fun _ => N) E (fun _ _ => True) M N wc 0 v w := fun v w => by rw [hΦ]; exact Iff.rfl
          have f1 : ∀ v w, Φ 8 v w ↔ sealPhi (q) L.toArray (fun _ => N) E (fun _ _ => True) M N wc 1 v w := fun v w => by rw [hΦ]; exact Iff.rfl
          have f2 : ∀ v w, Φ 9 v w ↔ sealPhi (q) L.toArray (fun _ => N) E (fun _ _ => True) M N wc 2 v w := fun v w => by rw [hΦ]; exact Iff.rfl
          have f3 : ∀ v w, Φ 10 v w ↔ sealPhi (q) L.toArray (fun _ => N) E (fun _ _ => True) M N wc 3 v w := fun v w => by rw [hΦ]; exact Iff.rfl
          have f4 : ∀ v w, Φ 11 v w ↔ sealPhi (q) L.toArray (fun _ => N) E (fun _ _ => True) M N wc 4 v w := fun v w => by rw [hΦ]; exact Iff.rfl
          have f5 : ∀ v w, Φ 12 v w ↔ sealPhi (q) L.toArray (fun _ => N) E (fun _ _ => True) M N wc 5 v w := fun v w => by rw [hΦ]; exact Iff.rfl
          have f6 : ∀ v w, Φ 13 v w ↔ sealPhi (q) L.toArray (fun _ => N) E (fun _ _ => True) M N wc 6 v w := fun v w => by rw [hΦ]; exact Iff.rfl
          have f7 : ∀ v w, Φ 14 v w ↔ sealPhi (q) L.toArray (fun _ => N) E (fun _ _ => True) M N wc 7 v w := fun v w => by rw [hΦ]; exact Iff.rfl
          have hst : ∀ i v w w', Φ i v w → Below w.heap.size w w' → Φ i v w' := fun i v w w' h hb => by rw [hΦ] at h ⊢; exact sealPhi_stays (fun _ _ _ h _ => h) h hb
          clear hΦ
          refine FloatD.floatL (W := wc) [(6, 54), (8, 56), (9, 47), (10, 57), (11, 58), (12, 59), (13, 14), (14, 15)] [6, 8, 9, 10, 11, 12, 13, 14] [6, 8, 9, 10, 13, 14] [11, 12] Φ (fun i => i == 13 || i == 14) 3 rfl (by rfl) (by rfl) (by rfl) (by kernel_rfl) (by kernel_rfl) (by kernel_rfl) (by kernel_rfl) (by kernel_rfl) (by kernel_rfl) (fun ν => rfl) hS (fun _ h => h) (fun _ _ _ _ _ h => h) hst ?_ ?_ ?_
          · refine ⟨⟨_, _, rfl, ?_⟩, ⟨_, _, rfl, ?_⟩, ⟨_, _, rfl, ?_⟩, ⟨_, _, rfl, ?_⟩, ⟨_, _, rfl, ?_⟩, ⟨_, _, rfl, ?_⟩, trivial⟩
            · intro ν V hV hd
              simp only [FloatD.puts, Act.put, List.setIfInBounds_toArray, List.set_cons_zero, List.set_cons_succ]
              refine FloatD.step_made (v := .slice (some ⟨V.heap.size, 0, none⟩) q q) (b := .cells (byteCells (fun _ => 0) q).toArray 5) ?_ ?_ rfl
              · exact run_made _ _ rfl q (by omega) rfl rfl
              · refine (f0 _ _).mpr ?_
                exact ⟨V.heap.size, rfl, Rd.of_whole (Whole.new _ _ _)⟩
            · intro ν V hV hd
              obtain ⟨g, eg, hrd⟩ := (f0 _ _).mp (hd 6 (by simp) (by kernel_rfl))
              simp only [FloatD.puts, Act.put, List.setIfInBounds_toArray, List.set_cons_zero, List.set_cons_succ]
              rw [eg]
              refine FloatD.step_call (f := 7) (args := #[.agg L.toArray, .slice (some ⟨g, 0, none⟩) q q, .int .i64 T]) ?_ ?_ rfl
              · go_simp
                try with_reducible rfl
              refine (HSE.out V _ q).mono ?_
              rintro e w' ⟨rfl, hb⟩
              exact ⟨_, rfl, (f1 _ _).mpr ⟨.bool true, rfl, trivial⟩, hb⟩
            · intro ν V hV hd
              obtain ⟨x, ex, hx⟩ := (f1 _ _).mp (hd 8 (by simp) (by kernel_rfl))
              simp only [FloatD.puts, Act.put, List.setIfInBounds_toArray, List.set_cons_zero, List.set_cons_succ]
              rw [ex]
              exact FloatD.step_value (by go_simp; try with_reducible rfl) ((f2 _ _).mpr ⟨x, rfl, hx⟩) rfl
            · intro ν V hV hd
              obtain ⟨x, ex, hx⟩ := (f2 _ _).mp (hd 9 (by simp) (by kernel_rfl))
              simp only [FloatD.puts, Act.put, List.setIfInBounds_toArray, List.set_cons_zero, List.set_cons_succ]
              rw [ex]
              exact FloatD.step_value (v := .agg L.toArray) (by go_simp; try with_reducible rfl) ((f3 _ _).mpr rfl) rfl
            · intro ν V hV hd
              simp only [FloatD.puts, Act.put, List.setIfInBounds_toArray, List.set_cons_zero, List.set_cons_succ]
              refine FloatD.step_new (T := 35) (zs := M.toArray) ?_ ((f6 _ _).mpr ⟨_, rfl, hV.size, Whole.new _ _ _⟩)
              have hz := HZ.out
              go_simp
              try rfl
            · intro ν V hV hd
              simp only [FloatD.puts, Act.put, List.setIfInBounds_toArray, List.set_cons_zero, List.set_cons_succ]
              refine FloatD.step_new (T := 41) (zs := N.toArray) ?_ ((f7 _ _).mpr ⟨_, rfl, hV.size, Whole.new _ _ _⟩)
              have hz := HZD.out
              go_simp
              try rfl
          · refine ⟨⟨rfl, _, _, rfl, ?_⟩, ⟨rfl, _, _, rfl, ?_⟩, trivial⟩
            · intro ν V hV hd
              obtain ⟨x, ex, hx⟩ := (f2 _ _).mp (hd 9 (by simp) (by kernel_rfl))
              refine ⟨.agg ((fun _ => N) x).toArray, (f4 _ _).mpr ⟨x, rfl, hx⟩, fun V' => ?_⟩
              simp only [FloatD.puts, Act.put, List.setIfInBounds_toArray, List.set_cons_zero, List.set_cons_succ]
              rw [ex]
              go_simp
              try with_reducible rfl
            · intro ν V hV hd
              obtain ⟨x, ex, hx⟩ := (f2 _ _).mp (hd 9 (by simp) (by kernel_rfl))
              refine ⟨.int .i64 E, (f5 _ _).mpr rfl, fun V' => ?_⟩
              simp only [FloatD.puts, Act.put, List.setIfInBounds_toArray, List.set_cons_zero, List.set_cons_succ]
              rw [ex]
              go_simp
              try with_reducible rfl
          intro ν V3 hS ⟨h0, h1, h2, h3, h4, h5, h6, h7, _⟩ ha
          obtain ⟨gm, em, -⟩ := (f0 _ _).mp h0
          obtain ⟨x1, ex1, -⟩ := (f1 _ _).mp h1
          obtain ⟨x2, ex2, -⟩ := (f2 _ _).mp h2
          have e3 := (f3 _ _).mp h3
          obtain ⟨x, e4, hx⟩ := (f4 _ _).mp h4
          have e5 := (f5 _ _).mp h5
          obtain ⟨gp, e6, hgp, hwp⟩ := (f6 _ _).mp h6
          obtain ⟨gd, e7, hgd, hwd⟩ := (f7 _ _).mp h7
          have hne : gp ≠ gd := fun e => ha 13 (by simp) 14 (by simp) (by decide) rfl rfl gp (by rw [e6]; rfl) (by rw [e7, e]; rfl)
          clear ha hst h0 h1 h2 h3 h4 h5 h6 h7 f0 f1 f2 f3 f4 f5 f6 f7
          simp only [FloatD.puts, Act.put, List.setIfInBounds_toArray, List.set_cons_zero, List.set_cons_succ]
          rw [em, ex1, ex2, e3, e4, e5, e6, e7]
          clear em ex1 ex2 e3 e4 e5 e6 e7
          clear hx
          refine alone 15 rfl (by kernel_rfl) (by rfl) ?_
          intro KK hKK
          refine wp_store_row 35 (.tmp 14) (.tmp 57) rfl gp L.toArray rfl rfl 35 _ hwp (by rw [List.size_toArray, HLS.out]; kernel_rfl) (by first | rfl | rw [List.size_toArray, List.size_toArray, HLS.out, HMS.out]) (HL1.out) ?_
          replace hwd := Whole.farRow hwd hne.symm L.toArray
          replace hwp := setRow_heap _ _ _ L.toArray _ _ hwp
          replace hS := below_setRow hS hgp L.toArray
          refine hKK.out _ _ hS ?_
          clear hKK KK
          try simp only [Act.put]
          refine alone 16 rfl (by kernel_rfl) (by rfl) ?_
          intro KK hKK
          refine wp_store_row 41 (.tmp 15) (.tmp 58) rfl gd N.toArray rfl rfl 41 _ hwd (by rw [List.size_toArray, HNS.out]; kernel_rfl) (by first | rfl | rw [List.size_toArray, List.size_toArray, HNS.out, HNS.out]) (HN1.out) ?_
          replace hwp := Whole.farRow hwp hne N.toArray
          replace hwd := setRow_heap _ _ _ N.toArray _ _ hwd
          replace hS := below_setRow hS hgd N.toArray
          refine hKK.out _ _ hS ?_
          clear hKK KK
          try simp only [Act.put]
          refine take 17 _ rfl (by kernel_rfl) (by kernel_rfl) (by kernel_rfl) (fun _ _ _ h => h) (by rfl) hS (by intro w _; go_simp; with_reducible rfl) ?_
          try simp only [Act.put, List.setIfInBounds_toArray, List.set_cons_zero, List.set_cons_succ]
          refine region_end (by kernel_rfl) ?_
          have HGP := Lib.hid hwp
          have HGD := Lib.hid hwd
          have HGL := Lib.hid (HG0.out.below hS HG0.out.lt)
          have HBB := Lib.hid (below_trans HW.out.bel hS)
          have HXC2 := Lib.hid (HXC.out _ hS)
          clear hwp hwd hS hgp hgd hne
          generalize hX3 : (V3.setRow gp L.toArray).setRow gd N.toArray = X3 at HGP HGD HGL HBB HXC2 ⊢
          clear hX3
          have d2 := HN2.out _ _ _ HGD.out
          have hk2w : IntKind.i64.wrap ((k : Int) + 1) = (k : Int) + 1 := by rw [IntKind.wrap_i64]; omega
          go_wp2_with (first
            | (refine Poly.wpList_load_row_if rfl 35 (.tmp 14) rfl gp rfl 35 L _ HGP.out rfl rfl (by rw [HLS.out]; kernel_rfl) ?_)
            | (refine Poly.wpList_load_row_if rfl 35 (.tmp 9) rfl G rfl 35 L _ HGL.out rfl rfl (by rw [HLS.out]; kernel_rfl) ?_)
            | (refine Ops.wpList_value_if (by rfl) (.bool false) (Ops.run_neq_op 35 (.tmp 62) (.tmp 63) 35 rfl L.toArray L.toArray rfl rfl true false rfl (by kernel_rfl) HEQ.out _) ?_))
          go_roundw
          case rel => exact ⟨k + 1, sk, by omega, by omega, rfl, by go_num, ⟨by rw [HL.out]; exact HGL.out, HBB.out, HW.out.lt⟩⟩
          case measure => simp [intOf]; omega
    · have hdd : ¬ k < n2 ∨ ¬ (k : Int) < 60 := by omega
      clear hlt
      by_cases hk1 : k < n2
      · have hk3 : decide ((k : Int) < 60) = false := decide_eq_false (by omega)
        clear hdd
        go_wp2_with fail
        refine (HAL.out _).mono ?_
        rintro e w9 ⟨rfl, hb⟩
        have HB9 := Lib.hid (below_trans HW.out.bel hb)
        clear hb
        go_wp2_with fail
        go_ret
        exact ⟨rfl, HB9.out⟩
      · clear hdd
        go_wp2_with fail
        refine (HAL.out _).mono ?_
        rintro e w9 ⟨rfl, hb⟩
        have HB9 := Lib.hid (below_trans HW.out.bel hb)
        clear hb
        go_wp2_with fail
        go_ret
        exact ⟨rfl, HB9.out⟩

theorem walk (s r : Nat → Nat) (l m : Nat) (one : Bool) (sent : Int) (a2 : Option Addr) (n2 c2 : Nat) (z2 : List Int) (a3 : Option Addr) (n3 c3 : Nat) (z3 : List Int) (w : World) (hs : ∀ i, s i < 256) (hr : ∀ i, r i < 256) (hl : l < 4294967296) (hm : m < 4294967296) (h1 : (Lit.int .u64 sent).wf = true) (h2 : IsRow .u8 w a2 n2 c2 z2) (h3 : IsRow .u32 w a3 n3 c3 z3) :
    Calls Try.prog 4 #[.agg (keysL s r l m one).toArray, .int .u64 sent, .slice a2 n2 c2, .slice a3 n3 c3] w fun e w' => e = .returned (.bool true) ∧ Below w.heap.size w w' := by
  obtain ⟨v, rfl, hv⟩ := nat_u64 h1
  obtain ⟨f2, hf2, hr2, _⟩ := rd_of_row h2
  obtain ⟨f3, hr3⟩ := PrArg.rd32_of_row h3
  exact walk_f s r l m one hs hr hl hm v hv a2 n2 c2 f2 hf2 a3 n3 c3 f3 w hr2 hr3

end PairNumbers
end Go.Proofs.Ytcncdejdpcelpaa
