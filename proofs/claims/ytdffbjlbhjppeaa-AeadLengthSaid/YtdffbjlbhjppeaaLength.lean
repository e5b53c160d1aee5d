/- 'aditlaw04.AeadLength' returns true at every input and writes nothing that was there: the walk. No condition. -/
import Derived.Test.YtdffbjlbhjppeaaAliveFour
namespace Go.Proofs.Ytdffbjlbhjppeaa
namespace AeadLength
open Go.ChangeShapes Go.WideShapes Go.ChangeAt Go.RowKit
open Num Mem Words State PolyN Chacha Quiet Poly Ref Aead

theorem odd_out (x y s : Nat) (hx : x < 256) (hy : y < 256) (hs : s < 256) : (bits .xor .u8 ((x ^^^ s : Nat) : Int) ((y ^^^ s : Nat) : Int) != bits .xor .u8 (x : Int) (y : Int)) = false := by
  rw [u8_xor_nat _ _ (Nat.xor_lt_two_pow (n := 8) hx hs) (Nat.xor_lt_two_pow (n := 8) hy hs), u8_xor_nat _ _ hx hy]
  have e : (x ^^^ s) ^^^ (y ^^^ s) = x ^^^ y := by
    rw [Nat.xor_comm y s, ← Nat.xor_assoc, Nat.xor_assoc x s s, Nat.xor_self, Nat.xor_zero]
  rw [e]
  simp

set_option maxRecDepth 100000 in
theorem big (key nonce : Nat → Nat) (A B O : Option Addr) (n ca m cb no co : Nat) (h : 1000 < n ∨ n ≠ m ∨ 1000 < no) (w : World) :
    Calls Try.prog 13 #[.agg (byteCells key 32).toArray, .agg (byteCells nonce 12).toArray, .slice A n ca, .slice B m cb, .slice O no co] w fun e w' => e = .returned (.bool true) ∧ Below w.heap.size w w' := by
  rw [byteCells_lit32, byteCells_lit12]
  go_enter Try.func13, Try.ntmps13
  by_cases h1 : 1000 < n
  · have hd : decide ((1000 : Int) < (n : Int)) = true := decide_eq_true (by omega)
    go_wp2_with fail
    refine (Aead.alive_any _).mono ?_
    rintro e w1 ⟨rfl, hb1⟩
    have HB := Lib.hid (below_trans (below_alloc (below_alloc (Below.refl w.heap.size w) _) _) hb1)
    clear hb1
    go_wp2_with fail
    go_ret
    exact ⟨rfl, HB.out⟩
  · have hd : decide ((1000 : Int) < (n : Int)) = false := decide_eq_false (by omega)
    by_cases h2 : n = m
    · have hd2 : ((n : Int) != (m : Int)) = false := by simp only [bne_eq_false_iff_eq]; omega
      have hd3 : decide ((1000 : Int) < (no : Int)) = true := decide_eq_true (by omega)
      go_wp2_with fail
      refine (Aead.alive_any _).mono ?_
      rintro e w1 ⟨rfl, hb1⟩
      have HB := Lib.hid (below_trans (below_alloc (below_alloc (Below.refl w.heap.size w) _) _) hb1)
      clear hb1
      go_wp2_with fail
      go_ret
      exact ⟨rfl, HB.out⟩
    · have hd2 : ((n : Int) != (m : Int)) = true := by simp only [bne_iff_ne, ne_eq]; omega
      go_wp2_with fail
      refine (Aead.alive_any _).mono ?_
      rintro e w1 ⟨rfl, hb1⟩
      have HB := Lib.hid (below_trans (below_alloc (below_alloc (Below.refl w.heap.size w) _) _) hb1)
      clear hb1
      go_wp2_with fail
      go_ret
      exact ⟨rfl, HB.out⟩

set_option maxRecDepth 100000 in
set_option maxHeartbeats 1000000 in
theorem small (key nonce : Nat → Nat) (hk : ∀ i, key i < 256) (hno : ∀ i, nonce i < 256) (A B O : Option Addr) (n ca cb no co : Nat) (f g o : Nat → Nat) (hf : ∀ i, f i < 256) (hg : ∀ i, g i < 256) (ho : ∀ i, o i < 256) (h1 : n ≤ 1000) (h2 : no ≤ 1000) (hco : no ≤ co) (w : World) (ra : Rd w A n f) (rb : Rd w B n g) (ro : Rd w O no o) :
    Calls Try.prog 13 #[.agg (byteCells key 32).toArray, .agg (byteCells nonce 12).toArray, .slice A n ca, .slice B n cb, .slice O no co] w fun e w' => e = .returned (.bool true) ∧ Below w.heap.size w w' := by
  have hd : decide ((1000 : Int) < (n : Int)) = false := decide_eq_false (by omega)
  have hd3 : decide ((1000 : Int) < (no : Int)) = false := decide_eq_false (by omega)
  have HK := Lib.hid hk
  have HN := Lib.hid hno
  have HF := Lib.hid hf
  have HG := Lib.hid hg
  have HO := Lib.hid ho
  have RA := Lib.hid ra
  have RB := Lib.hid rb
  have RO := Lib.hid ro
  clear hk hno hf hg ho ra rb ro
  rw [byteCells_lit32, byteCells_lit12]
  go_enter Try.func13, Try.ntmps13
  go_upto_region 1 with fail
  refine cut_world (fun W => Whole W w.heap.size 40 (byteCells key 32).toArray ∧ Whole W (w.heap.size + 1) 41 (byteCells nonce 12).toArray ∧ Below w.heap.size w W) ⟨?_, ?_, ?_⟩ ?_
  · rw [byteCells_lit32]
    exact (whole_new _ _ rfl).alloc _
  · rw [byteCells_lit12]
    exact whole_new _ _ (by simp)
  · exact below_alloc (below_alloc (Below.refl _ _) _) _
  rintro W ⟨k1, k2, kb⟩
  have K1 := Lib.hid k1
  have K2 := Lib.hid k2
  have KB := Lib.hid kb
  have hl2 := k2.lt
  clear k1 k2 kb
  generalize hB : w.heap.size = S at K1 K2 KB hl2 ⊢
  have HB := Lib.hid hB
  clear hB
  go_wp2_with (first | (refine wpList_load_row rfl 40 (.tmp 5) rfl S rfl 40 (byteCells key 32).toArray (0, 0) _ K1.out rfl rfl (by kernel_rfl) ?_) | (refine wpList_load_row rfl 41 (.tmp 6) rfl (S + 1) rfl 41 (byteCells nonce 12).toArray (0, 0) _ K2.out rfl rfl (by kernel_rfl) ?_))
  refine (seal_ok key nonce HK.out HN.out A n ca f HF.out O no co o HO.out hco (by omega) (by omega) _ (RA.out.below KB.out (by rw [HB.out]; exact Nat.le_refl _)) (RO.out.below KB.out (by rw [HB.out]; exact Nat.le_refl _))).mono ?_
  rintro e w1 ⟨A1, c1, rfl, o1, hb⟩
  have L1 := Lib.hid (K1.out.below hb K1.out.lt)
  have L2 := Lib.hid (K2.out.below hb K2.out.lt)
  have LB := Lib.hid (KB.out.trans (hb.mono (by omega)))
  have R1 := Lib.hid o1.rd
  have hs1 := hb.size
  clear o1 hb K1 K2 KB
  go_wp2_with (first | (refine wpList_load_row rfl 40 (.tmp 5) rfl S rfl 40 (byteCells key 32).toArray (0, 0) _ L1.out rfl rfl (by kernel_rfl) ?_) | (refine wpList_load_row rfl 41 (.tmp 6) rfl (S + 1) rfl 41 (byteCells nonce 12).toArray (0, 0) _ L2.out rfl rfl (by kernel_rfl) ?_))
  refine (seal_ok key nonce HK.out HN.out B n cb g HG.out O no co o HO.out hco (by omega) (by omega) _ (RB.out.below LB.out (by rw [HB.out]; exact Nat.le_refl _)) (RO.out.below LB.out (by rw [HB.out]; exact Nat.le_refl _))).mono ?_
  rintro e w2 ⟨A2, c2, rfl, o2, hb⟩
  have MB := Lib.hid (LB.out.trans (hb.mono (by omega)))
  have M1 := Lib.hid (R1.out.below hb (Nat.le_refl _))
  have M2 := Lib.hid o2.rd
  have MA := Lib.hid (RA.out.below MB.out (by rw [HB.out]; exact Nat.le_refl _))
  have MBB := Lib.hid (RB.out.below MB.out (by rw [HB.out]; exact Nat.le_refl _))
  have hs2 := hb.size
  clear o2 hb L1 L2 LB RA RB RO R1
  obtain ⟨T1, hT1⟩ : ∃ T, boxF key nonce f n o no = T := ⟨_, rfl⟩
  obtain ⟨T2, hT2⟩ : ∃ T, boxF key nonce g n o no = T := ⟨_, rfl⟩
  have HE := Lib.hid (show ∀ k, k < n → (bits .xor .u8 ((T1 k : Nat) : Int) ((T2 k : Nat) : Int) != bits .xor .u8 ((f k : Nat) : Int) ((g k : Nat) : Int)) = false from fun k hk => by
    rw [← hT1, ← hT2, box_text _ _ _ _ _ _ hk, box_text _ _ _ _ _ _ hk]
    exact odd_out _ _ _ (HF.out k) (HG.out k) (blk_lt _ _ _ _))
  rw [hT1] at M1
  rw [hT2] at M2
  clear hT1 hT2
  go_wp2_with fail
  go_loopw [15] (fun i wr => ∃ k q : Nat, k ≤ n ∧ i = .int .i64 k ∧ wr = w2.drewN q) (fun i _ => n - (intOf i).toNat)
  case atStart => exact ⟨0, 0, Nat.zero_le _, rfl, rfl⟩
  case round =>
    obtain ⟨k, q, hkn, rfl, rfl⟩ := hrel
    by_cases hlt : k < n
    · rcases M1.out with h0 | ⟨b1, f1, rfl, _, cc1⟩
      · omega
      rcases M2.out with h0 | ⟨b2, f2, rfl, _, cc2⟩
      · omega
      rcases MA.out with h0 | ⟨b3, f3, rfl, _, cc3⟩
      · omega
      rcases MBB.out with h0 | ⟨b4, f4, rfl, _, cc4⟩
      · omega
      have e1 := cc1 k (by omega)
      have e2 := cc2 k (by omega)
      have e3 := cc3 k hlt
      have e4 := cc4 k hlt
      have HEK := Lib.hid (HE.out k hlt)
      have hltI : (k : Int) < (n : Int) := by omega
      have hltJ : (k : Int) < (n : Int) + 16 := by omega
      have hkI : (0 : Int) ≤ (k : Int) := by omega
      clear cc1 cc2 cc3 cc4
      go_wp2_with fail
      go_quiet (fail)
      rw [HEK.out]
      go_wp2_with fail
      go_roundw
      case rel => exact ⟨k + 1, _, by omega, by go_num, rfl⟩
      case measure => simp [intOf]; omega
    · obtain rfl : k = n := by omega
      go_wp2_with fail
      refine (Aead.alive_any _).mono ?_
      rintro e w3 ⟨rfl, hb⟩
      have NB := Lib.hid ((below_drewN MB.out q).trans (hb.mono (by show S ≤ w2.heap.size; omega)))
      clear hb
      go_wp2_with fail
      go_ret
      exact ⟨rfl, by rw [HB.out]; exact NB.out⟩

theorem walk (key nonce : Nat → Nat) (a2 : Option Addr) (len2 cap2 : Nat) (z2 : List Int) (a3 : Option Addr) (len3 cap3 : Nat) (z3 : List Int) (a4 : Option Addr) (len4 cap4 : Nat) (z4 : List Int) (w : World) (w0 : ∀ i, key i < 256) (w1 : ∀ i, nonce i < 256) (w2 : IsRow .u8 w a2 len2 cap2 z2) (w3 : IsRow .u8 w a3 len3 cap3 z3) (w4 : IsRow .u8 w a4 len4 cap4 z4) :
    Calls Try.prog 13 #[.agg (byteCells key 32).toArray, .agg (byteCells nonce 12).toArray, .slice a2 len2 cap2, .slice a3 len3 cap3, .slice a4 len4 cap4] w fun e w' => e = .returned (.bool true) ∧ Below w.heap.size w w' := by
  obtain ⟨f, hf, hr, _, _⟩ := rd_of_row w2
  obtain ⟨g, hg, hr2, _, _⟩ := rd_of_row w3
  obtain ⟨o, ho, hr3, hco, _⟩ := rd_of_row w4
  by_cases h : 1000 < len2 ∨ len2 ≠ len3 ∨ 1000 < len4
  · exact big key nonce a2 a3 a4 len2 cap2 len3 cap3 len4 cap4 h w
  · obtain rfl : len2 = len3 := by omega
    exact small key nonce w0 w1 a2 a3 a4 len2 cap2 cap3 len4 cap4 f g o hf hg ho (by omega) (by omega) hco w hr hr2 hr3

end AeadLength
end Go.Proofs.Ytdffbjlbhjppeaa
