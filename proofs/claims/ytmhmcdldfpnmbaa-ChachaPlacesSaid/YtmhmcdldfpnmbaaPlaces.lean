/- 'aditlaw02.ChachaPlaces' returns true at every input and writes nothing that was there: the walk. No condition. -/
import Derived.Test.YtmhmcdldfpnmbaaTwice
namespace Go.Proofs.Ytmhmcdldfpnmbaa
namespace ChachaPlaces
open Go.ChangeShapes Go.WideShapes Go.ChangeAt Go.RowKit
open Num Mem Words State Quiet Chacha ChachaTwice

set_option maxRecDepth 100000 in
theorem big (key nonce : Nat → Nat) (ctr : Nat) (A A' : Option Addr) (n c n' c' : Nat) (h : 1000 < n ∨ (n ≤ 1000 ∧ n ≠ n')) (w : World) :
    Calls Try.prog 13 #[.agg (byteCells key 32).toArray, .agg (byteCells nonce 12).toArray, .int .u32 ctr, .slice A n c, .slice A' n' c'] w fun e w' => e = .returned (.bool true) ∧ Below w.heap.size w w' := by
  rcases h with h | ⟨h1, h2⟩
  · have hd : decide ((1000 : Int) < (n : Int)) = true := decide_eq_true (by omega)
    rw [byteCells_lit32, byteCells_lit12]
    go_enter Try.func13, Try.ntmps13
    go_wp2_with fail
    refine (alive_any _).mono ?_
    rintro e w1 ⟨rfl, hb1⟩
    have HB := Lib.hid (below_trans (below_alloc (below_alloc (Below.refl w.heap.size w) _) _) hb1)
    clear hb1
    go_wp2_with fail
    go_ret
    exact ⟨rfl, HB.out⟩
  · have hd : decide ((1000 : Int) < (n : Int)) = false := decide_eq_false (by omega)
    have hne : (((n : Nat) : Int) != ((n' : Nat) : Int)) = true := by simp; omega
    clear h2
    rw [byteCells_lit32, byteCells_lit12]
    go_enter Try.func13, Try.ntmps13
    go_wp2_with fail
    refine (alive_any _).mono ?_
    rintro e w1 ⟨rfl, hb1⟩
    have HB := Lib.hid (below_trans (below_alloc (below_alloc (Below.refl w.heap.size w) _) _) hb1)
    clear hb1
    go_wp2_with fail
    go_ret
    exact ⟨rfl, HB.out⟩

set_option maxRecDepth 100000 in
theorem over (key nonce : Nat → Nat) (ctr : Nat) (hc : ctr < 4294967296) (A A' : Option Addr) (n c c' : Nat) (h : n ≤ 1000) (hfit : 4294967296 < ctr + (n + 63) / 64) (w : World) :
    Calls Try.prog 13 #[.agg (byteCells key 32).toArray, .agg (byteCells nonce 12).toArray, .int .u32 ctr, .slice A n c, .slice A' n c'] w fun e w' => e = .returned (.bool true) ∧ Below w.heap.size w w' := by
  have hd : decide ((1000 : Int) < (n : Int)) = false := decide_eq_false (by omega)
  rw [byteCells_lit32, byteCells_lit12]
  go_enter Try.func13, Try.ntmps13
  go_upto_region 1 with fail
  rw [← byteCells_lit32, ← byteCells_lit12]
  refine cut_world (fun W => Whole W w.heap.size 53 (byteCells key 32).toArray ∧ Whole W (w.heap.size + 1) 54 (byteCells nonce 12).toArray ∧ Below w.heap.size w W) ⟨?_, ?_, ?_⟩ ?_
  · exact (whole_new _ _ rfl).alloc _
  · exact whole_new _ _ (by simp)
  · exact below_alloc (below_alloc (Below.refl _ _) _) _
  rintro W ⟨k1, k2, kb⟩
  have K1 := Lib.hid k1
  have K2 := Lib.hid k2
  have KB := Lib.hid kb
  clear k1 k2 kb
  generalize hB : w.heap.size = B at K1 K2 KB ⊢
  go_wp2_with (first | (refine wpList_load_row rfl 53 (.tmp 5) rfl B rfl 53 (byteCells key 32).toArray (0, 0) _ K1.out rfl rfl (by kernel_rfl) ?_) | (refine wpList_load_row rfl 54 (.tmp 6) rfl (B + 1) rfl 54 (byteCells nonce 12).toArray (0, 0) _ K2.out rfl rfl (by kernel_rfl) ?_))
  refine (xor_over key nonce ctr hc A n c (by omega) hfit _).mono ?_
  rintro e w1 ⟨rfl, hb1⟩
  have hs : B + 1 < w1.heap.size := by have := K2.out.lt; have := hb1.size; omega
  have P1 := Lib.hid (K1.out.below hb1 K1.out.lt)
  have P2 := Lib.hid (K2.out.below hb1 K2.out.lt)
  have PB := Lib.hid (KB.out.trans (hb1.mono (by have := K1.out.lt; omega)))
  clear hb1 K1 K2 KB
  go_wp2_with (first | (refine wpList_load_row rfl 53 (.tmp 5) rfl B rfl 53 (byteCells key 32).toArray (0, 0) _ P1.out rfl rfl (by kernel_rfl) ?_) | (refine wpList_load_row rfl 54 (.tmp 6) rfl (B + 1) rfl 54 (byteCells nonce 12).toArray (0, 0) _ P2.out rfl rfl (by kernel_rfl) ?_))
  refine (xor_over key nonce ctr hc A' n c' (by omega) hfit _).mono ?_
  rintro e w2 ⟨rfl, hb2⟩
  have hs2 : B ≤ w2.heap.size := by have := hb2.size; omega
  have QB := Lib.hid (PB.out.trans (hb2.mono (by omega)))
  clear hb2 P1 P2 PB
  go_wp2_with fail
  go_loopw [15] (fun i wr => i = .int .i64 (0 : Nat) ∧ wr = w2) (fun i _ => 0)
  case atStart => exact ⟨rfl, rfl⟩
  case round =>
    obtain ⟨rfl, rfl⟩ := hrel
    go_wp2_with fail
    refine (alive_any _).mono ?_
    rintro e w3 ⟨rfl, hb3⟩
    have HB3 := Lib.hid (QB.out.trans (hb3.mono hs2))
    clear hb3
    go_wp2_with fail
    go_ret
    exact ⟨rfl, by rw [hB]; exact HB3.out⟩

theorem four (p q k : Nat) : (p ^^^ k) ^^^ (q ^^^ k) = p ^^^ q := by
  apply Nat.eq_of_testBit_eq
  intro i
  simp only [Nat.testBit_xor]
  cases p.testBit i <;> cases q.testBit i <;> cases k.testBit i <;> rfl

theorem rd_cell {w : World} {A : Option Addr} {n : Nat} {f : Nat → Nat} (h : Rd w A n f) (h0 : 0 < n) : ∃ b off, A = some ⟨b, off, none⟩ ∧ ∀ i, i < n → w.cell? ⟨b, off + i, none⟩ = some (.int .u8 (f i : Nat)) := by
  rcases h with h | ⟨b, off, hA, _, hc⟩
  · omega
  · exact ⟨b, off, hA, hc⟩

set_option maxRecDepth 100000 in
theorem fits (key nonce : Nat → Nat) (hk : ∀ i, key i < 256) (hno : ∀ i, nonce i < 256) (ctr : Nat) (hc : ctr < 4294967296) (A A' : Option Addr) (n c c' : Nat) (f f' : Nat → Nat) (hf : ∀ i, f i < 256) (hf' : ∀ i, f' i < 256) (h : n ≤ 1000) (hfit : ctr + (n + 63) / 64 ≤ 4294967296) (w : World) (hA : Rd w A n f) (hA' : Rd w A' n f') :
    Calls Try.prog 13 #[.agg (byteCells key 32).toArray, .agg (byteCells nonce 12).toArray, .int .u32 ctr, .slice A n c, .slice A' n c'] w fun e w' => e = .returned (.bool true) ∧ Below w.heap.size w w' := by
  have hd : decide ((1000 : Int) < (n : Int)) = false := decide_eq_false (by omega)
  have HK := Lib.hid hk
  have HN := Lib.hid hno
  have HF := Lib.hid hf
  have HF' := Lib.hid hf'
  have HA := Lib.hid hA
  have HA2 := Lib.hid hA'
  clear hk hno hf hA hf' hA'
  rw [byteCells_lit32, byteCells_lit12]
  go_enter Try.func13, Try.ntmps13
  go_upto_region 1 with fail
  rw [← byteCells_lit32, ← byteCells_lit12]
  refine cut_world (fun W => Whole W w.heap.size 53 (byteCells key 32).toArray ∧ Whole W (w.heap.size + 1) 54 (byteCells nonce 12).toArray ∧ Below w.heap.size w W ∧ Rd W A n f ∧ Rd W A' n f') ⟨?_, ?_, ?_, ?_, ?_⟩ ?_
  · exact (whole_new _ _ rfl).alloc _
  · exact whole_new _ _ (by simp)
  · exact below_alloc (below_alloc (Below.refl _ _) _) _
  · exact HA.out.below (below_alloc (below_alloc (Below.refl _ _) _) _) (Nat.le_refl _)
  · exact HA2.out.below (below_alloc (below_alloc (Below.refl _ _) _) _) (Nat.le_refl _)
  rintro W ⟨k1, k2, kb, ka0, ka1⟩
  have K1 := Lib.hid k1
  have K2 := Lib.hid k2
  have KB := Lib.hid kb
  have KA0 := Lib.hid ka0
  clear ka0
  have KA1 := Lib.hid ka1
  clear ka1
  clear k1 k2 kb
  generalize hB : w.heap.size = B at K1 K2 KB ⊢
  go_wp2_with (first | (refine wpList_load_row rfl 53 (.tmp 5) rfl B rfl 53 (byteCells key 32).toArray (0, 0) _ K1.out rfl rfl (by kernel_rfl) ?_) | (refine wpList_load_row rfl 54 (.tmp 6) rfl (B + 1) rfl 54 (byteCells nonce 12).toArray (0, 0) _ K2.out rfl rfl (by kernel_rfl) ?_))
  refine (xor_ok key nonce HK.out HN.out ctr hc A n c f HF.out (by omega) hfit _ KA0.out).mono ?_
  rintro e w1 ⟨g, rfl, hg1, hb1⟩
  have hs : B + 1 < w1.heap.size := by have := K2.out.lt; have := hb1.size; omega
  have P1 := Lib.hid (K1.out.below hb1 K1.out.lt)
  have P2 := Lib.hid (K2.out.below hb1 K2.out.lt)
  have PA := Lib.hid (KA0.out.below hb1 (Nat.le_refl _))
  have PA' := Lib.hid (KA1.out.below hb1 (Nat.le_refl _))
  have PB := Lib.hid (KB.out.trans (hb1.mono (by have := K1.out.lt; omega)))
  have PG := Lib.hid hg1
  clear hg1 hb1 K1 K2 KB KA0 KA1
  go_wp2_with (first | (refine wpList_load_row rfl 53 (.tmp 5) rfl B rfl 53 (byteCells key 32).toArray (0, 0) _ P1.out rfl rfl (by kernel_rfl) ?_) | (refine wpList_load_row rfl 54 (.tmp 6) rfl (B + 1) rfl 54 (byteCells nonce 12).toArray (0, 0) _ P2.out rfl rfl (by kernel_rfl) ?_))
  refine (xor_ok key nonce HK.out HN.out ctr hc A' n c' f' HF'.out (by omega) hfit _ PA'.out).mono ?_
  rintro e w2 ⟨g2, rfl, hg2, hb2⟩
  have hs2 : B ≤ w2.heap.size := by have := hb2.size; omega
  have QA := Lib.hid (PA.out.below hb2 (Nat.le_refl _))
  have QA' := Lib.hid (PA'.out.below hb2 (Nat.le_refl _))
  have QB := Lib.hid (PB.out.trans (hb2.mono (by omega)))
  have QG := Lib.hid (PG.out.below hb2 PG.out.lt)
  have QG' := Lib.hid hg2
  clear hg2 hb2 P1 P2 PA PA' PB PG HA HA2
  have hnn : (((n : Nat) : Int) != ((n : Nat) : Int)) = false := by simp
  go_wp2_with fail
  go_loopw [15] (fun i wr => ∃ k m : Nat, k ≤ n ∧ i = .int .i64 k ∧ wr = w2.drewN m) (fun i _ => n - (intOf i).toNat)
  case atStart => exact ⟨0, 0, Nat.zero_le _, rfl, rfl⟩
  case round =>
    obtain ⟨k, m, hk, rfl, rfl⟩ := hrel
    by_cases hlt : k < n
    · obtain ⟨b1, o1, rfl, ca⟩ := rd_cell QA.out (by omega)
      obtain ⟨b2, o2, rfl, cb⟩ := rd_cell QA'.out (by omega)
      have c1 := ca k hlt
      have c2 := cb k hlt
      have c3 : w2.cell? ⟨g, k, none⟩ = some (.int .u8 (xo key nonce ctr f k : Nat)) := by rw [QG.out.cell, List.getElem?_toArray, byteCells_get _ _ _ hlt]
      have c4 : w2.cell? ⟨g2, k, none⟩ = some (.int .u8 (xo key nonce ctr f' k : Nat)) := by rw [QG'.out.cell, List.getElem?_toArray, byteCells_get _ _ _ hlt]
      have l1 := xo_lt key nonce ctr f HF.out k
      have l2 := xo_lt key nonce ctr f' HF'.out k
      have l3 := HF.out k
      have l4 := HF'.out k
      have hx : (bits .xor .u8 (xo key nonce ctr f k : Nat) (xo key nonce ctr f' k : Nat) != bits .xor .u8 (f k : Nat) (f' k : Nat)) = false := by
        rw [u8_xor_nat _ _ l1 l2, u8_xor_nat _ _ l3 l4]
        unfold xo
        rw [four]
        simp
      have hkI : (k : Int) < (n : Int) := by omega
      generalize xo key nonce ctr f k = p at c3 hx l1
      generalize xo key nonce ctr f' k = q at c4 hx l2
      generalize f k = r at c1 hx l3
      generalize f' k = s at c2 hx l4
      clear ca cb
      go_wp2_with fail
      go_quiet (fail)
      go_wp2_with fail
      go_roundw
      case rel => exact ⟨k + 1, _, by omega, by go_num, rfl⟩
      case measure => simp [intOf]; omega
    · go_wp2_with fail
      refine (alive_any _).mono ?_
      rintro e w3 ⟨rfl, hb3⟩
      have HB3 := Lib.hid ((below_drewN QB.out m).trans (hb3.mono hs2))
      clear hb3
      go_wp2_with fail
      go_ret
      exact ⟨rfl, by rw [hB]; exact HB3.out⟩

theorem walk (key nonce : Nat → Nat) (a2 : Int) (a3 : Option Addr) (len3 cap3 : Nat) (z3 : List Int) (a4 : Option Addr) (len4 cap4 : Nat) (z4 : List Int) (w : World) (w0 : ∀ i, key i < 256) (w1 : ∀ i, nonce i < 256) (w2 : (Lit.int .u32 a2).wf = true) (w3 : IsRow .u8 w a3 len3 cap3 z3) (w4 : IsRow .u8 w a4 len4 cap4 z4) :
    Calls Try.prog 13 #[.agg (byteCells key 32).toArray, .agg (byteCells nonce 12).toArray, .int .u32 a2, .slice a3 len3 cap3, .slice a4 len4 cap4] w fun e w' => e = .returned (.bool true) ∧ Below w.heap.size w w' := by
  obtain ⟨ctr, rfl, hc⟩ := nat_u32 w2
  obtain ⟨f, hf, hr, hcap, hm⟩ := rd_of_row w3
  obtain ⟨f', hf', hr', hcap', hm'⟩ := rd_of_row w4
  by_cases h1 : 1000 < len3 ∨ (len3 ≤ 1000 ∧ len3 ≠ len4)
  · exact big key nonce ctr a3 a4 len3 cap3 len4 cap4 h1 w
  · obtain rfl : len3 = len4 := by omega
    by_cases h2 : 4294967296 < ctr + (len3 + 63) / 64
    · exact over key nonce ctr hc a3 a4 len3 cap3 cap4 (by omega) h2 w
    · exact fits key nonce w0 w1 ctr hc a3 a4 len3 cap3 cap4 f f' hf hf' (by omega) (by omega) w hr hr'

end ChachaPlaces
end Go.Proofs.Ytmhmcdldfpnmbaa
