/- 'aditlaw02.ChachaTwice' returns true at every input and writes nothing that was there: the walk. No condition. -/
import Derived.Test.YtmhmcdldfpnmbaaAliveTwo
namespace Go.Proofs.Ytmhmcdldfpnmbaa
namespace ChachaTwice
open Go.ChangeShapes Go.WideShapes Go.ChangeAt Go.RowKit
open Num Mem Words State Quiet Chacha

theorem xo_lt (key nonce : Nat → Nat) (ctr : Nat) (f : Nat → Nat) (hf : ∀ i, f i < 256) (j : Nat) : xo key nonce ctr f j < 256 :=
  Nat.xor_lt_two_pow (n := 8) (hf j) (blk_lt _ _ _ _)
theorem xo_xo (key nonce : Nat → Nat) (ctr : Nat) (f : Nat → Nat) (j : Nat) : xo key nonce ctr (xo key nonce ctr f) j = f j := by
  unfold xo
  rw [Nat.xor_assoc, Nat.xor_self, Nat.xor_zero]

set_option maxRecDepth 100000 in
theorem big (key nonce : Nat → Nat) (ctr : Nat) (A : Option Addr) (n c : Nat) (h : 2000 < n) (w : World) :
    Calls Try.prog 11 #[.agg (byteCells key 32).toArray, .agg (byteCells nonce 12).toArray, .int .u32 ctr, .slice A n c] w fun e w' => e = .returned (.bool true) ∧ Below w.heap.size w w' := by
  have hd : decide ((2000 : Int) < (n : Int)) = true := decide_eq_true (by omega)
  rw [byteCells_lit32, byteCells_lit12]
  go_enter Try.func11, Try.ntmps11
  go_wp2_with fail
  refine (alive_any _).mono ?_
  rintro e w1 ⟨rfl, hb1⟩
  have HB := Lib.hid (below_trans (below_alloc (below_alloc (Below.refl w.heap.size w) _) _) hb1)
  clear hb1
  go_wp2_with fail
  go_ret
  exact ⟨rfl, HB.out⟩

set_option maxRecDepth 100000 in
theorem over (key nonce : Nat → Nat) (ctr : Nat) (hc : ctr < 4294967296) (A : Option Addr) (n c : Nat) (h : n ≤ 2000) (hfit : 4294967296 < ctr + (n + 63) / 64) (w : World) :
    Calls Try.prog 11 #[.agg (byteCells key 32).toArray, .agg (byteCells nonce 12).toArray, .int .u32 ctr, .slice A n c] w fun e w' => e = .returned (.bool true) ∧ Below w.heap.size w w' := by
  have hd : decide ((2000 : Int) < (n : Int)) = false := decide_eq_false (by omega)
  rw [byteCells_lit32, byteCells_lit12]
  go_enter Try.func11, Try.ntmps11
  go_upto_region 1 with fail
  rw [← byteCells_lit32, ← byteCells_lit12]
  refine cut_world (fun W => Whole W w.heap.size 53 (byteCells key 32).toArray ∧ Whole W (w.heap.size + 1) 54 (byteCells nonce 12).toArray ∧ Below w.heap.size w W) ⟨?_, ?_, ?_⟩ ?_
  · exact (whole_new _ _ rfl).alloc _
  · exact whole_new _ _ (by simp)
  · exact below_alloc (below_alloc (Below.refl _ _) _) _
  rintro W ⟨k1, k2, kb⟩
  have K1 := Lib.hid k1
  have K2 := Lib.hid k2
  have KB := Lib.hid kb
  clear k1 k2 kb
  generalize hB : w.heap.size = B at K1 K2 KB ⊢
  go_wp2_with (first | (refine wpList_load_row rfl 53 (.tmp 4) rfl B rfl 53 (byteCells key 32).toArray (0, 0) _ K1.out rfl rfl (by kernel_rfl) ?_) | (refine wpList_load_row rfl 54 (.tmp 5) rfl (B + 1) rfl 54 (byteCells nonce 12).toArray (0, 0) _ K2.out rfl rfl (by kernel_rfl) ?_))
  refine (xor_over key nonce ctr hc A n c (by omega) hfit _).mono ?_
  rintro e w1 ⟨rfl, hb1⟩
  have hbb := KB.out.trans (hb1.mono (by have := K1.out.lt; omega))
  have hs : B ≤ w1.heap.size := by have := K1.out.lt; have := hb1.size; omega
  clear hb1
  have HBB := Lib.hid hbb
  clear hbb
  go_wp2_with fail
  refine (alive_any _).mono ?_
  rintro e w2 ⟨rfl, hb2⟩
  have HB2 := Lib.hid (HBB.out.trans (hb2.mono hs))
  clear hb2
  go_wp2_with fail
  go_ret
  exact ⟨rfl, by rw [hB]; exact HB2.out⟩

set_option maxRecDepth 100000 in
theorem fits (key nonce : Nat → Nat) (hk : ∀ i, key i < 256) (hno : ∀ i, nonce i < 256) (ctr : Nat) (hc : ctr < 4294967296) (A : Option Addr) (n c : Nat) (f : Nat → Nat) (hf : ∀ i, f i < 256) (h : n ≤ 2000) (hfit : ctr + (n + 63) / 64 ≤ 4294967296) (w : World) (hA : Rd w A n f) :
    Calls Try.prog 11 #[.agg (byteCells key 32).toArray, .agg (byteCells nonce 12).toArray, .int .u32 ctr, .slice A n c] w fun e w' => e = .returned (.bool true) ∧ Below w.heap.size w w' := by
  have hd : decide ((2000 : Int) < (n : Int)) = false := decide_eq_false (by omega)
  have HK := Lib.hid hk
  have HN := Lib.hid hno
  have HF := Lib.hid hf
  have HA := Lib.hid hA
  clear hk hno hf hA
  rw [byteCells_lit32, byteCells_lit12]
  go_enter Try.func11, Try.ntmps11
  go_upto_region 1 with fail
  rw [← byteCells_lit32, ← byteCells_lit12]
  refine cut_world (fun W => Whole W w.heap.size 53 (byteCells key 32).toArray ∧ Whole W (w.heap.size + 1) 54 (byteCells nonce 12).toArray ∧ Below w.heap.size w W ∧ Rd W A n f) ⟨?_, ?_, ?_, ?_⟩ ?_
  · exact (whole_new _ _ rfl).alloc _
  · exact whole_new _ _ (by simp)
  · exact below_alloc (below_alloc (Below.refl _ _) _) _
  · exact HA.out.below (below_alloc (below_alloc (Below.refl _ _) _) _) (Nat.le_refl _)
  rintro W ⟨k1, k2, kb, ka⟩
  have K1 := Lib.hid k1
  have K2 := Lib.hid k2
  have KB := Lib.hid kb
  have KA := Lib.hid ka
  clear k1 k2 kb ka HA
  generalize hB : w.heap.size = B at K1 K2 KB ⊢
  go_wp2_with (first | (refine wpList_load_row rfl 53 (.tmp 4) rfl B rfl 53 (byteCells key 32).toArray (0, 0) _ K1.out rfl rfl (by kernel_rfl) ?_) | (refine wpList_load_row rfl 54 (.tmp 5) rfl (B + 1) rfl 54 (byteCells nonce 12).toArray (0, 0) _ K2.out rfl rfl (by kernel_rfl) ?_))
  refine (xor_ok key nonce HK.out HN.out ctr hc A n c f HF.out (by omega) hfit _ KA.out).mono ?_
  rintro e w1 ⟨g, rfl, hg1, hb1⟩
  have P1 := Lib.hid (K1.out.below hb1 K1.out.lt)
  have P2 := Lib.hid (K2.out.below hb1 K2.out.lt)
  have PA := Lib.hid (KA.out.below hb1 (Nat.le_refl _))
  have PB := Lib.hid (KB.out.trans (hb1.mono (by have := K1.out.lt; omega)))
  have PG := Lib.hid hg1
  clear hg1 hb1 K1 K2 KB KA
  go_wp2_with (first | (refine wpList_load_row rfl 53 (.tmp 4) rfl B rfl 53 (byteCells key 32).toArray (0, 0) _ P1.out rfl rfl (by kernel_rfl) ?_) | (refine wpList_load_row rfl 54 (.tmp 5) rfl (B + 1) rfl 54 (byteCells nonce 12).toArray (0, 0) _ P2.out rfl rfl (by kernel_rfl) ?_))
  refine (xor_ok key nonce HK.out HN.out ctr hc (some ⟨g, 0, none⟩) n n (xo key nonce ctr f) (xo_lt key nonce ctr f HF.out) (by omega) hfit _ (Rd.of_whole PG.out)).mono ?_
  rintro e w2 ⟨g2, rfl, hg2, hb2⟩
  have hs : B ≤ w2.heap.size := by have := P1.out.lt; have := hb2.size; omega
  have QA := Lib.hid (PA.out.below hb2 (Nat.le_refl _))
  have QB := Lib.hid (PB.out.trans (hb2.mono (by have := P1.out.lt; omega)))
  have QG := Lib.hid hg2
  clear hg2 hb2 P1 P2 PA PB PG
  go_wp2_with fail
  refine (alive_any _).mono ?_
  rintro e w3 ⟨rfl, hb3⟩
  have ra := QA.out.below hb3 (Nat.le_refl _)
  have rg := Rd.of_whole (QG.out.below hb3 QG.out.lt)
  have HB3 := Lib.hid (QB.out.trans (hb3.mono hs))
  have hcv1 := run_string_of (P := Try.prog) (c := c) 22 9 5 Try.underlying22 Try.underlying5 Try.underlying9 ra
  have hcv2 := run_string_of (P := Try.prog) (c := n) 22 9 5 Try.underlying22 Try.underlying5 Try.underlying9 rg
  rw [strOf_congr (fun i _ => xo_xo key nonce ctr f i)] at hcv2
  clear ra rg hb3 QA QB QG
  go_wp2_with fail
  go_ret
  exact ⟨rfl, by rw [hB]; exact HB3.out⟩

theorem walk (key nonce : Nat → Nat) (a2 : Int) (a3 : Option Addr) (len3 cap3 : Nat) (z3 : List Int) (w : World) (w0 : ∀ i, key i < 256) (w1 : ∀ i, nonce i < 256) (w2 : (Lit.int .u32 a2).wf = true) (w3 : IsRow .u8 w a3 len3 cap3 z3) :
    Calls Try.prog 11 #[.agg (byteCells key 32).toArray, .agg (byteCells nonce 12).toArray, .int .u32 a2, .slice a3 len3 cap3] w fun e w' => e = .returned (.bool true) ∧ Below w.heap.size w w' := by
  obtain ⟨ctr, rfl, hc⟩ := nat_u32 w2
  obtain ⟨f, hf, hr, hcap, hm⟩ := rd_of_row w3
  by_cases h1 : 2000 < len3
  · exact big key nonce ctr a3 len3 cap3 h1 w
  · by_cases h2 : 4294967296 < ctr + (len3 + 63) / 64
    · exact over key nonce ctr hc a3 len3 cap3 (by omega) h2 w
    · exact fits key nonce w0 w1 ctr hc a3 len3 cap3 f hf (by omega) (by omega) w hr

end ChachaTwice
end Go.Proofs.Ytmhmcdldfpnmbaa
