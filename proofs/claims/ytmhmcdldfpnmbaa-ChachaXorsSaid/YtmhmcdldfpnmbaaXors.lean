/- 'aditlaw02.ChachaXors' returns true at every input and writes nothing that was there: the walk. No condition. -/
import Derived.Test.YtmhmcdldfpnmbaaRefXor
namespace Go.Proofs.Ytmhmcdldfpnmbaa
namespace ChachaXors
open Go.ChangeShapes Go.WideShapes Go.ChangeAt Go.RowKit
open Num Mem Words State Quiet Chacha ChachaTwice Ref

set_option maxRecDepth 100000 in
theorem big (key nonce : Nat → Nat) (ctr : Nat) (A : Option Addr) (n c : Nat) (h : (700 < n ∧ n ≤ 65536) ∨ 65546 < n) (w : World) :
    Calls Try.prog 10 #[.agg (byteCells key 32).toArray, .agg (byteCells nonce 12).toArray, .int .u32 ctr, .slice A n c] w fun e w' => e = .returned (.bool true) ∧ Below w.heap.size w w' := by
  have hd : decide ((700 : Int) < (n : Int)) = true := decide_eq_true (by omega)
  rcases h with h | h
  · have hd2 : decide ((n : Int) ≤ (65536 : Int)) = true := decide_eq_true (by omega)
    rw [byteCells_lit32, byteCells_lit12]
    go_enter Try.func10, Try.ntmps10
    go_wp2_with fail
    refine (alive_any _).mono ?_
    rintro e w1 ⟨rfl, hb1⟩
    have HB := Lib.hid (below_trans (below_alloc (below_alloc (Below.refl w.heap.size w) _) _) hb1)
    clear hb1
    go_wp2_with fail
    go_ret
    exact ⟨rfl, HB.out⟩
  · have hd2 : decide ((n : Int) ≤ (65536 : Int)) = false := decide_eq_false (by omega)
    have hd3 : decide ((65546 : Int) < (n : Int)) = true := decide_eq_true (by omega)
    rw [byteCells_lit32, byteCells_lit12]
    go_enter Try.func10, Try.ntmps10
    go_wp2_with fail
    refine (alive_any _).mono ?_
    rintro e w1 ⟨rfl, hb1⟩
    have HB := Lib.hid (below_trans (below_alloc (below_alloc (Below.refl w.heap.size w) _) _) hb1)
    clear hb1
    go_wp2_with fail
    go_ret
    exact ⟨rfl, HB.out⟩

set_option maxRecDepth 100000 in
theorem long (key nonce : Nat → Nat) (ctr : Nat) (A : Option Addr) (n c : Nat) (h : 65536 < n) (h2 : n ≤ 65546) (w : World) :
    Calls Try.prog 10 #[.agg (byteCells key 32).toArray, .agg (byteCells nonce 12).toArray, .int .u32 ctr, .slice A n c] w fun e w' => e = .returned (.bool true) ∧ Below w.heap.size w w' := by
  have hd : decide ((700 : Int) < (n : Int)) = true := decide_eq_true (by omega)
  have hd2 : decide ((n : Int) ≤ (65536 : Int)) = false := decide_eq_false (by omega)
  have hd3 : decide ((65546 : Int) < (n : Int)) = false := decide_eq_false (by omega)
  rw [byteCells_lit32, byteCells_lit12]
  go_enter Try.func10, Try.ntmps10
  go_upto_region 1 with fail
  rw [← byteCells_lit32, ← byteCells_lit12]
  refine cut_world (fun W => Whole W w.heap.size 53 (byteCells key 32).toArray ∧ Whole W (w.heap.size + 1) 54 (byteCells nonce 12).toArray ∧ Below w.heap.size w W) ⟨?_, ?_, ?_⟩ ?_
  · exact (whole_new _ _ rfl).alloc _
  · exact whole_new _ _ (by simp)
  · exact below_alloc (below_alloc (Below.refl _ _) _) _
  rintro W ⟨k1, k2, kb⟩
  have K1 := Lib.hid k1
  have K2 := Lib.hid k2
  have KB := Lib.hid kb
  clear k1 k2 kb
  generalize hB : w.heap.size = B at K1 K2 KB ⊢
  go_wp2_with (first | (refine wpList_load_row rfl 53 (.tmp 4) rfl B rfl 53 (byteCells key 32).toArray (0, 0) _ K1.out rfl rfl (by kernel_rfl) ?_) | (refine wpList_load_row rfl 54 (.tmp 5) rfl (B + 1) rfl 54 (byteCells nonce 12).toArray (0, 0) _ K2.out rfl rfl (by kernel_rfl) ?_))
  refine (xor_long key nonce ctr A n c h (by omega) _).mono ?_
  rintro e w1 ⟨rfl, hb1⟩
  have hs : B + 1 < w1.heap.size := by have := K2.out.lt; have := hb1.size; omega
  have PB := Lib.hid (KB.out.trans (hb1.mono (by have := K1.out.lt; omega)))
  clear hb1 K1 K2 KB
  go_wp2_with fail
  refine region_start (fun w' => Below w1.heap.size w1 w') (by kernel_rfl) (below_drewN (Below.refl _ _) 1) ?_
  intro w2 hS
  refine take 0 _ rfl (by kernel_rfl) (by kernel_rfl) (by kernel_rfl) (fun _ _ _ h => h) (by rfl) hS (by intro w _; go_simp; with_reducible rfl) ?_
  try simp only [Act.put, List.setIfInBounds_toArray, List.set_cons_zero, List.set_cons_succ]
  refine take 1 _ rfl (by kernel_rfl) (by kernel_rfl) (by kernel_rfl) (fun _ _ _ h => h) (by rfl) hS (by intro w _; go_simp; with_reducible rfl) ?_
  try simp only [Act.put, List.setIfInBounds_toArray, List.set_cons_zero, List.set_cons_succ]
  refine take 2 _ rfl (by kernel_rfl) (by kernel_rfl) (by kernel_rfl) (fun _ _ _ h => h) (by rfl) hS (by intro w _; go_simp; with_reducible rfl) ?_
  try simp only [Act.put, List.setIfInBounds_toArray, List.set_cons_zero, List.set_cons_succ]
  refine take 3 _ rfl (by kernel_rfl) (by kernel_rfl) (by kernel_rfl) (fun _ _ _ h => h) (by rfl) hS (by intro w _; go_simp; with_reducible rfl) ?_
  try simp only [Act.put, List.setIfInBounds_toArray, List.set_cons_zero, List.set_cons_succ]
  refine take 4 _ rfl (by kernel_rfl) (by kernel_rfl) (by kernel_rfl) (fun _ _ _ h => h) (by rfl) hS (by intro w _; go_simp; with_reducible rfl) ?_
  try simp only [Act.put, List.setIfInBounds_toArray, List.set_cons_zero, List.set_cons_succ]
  refine alone 5 rfl (by kernel_rfl) (by rfl) ?_
  intro K hK
  go_simp
  refine (xor_ref_long _ _ _ _ _ _ _ A n c h _).mono ?_
  rintro e w3 ⟨rfl, rfl⟩
  have hb := Below.refl w2.heap.size w2
  go_simp
  replace hS := below_trans hS hb
  refine hK.out _ _ hS ?_
  clear hK hb K
  try simp only [Act.put, List.setIfInBounds_toArray, List.set_cons_zero, List.set_cons_succ]
  refine take 6 _ rfl (by kernel_rfl) (by kernel_rfl) (by kernel_rfl) (fun _ _ _ h => h) (by rfl) hS (by intro w _; go_simp; with_reducible rfl) ?_
  try simp only [Act.put, List.setIfInBounds_toArray, List.set_cons_zero, List.set_cons_succ]
  refine take 7 _ rfl (by kernel_rfl) (by kernel_rfl) (by kernel_rfl) (fun _ _ _ h => h) (by rfl) hS (by intro w _; go_simp; with_reducible rfl) ?_
  try simp only [Act.put, List.setIfInBounds_toArray, List.set_cons_zero, List.set_cons_succ]
  refine take 8 _ rfl (by kernel_rfl) (by kernel_rfl) (by kernel_rfl) (fun _ _ _ h => h) (by rfl) hS (by intro w _; go_simp; with_reducible rfl) ?_
  try simp only [Act.put, List.setIfInBounds_toArray, List.set_cons_zero, List.set_cons_succ]
  refine take 9 _ rfl (by kernel_rfl) (by kernel_rfl) (by kernel_rfl) (fun _ _ _ h => h) (by rfl) hS (by intro w _; go_simp; with_reducible rfl) ?_
  try simp only [Act.put, List.setIfInBounds_toArray, List.set_cons_zero, List.set_cons_succ]
  refine take 10 _ rfl (by kernel_rfl) (by kernel_rfl) (by kernel_rfl) (fun _ _ _ h => h) (by rfl) hS (by intro w _; go_simp; with_reducible rfl) ?_
  try simp only [Act.put, List.setIfInBounds_toArray, List.set_cons_zero, List.set_cons_succ]
  refine region_end (by kernel_rfl) ?_
  have SB := Lib.hid (PB.out.trans (hS.mono (by omega)))
  have hs3 : B ≤ w2.heap.size := by have := hS.size; omega
  clear hS
  go_wp2_with fail
  refine (alive_any _).mono ?_
  rintro e w4 ⟨rfl, hb4⟩
  have HB4 := Lib.hid (SB.out.trans (hb4.mono hs3))
  have hcv1 := run_string_of (P := Try.prog) (c := 0) 22 9 5 Try.underlying22 Try.underlying5 Try.underlying9 (show Rd w4 none 0 noughts from .inl rfl)
  clear hb4
  go_wp2_with fail
  go_ret
  exact ⟨rfl, by rw [hB]; exact HB4.out⟩

set_option maxRecDepth 100000 in
theorem over (key nonce : Nat → Nat) (hk : ∀ i, key i < 256) (hno : ∀ i, nonce i < 256) (ctr : Nat) (hc : ctr < 4294967296) (A : Option Addr) (n c : Nat) (f : Nat → Nat) (hf : ∀ i, f i < 256) (h : n ≤ 700) (hfit : 4294967296 < ctr + (n + 63) / 64) (w : World) (hA : Rd w A n f) :
    Calls Try.prog 10 #[.agg (byteCells key 32).toArray, .agg (byteCells nonce 12).toArray, .int .u32 ctr, .slice A n c] w fun e w' => e = .returned (.bool true) ∧ Below w.heap.size w w' := by
  have hd : decide ((700 : Int) < (n : Int)) = false := decide_eq_false (by omega)
  have hd3 : decide ((65546 : Int) < (n : Int)) = false := decide_eq_false (by omega)
  have HK := Lib.hid hk
  have HN := Lib.hid hno
  have HF := Lib.hid hf
  have HA := Lib.hid hA
  clear hk hno hf hA
  rw [byteCells_lit32, byteCells_lit12]
  go_enter Try.func10, Try.ntmps10
  go_upto_region 1 with fail
  rw [← byteCells_lit32, ← byteCells_lit12]
  refine cut_world (fun W => Whole W w.heap.size 53 (byteCells key 32).toArray ∧ Whole W (w.heap.size + 1) 54 (byteCells nonce 12).toArray ∧ Below w.heap.size w W ∧ Rd W A n f) ⟨?_, ?_, ?_, ?_⟩ ?_
  · exact (whole_new _ _ rfl).alloc _
  · exact whole_new _ _ (by simp)
  · exact below_alloc (below_alloc (Below.refl _ _) _) _
  · exact HA.out.below (below_alloc (below_alloc (Below.refl _ _) _) _) (Nat.le_refl _)
  rintro W ⟨k1, k2, kb, ka0⟩
  have K1 := Lib.hid k1
  have K2 := Lib.hid k2
  have KB := Lib.hid kb
  have KA0 := Lib.hid ka0
  clear ka0
  clear k1 k2 kb
  generalize hB : w.heap.size = B at K1 K2 KB ⊢
  go_wp2_with (first | (refine wpList_load_row rfl 53 (.tmp 4) rfl B rfl 53 (byteCells key 32).toArray (0, 0) _ K1.out rfl rfl (by kernel_rfl) ?_) | (refine wpList_load_row rfl 54 (.tmp 5) rfl (B + 1) rfl 54 (byteCells nonce 12).toArray (0, 0) _ K2.out rfl rfl (by kernel_rfl) ?_))
  refine (xor_over key nonce ctr hc A n c (by omega) hfit _).mono ?_
  rintro e w1 ⟨rfl, hb1⟩
  have hs : B + 1 < w1.heap.size := by have := K2.out.lt; have := hb1.size; omega
  have P1 := Lib.hid (K1.out.below hb1 K1.out.lt)
  have P2 := Lib.hid (K2.out.below hb1 K2.out.lt)
  have PA := Lib.hid (KA0.out.below hb1 (Nat.le_refl _))
  have PB := Lib.hid (KB.out.trans (hb1.mono (by have := K1.out.lt; omega)))
  clear hb1 K1 K2 KB KA0
  go_wp2_with fail
  refine region_start (fun w' => Below w1.heap.size w1 w') (by kernel_rfl) (below_drewN (Below.refl _ _) 1) ?_
  intro w2 hS
  have HCW := Lib.hid (show IntKind.u64.wrap ((ctr : Nat) : Int) = ((ctr : Nat) : Int) by rw [IntKind.wrap_u64]; omega)
  refine take 0 _ rfl (by kernel_rfl) (by kernel_rfl) (by kernel_rfl) (fun _ _ _ h => h) (by rfl) hS (by intro w _; go_simp; with_reducible rfl) ?_
  try simp only [Act.put, List.setIfInBounds_toArray, List.set_cons_zero, List.set_cons_succ]
  refine take 1 _ rfl (by kernel_rfl) (by kernel_rfl) (by kernel_rfl) (fun _ _ _ h => h) (by rfl) hS (by intro w _; go_simp; with_reducible rfl) ?_
  try simp only [Act.put, List.setIfInBounds_toArray, List.set_cons_zero, List.set_cons_succ]
  refine take 2 _ rfl (by kernel_rfl) (by kernel_rfl) (by kernel_rfl) (fun _ _ _ h => h) (by rfl) hS (by intro w _; go_simp; with_reducible rfl) ?_
  try simp only [Act.put, List.setIfInBounds_toArray, List.set_cons_zero, List.set_cons_succ]
  refine take 3 _ rfl (by kernel_rfl) (by kernel_rfl) (by kernel_rfl) (fun _ _ _ h => h) (by rfl) hS (by intro w _; go_simp; with_reducible rfl) ?_
  try simp only [Act.put, List.setIfInBounds_toArray, List.set_cons_zero, List.set_cons_succ]
  refine take 4 _ rfl (by kernel_rfl) (by kernel_rfl) (by kernel_rfl) (fun _ _ _ h => h) (by rfl) hS (by intro w _; go_simp; with_reducible rfl) ?_
  try simp only [Act.put, List.setIfInBounds_toArray, List.set_cons_zero, List.set_cons_succ]
  rw [HCW.out]
  refine alone 5 rfl (by kernel_rfl) (by rfl) ?_
  intro K hK
  go_simp
  refine (xor_ref B 0 32 (B + 1) 0 12 key nonce HK.out HN.out ctr hc (by omega) (by omega) A n c f HF.out (by omega) _ (by have := hS.size; omega) (by have := hS.size; omega) (fun i hi => (P1.out.below hS P1.out.lt).bytes i hi) (fun i hi => (P2.out.below hS P2.out.lt).bytes i hi) (PA.out.below hS (Nat.le_refl _))).mono ?_
  rintro e w3 ⟨hb, hpost⟩
  obtain rfl : e = .returned (.tuple #[.slice none 0 0, .int .i64 2]) := by rcases hpost with ⟨h1, _⟩ | ⟨_, h1⟩ <;> first | exact h1 | omega
  clear hpost
  go_simp
  replace hS := below_trans hS hb
  refine hK.out _ _ hS ?_
  clear hK hb K
  try simp only [Act.put, List.setIfInBounds_toArray, List.set_cons_zero, List.set_cons_succ]
  refine take 6 _ rfl (by kernel_rfl) (by kernel_rfl) (by kernel_rfl) (fun _ _ _ h => h) (by rfl) hS (by intro w _; go_simp; with_reducible rfl) ?_
  try simp only [Act.put, List.setIfInBounds_toArray, List.set_cons_zero, List.set_cons_succ]
  refine take 7 _ rfl (by kernel_rfl) (by kernel_rfl) (by kernel_rfl) (fun _ _ _ h => h) (by rfl) hS (by intro w _; go_simp; with_reducible rfl) ?_
  try simp only [Act.put, List.setIfInBounds_toArray, List.set_cons_zero, List.set_cons_succ]
  refine take 8 _ rfl (by kernel_rfl) (by kernel_rfl) (by kernel_rfl) (fun _ _ _ h => h) (by rfl) hS (by intro w _; go_simp; with_reducible rfl) ?_
  try simp only [Act.put, List.setIfInBounds_toArray, List.set_cons_zero, List.set_cons_succ]
  refine take 9 _ rfl (by kernel_rfl) (by kernel_rfl) (by kernel_rfl) (fun _ _ _ h => h) (by rfl) hS (by intro w _; go_simp; with_reducible rfl) ?_
  try simp only [Act.put, List.setIfInBounds_toArray, List.set_cons_zero, List.set_cons_succ]
  refine take 10 _ rfl (by kernel_rfl) (by kernel_rfl) (by kernel_rfl) (fun _ _ _ h => h) (by rfl) hS (by intro w _; go_simp; with_reducible rfl) ?_
  try simp only [Act.put, List.setIfInBounds_toArray, List.set_cons_zero, List.set_cons_succ]
  refine region_end (by kernel_rfl) ?_
  have SB := Lib.hid (PB.out.trans (hS.mono (by omega)))
  have hs3 : B ≤ w3.heap.size := by have := hS.size; omega
  clear hS
  go_wp2_with fail
  refine (alive_any _).mono ?_
  rintro e w4 ⟨rfl, hb4⟩
  have HB4 := Lib.hid (SB.out.trans (hb4.mono hs3))
  have hcv1 := run_string_of (P := Try.prog) (c := 0) 22 9 5 Try.underlying22 Try.underlying5 Try.underlying9 (show Rd w4 none 0 noughts from .inl rfl)
  clear hb4
  go_wp2_with fail
  go_ret
  exact ⟨rfl, by rw [hB]; exact HB4.out⟩

set_option maxRecDepth 100000 in
theorem fits (key nonce : Nat → Nat) (hk : ∀ i, key i < 256) (hno : ∀ i, nonce i < 256) (ctr : Nat) (hc : ctr < 4294967296) (A : Option Addr) (n c : Nat) (f : Nat → Nat) (hf : ∀ i, f i < 256) (h : n ≤ 700) (hfit : ctr + (n + 63) / 64 ≤ 4294967296) (w : World) (hA : Rd w A n f) :
    Calls Try.prog 10 #[.agg (byteCells key 32).toArray, .agg (byteCells nonce 12).toArray, .int .u32 ctr, .slice A n c] w fun e w' => e = .returned (.bool true) ∧ Below w.heap.size w w' := by
  have hd : decide ((700 : Int) < (n : Int)) = false := decide_eq_false (by omega)
  have hd3 : decide ((65546 : Int) < (n : Int)) = false := decide_eq_false (by omega)
  have HK := Lib.hid hk
  have HN := Lib.hid hno
  have HF := Lib.hid hf
  have HA := Lib.hid hA
  clear hk hno hf hA
  rw [byteCells_lit32, byteCells_lit12]
  go_enter Try.func10, Try.ntmps10
  go_upto_region 1 with fail
  rw [← byteCells_lit32, ← byteCells_lit12]
  refine cut_world (fun W => Whole W w.heap.size 53 (byteCells key 32).toArray ∧ Whole W (w.heap.size + 1) 54 (byteCells nonce 12).toArray ∧ Below w.heap.size w W ∧ Rd W A n f) ⟨?_, ?_, ?_, ?_⟩ ?_
  · exact (whole_new _ _ rfl).alloc _
  · exact whole_new _ _ (by simp)
  · exact below_alloc (below_alloc (Below.refl _ _) _) _
  · exact HA.out.below (below_alloc (below_alloc (Below.refl _ _) _) _) (Nat.le_refl _)
  rintro W ⟨k1, k2, kb, ka0⟩
  have K1 := Lib.hid k1
  have K2 := Lib.hid k2
  have KB := Lib.hid kb
  have KA0 := Lib.hid ka0
  clear ka0
  clear k1 k2 kb
  generalize hB : w.heap.size = B at K1 K2 KB ⊢
  go_wp2_with (first | (refine wpList_load_row rfl 53 (.tmp 4) rfl B rfl 53 (byteCells key 32).toArray (0, 0) _ K1.out rfl rfl (by kernel_rfl) ?_) | (refine wpList_load_row rfl 54 (.tmp 5) rfl (B + 1) rfl 54 (byteCells nonce 12).toArray (0, 0) _ K2.out rfl rfl (by kernel_rfl) ?_))
  refine (xor_ok key nonce HK.out HN.out ctr hc A n c f HF.out (by omega) hfit _ KA0.out).mono ?_
  rintro e w1 ⟨g, rfl, hg1, hb1⟩
  have hs : B + 1 < w1.heap.size := by have := K2.out.lt; have := hb1.size; omega
  have P1 := Lib.hid (K1.out.below hb1 K1.out.lt)
  have P2 := Lib.hid (K2.out.below hb1 K2.out.lt)
  have PA := Lib.hid (KA0.out.below hb1 (Nat.le_refl _))
  have PB := Lib.hid (KB.out.trans (hb1.mono (by have := K1.out.lt; omega)))
  have PG := Lib.hid hg1
  clear hb1 K1 K2 KB KA0 hg1
  go_wp2_with fail
  refine region_start (fun w' => Below w1.heap.size w1 w') (by kernel_rfl) (below_drewN (Below.refl _ _) 1) ?_
  intro w2 hS
  have HCW := Lib.hid (show IntKind.u64.wrap ((ctr : Nat) : Int) = ((ctr : Nat) : Int) by rw [IntKind.wrap_u64]; omega)
  refine take 0 _ rfl (by kernel_rfl) (by kernel_rfl) (by kernel_rfl) (fun _ _ _ h => h) (by rfl) hS (by intro w _; go_simp; with_reducible rfl) ?_
  try simp only [Act.put, List.setIfInBounds_toArray, List.set_cons_zero, List.set_cons_succ]
  refine take 1 _ rfl (by kernel_rfl) (by kernel_rfl) (by kernel_rfl) (fun _ _ _ h => h) (by rfl) hS (by intro w _; go_simp; with_reducible rfl) ?_
  try simp only [Act.put, List.setIfInBounds_toArray, List.set_cons_zero, List.set_cons_succ]
  refine take 2 _ rfl (by kernel_rfl) (by kernel_rfl) (by kernel_rfl) (fun _ _ _ h => h) (by rfl) hS (by intro w _; go_simp; with_reducible rfl) ?_
  try simp only [Act.put, List.setIfInBounds_toArray, List.set_cons_zero, List.set_cons_succ]
  refine take 3 _ rfl (by kernel_rfl) (by kernel_rfl) (by kernel_rfl) (fun _ _ _ h => h) (by rfl) hS (by intro w _; go_simp; with_reducible rfl) ?_
  try simp only [Act.put, List.setIfInBounds_toArray, List.set_cons_zero, List.set_cons_succ]
  refine take 4 _ rfl (by kernel_rfl) (by kernel_rfl) (by kernel_rfl) (fun _ _ _ h => h) (by rfl) hS (by intro w _; go_simp; with_reducible rfl) ?_
  try simp only [Act.put, List.setIfInBounds_toArray, List.set_cons_zero, List.set_cons_succ]
  rw [HCW.out]
  refine alone 5 rfl (by kernel_rfl) (by rfl) ?_
  intro K hK
  go_simp
  refine (xor_ref B 0 32 (B + 1) 0 12 key nonce HK.out HN.out ctr hc (by omega) (by omega) A n c f HF.out (by omega) _ (by have := hS.size; omega) (by have := hS.size; omega) (fun i hi => (P1.out.below hS P1.out.lt).bytes i hi) (fun i hi => (P2.out.below hS P2.out.lt).bytes i hi) (PA.out.below hS (Nat.le_refl _))).mono ?_
  rintro e w3 ⟨hb, hpost⟩
  obtain ⟨A3, c3, rfl, hr3⟩ : ∃ A c, e = .returned (.tuple #[.slice A n c, .int .i64 0]) ∧ Rd w3 A n (xo key nonce ctr f) := by rcases hpost with ⟨_, h1⟩ | ⟨h1, _⟩ <;> first | exact h1 | omega
  clear hpost
  go_simp
  replace hS := below_trans hS hb
  refine hK.out _ _ hS ?_
  clear hK hb K
  try simp only [Act.put, List.setIfInBounds_toArray, List.set_cons_zero, List.set_cons_succ]
  refine take 6 _ rfl (by kernel_rfl) (by kernel_rfl) (by kernel_rfl) (fun _ _ _ h => h) (by rfl) hS (by intro w _; go_simp; with_reducible rfl) ?_
  try simp only [Act.put, List.setIfInBounds_toArray, List.set_cons_zero, List.set_cons_succ]
  refine take 7 _ rfl (by kernel_rfl) (by kernel_rfl) (by kernel_rfl) (fun _ _ _ h => h) (by rfl) hS (by intro w _; go_simp; with_reducible rfl) ?_
  try simp only [Act.put, List.setIfInBounds_toArray, List.set_cons_zero, List.set_cons_succ]
  refine take 8 _ rfl (by kernel_rfl) (by kernel_rfl) (by kernel_rfl) (fun _ _ _ h => h) (by rfl) hS (by intro w _; go_simp; with_reducible rfl) ?_
  try simp only [Act.put, List.setIfInBounds_toArray, List.set_cons_zero, List.set_cons_succ]
  refine take 9 _ rfl (by kernel_rfl) (by kernel_rfl) (by kernel_rfl) (fun _ _ _ h => h) (by rfl) hS (by intro w _; go_simp; with_reducible rfl) ?_
  try simp only [Act.put, List.setIfInBounds_toArray, List.set_cons_zero, List.set_cons_succ]
  refine take 10 _ rfl (by kernel_rfl) (by kernel_rfl) (by kernel_rfl) (fun _ _ _ h => h) (by rfl) hS (by intro w _; go_simp; with_reducible rfl) ?_
  try simp only [Act.put, List.setIfInBounds_toArray, List.set_cons_zero, List.set_cons_succ]
  refine region_end (by kernel_rfl) ?_
  have SB := Lib.hid (PB.out.trans (hS.mono (by omega)))
  have hs3 : B ≤ w3.heap.size := by have := hS.size; omega
  have SG := Lib.hid (Rd.of_whole (PG.out.below hS PG.out.lt))
  have SR := Lib.hid hr3
  clear hS
  go_wp2_with fail
  refine (alive_any _).mono ?_
  rintro e w4 ⟨rfl, hb4⟩
  have HB4 := Lib.hid (SB.out.trans (hb4.mono hs3))
  have hcv1 := run_string_of (P := Try.prog) (c := n) 22 9 5 Try.underlying22 Try.underlying5 Try.underlying9 (SG.out.below hb4 (Nat.le_refl _))
  have hcv2 := run_string_of (P := Try.prog) (c := c3) 22 9 5 Try.underlying22 Try.underlying5 Try.underlying9 (SR.out.below hb4 (Nat.le_refl _))
  clear hb4
  go_wp2_with fail
  go_ret
  exact ⟨rfl, by rw [hB]; exact HB4.out⟩

theorem walk (key nonce : Nat → Nat) (a2 : Int) (a3 : Option Addr) (len3 cap3 : Nat) (z3 : List Int) (w : World) (w0 : ∀ i, key i < 256) (w1 : ∀ i, nonce i < 256) (w2 : (Lit.int .u32 a2).wf = true) (w3 : IsRow .u8 w a3 len3 cap3 z3) :
    Calls Try.prog 10 #[.agg (byteCells key 32).toArray, .agg (byteCells nonce 12).toArray, .int .u32 a2, .slice a3 len3 cap3] w fun e w' => e = .returned (.bool true) ∧ Below w.heap.size w w' := by
  obtain ⟨ctr, rfl, hc⟩ := nat_u32 w2
  obtain ⟨f, hf, hr, hcap, hm⟩ := rd_of_row w3
  by_cases h1 : (700 < len3 ∧ len3 ≤ 65536) ∨ 65546 < len3
  · exact big key nonce ctr a3 len3 cap3 h1 w
  · by_cases h3 : 65536 < len3
    · exact long key nonce ctr a3 len3 cap3 h3 (by omega) w
    · by_cases h2 : 4294967296 < ctr + (len3 + 63) / 64
      · exact over key nonce w0 w1 ctr hc a3 len3 cap3 f hf (by omega) h2 w hr
      · exact fits key nonce w0 w1 ctr hc a3 len3 cap3 f hf (by omega) (by omega) w hr

end ChachaXors
end Go.Proofs.Ytmhmcdldfpnmbaa
