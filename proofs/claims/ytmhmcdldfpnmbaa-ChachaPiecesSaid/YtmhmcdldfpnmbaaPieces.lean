/- 'aditlaw02.ChachaPieces' returns true at every input and writes nothing that was there: the walk. No condition. -/
import Derived.Test.YtmhmcdldfpnmbaaTwice
namespace Go.Proofs.Ytmhmcdldfpnmbaa
namespace ChachaPieces
open Go.ChangeShapes Go.WideShapes Go.ChangeAt Go.RowKit
open Num Mem Words State Quiet Chacha ChachaTwice

theorem rd_short {w : World} {A : Option Addr} {n : Nat} {f : Nat → Nat} (h : Rd w A n f) (m : Nat) (hm : m ≤ n) : Rd w A m f := by
  rcases h with h | ⟨b, off, hA, hlt, hcell⟩
  · exact .inl (by omega)
  · exact .inr ⟨b, off, hA, hlt, fun i hi => hcell i (by omega)⟩

/-- a piece of a slice that reads as f reads as f from there on -/
theorem rd_sub {w : World} {A : Option Addr} {n c : Nat} {f : Nat → Nat} (h : Rd w A n f) (hc : n ≤ c) (l m : Nat) (hl : l + m ≤ n) : Rd w (if c = l then A else A.map (fun x => x.add l)) m (fun i => f (l + i)) := by
  rcases Nat.eq_zero_or_pos m with h0 | h0
  · exact .inl h0
  rcases h with h | ⟨b, off, hA, hlt, hcell⟩
  · omega
  · refine .inr ⟨b, off + l, ?_, hlt, fun i hi => ?_⟩
    · rw [if_neg (by omega), hA, Option.map_some]
      congr 1
      by_cases hz : l = 0
      · subst hz
        rfl
      · simp [Addr.add, hz]
    · rw [Nat.add_assoc]
      exact hcell (l + i) (by omega)

theorem counted (ctr a c2 : Nat) (h : c2 = (ctr + a / 64) % 4294967296) : IntKind.u32.wrap ((ctr : Int) + IntKind.u32.wrap (IntKind.i64.wrap ((a : Int) / 64))) = ((c2 : Nat) : Int) := by
  rw [IntKind.wrap_i64, IntKind.wrap_u32, IntKind.wrap_u32]
  omega
theorem short_sum (f g : Nat → Nat) (n m : Nat) (hn : n ≤ 10000) (hm : m ≤ 10000) : ¬ 9223372036854775807 < (Mem.strOf f n).size + (Mem.strOf g m).size := by
  rw [strOf_size, strOf_size]
  omega
set_option maxRecDepth 100000 in
theorem big (key nonce : Nat → Nat) (ctr : Nat) (A : Option Addr) (n c : Nat) (q : Int) (h : 2000 < n ∨ (n ≤ 2000 ∧ q < 0) ∨ (n ≤ 2000 ∧ 0 ≤ q ∧ (n : Int) < q)) (w : World) :
    Calls Try.prog 12 #[.agg (byteCells key 32).toArray, .agg (byteCells nonce 12).toArray, .int .u32 ctr, .slice A n c, .int .i64 q] w fun e w' => e = .returned (.bool true) ∧ Below w.heap.size w w' := by
  rcases h with h | ⟨h1, h2⟩ | ⟨h1, h2, h3⟩
  · have hd : decide ((2000 : Int) < (n : Int)) = true := decide_eq_true (by omega)
    rw [byteCells_lit32, byteCells_lit12]
    go_enter Try.func12, Try.ntmps12
    go_wp2_with fail
    refine (alive_any _).mono ?_
    rintro e w1 ⟨rfl, hb1⟩
    have HB := Lib.hid (below_trans (below_alloc (below_alloc (Below.refl w.heap.size w) _) _) hb1)
    clear hb1
    go_wp2_with fail
    go_ret
    exact ⟨rfl, HB.out⟩
  · have hd : decide ((2000 : Int) < (n : Int)) = false := decide_eq_false (by omega)
    have hd2 : decide (q < 0) = true := decide_eq_true h2
    rw [byteCells_lit32, byteCells_lit12]
    go_enter Try.func12, Try.ntmps12
    go_wp2_with fail
    refine (alive_any _).mono ?_
    rintro e w1 ⟨rfl, hb1⟩
    have HB := Lib.hid (below_trans (below_alloc (below_alloc (Below.refl w.heap.size w) _) _) hb1)
    clear hb1
    go_wp2_with fail
    go_ret
    exact ⟨rfl, HB.out⟩
  · have hd : decide ((2000 : Int) < (n : Int)) = false := decide_eq_false (by omega)
    have hd2 : decide (q < 0) = false := decide_eq_false (by omega)
    have hd3 : decide ((n : Int) < q) = true := decide_eq_true h3
    rw [byteCells_lit32, byteCells_lit12]
    go_enter Try.func12, Try.ntmps12
    go_wp2_with fail
    refine (alive_any _).mono ?_
    rintro e w1 ⟨rfl, hb1⟩
    have HB := Lib.hid (below_trans (below_alloc (below_alloc (Below.refl w.heap.size w) _) _) hb1)
    clear hb1
    go_wp2_with fail
    go_ret
    exact ⟨rfl, HB.out⟩

set_option maxRecDepth 100000 in
theorem over (key nonce : Nat → Nat) (ctr : Nat) (hc : ctr < 4294967296) (A : Option Addr) (n c p : Nat) (h : n ≤ 2000) (hp : p ≤ n) (hfit : 4294967296 < ctr + (n + 63) / 64) (w : World) :
    Calls Try.prog 12 #[.agg (byteCells key 32).toArray, .agg (byteCells nonce 12).toArray, .int .u32 ctr, .slice A n c, .int .i64 p] w fun e w' => e = .returned (.bool true) ∧ Below w.heap.size w w' := by
  have hd : decide ((2000 : Int) < (n : Int)) = false := decide_eq_false (by omega)
  have hd2 : decide ((n : Int) < (p : Int)) = false := decide_eq_false (by omega)
  rw [byteCells_lit32, byteCells_lit12]
  go_enter Try.func12, Try.ntmps12
  go_upto_region 1 with fail
  rw [← byteCells_lit32, ← byteCells_lit12]
  refine cut_world (fun W => Whole W w.heap.size 53 (byteCells key 32).toArray ∧ Whole W (w.heap.size + 1) 54 (byteCells nonce 12).toArray ∧ Below w.heap.size w W) ⟨?_, ?_, ?_⟩ ?_
  · exact (whole_new _ _ rfl).alloc _
  · exact whole_new _ _ (by simp)
  · exact below_alloc (below_alloc (Below.refl _ _) _) _
  rintro W ⟨k1, k2, kb⟩
  have K1 := Lib.hid k1
  have K2 := Lib.hid k2
  have KB := Lib.hid kb
  clear k1 k2 kb
  generalize hB : w.heap.size = B at K1 K2 KB ⊢
  go_wp2_with (first | (refine wpList_load_row rfl 53 (.tmp 5) rfl B rfl 53 (byteCells key 32).toArray (0, 0) _ K1.out rfl rfl (by kernel_rfl) ?_) | (refine wpList_load_row rfl 54 (.tmp 6) rfl (B + 1) rfl 54 (byteCells nonce 12).toArray (0, 0) _ K2.out rfl rfl (by kernel_rfl) ?_))
  refine (xor_over key nonce ctr hc A n c (by omega) hfit _).mono ?_
  rintro e w1 ⟨rfl, hb1⟩
  have hs : B ≤ w1.heap.size := by have := K1.out.lt; have := hb1.size; omega
  have PB := Lib.hid (KB.out.trans (hb1.mono (by have := K1.out.lt; omega)))
  clear hb1 K1 K2 KB
  go_wp2_with fail
  refine (alive_any _).mono ?_
  rintro e w2 ⟨rfl, hb2⟩
  have HB2 := Lib.hid (PB.out.trans (hb2.mono hs))
  clear hb2
  go_wp2_with fail
  go_ret
  exact ⟨rfl, by rw [hB]; exact HB2.out⟩

theorem Rd.nought (w : World) {f : Nat → Nat} : Rd w none 0 f := .inl rfl

theorem strOf_append (f g : Nat → Nat) (n m : Nat) : Mem.strOf f n ++ Mem.strOf g m = Mem.strOf (fun i => if i < n then f i else g (i - n)) (n + m) := by
  have e : (Mem.strOf f n ++ Mem.strOf g m).data = (Mem.strOf f n).data ++ (Mem.strOf g m).data := ByteArray.data_append
  have h : ∀ s t : ByteArray, s.data = t.data → s = t := fun s t h => by cases s; cases t; congr
  apply h
  rw [e]
  apply Array.ext'
  rw [Array.toList_append]
  simp only [Mem.strOf]
  apply List.ext_getElem?
  intro i
  by_cases h1 : i < n
  · rw [List.getElem?_append_left (by simpa using h1)]
    have : i < n + m := by omega
    simp [h1, this]
  · rw [List.getElem?_append_right (by simp; omega)]
    by_cases h2 : i < n + m
    · have : i - n < m := by omega
      simp [h1, h2, this]
    · have : ¬ i - n < m := by omega
      simp [h2, this]

theorem same_str (f : Nat → Nat) (p : Nat) : ((Mem.strOf f p).toList == (Mem.strOf f p).toList) = true := by simp

theorem joined_end (key nonce : Nat → Nat) (ctr : Nat) (f : Nat → Nat) (a n : Nat) (h : a = n) : ((Mem.strOf (xo key nonce ctr f) a ++ Mem.strOf (fun _ => 0) 0).toList == (Mem.strOf (xo key nonce ctr f) n).toList) = true := by
  subst h
  rw [strOf_append, Nat.add_zero, strOf_congr (g := xo key nonce ctr f) (fun i hi => if_pos hi)]
  simp

theorem joined (key nonce : Nat → Nat) (ctr : Nat) (f : Nat → Nat) (a n c2 : Nat) (h : a ≤ n) (ha : a % 64 = 0) (h2 : c2 = ctr + a / 64) : ((Mem.strOf (xo key nonce ctr f) a ++ Mem.strOf (xo key nonce c2 (fun i => f (a + i))) (n - a)).toList == (Mem.strOf (xo key nonce ctr f) n).toList) = true := by
  subst h2
  rw [strOf_append, show a + (n - a) = n by omega, strOf_congr (g := xo key nonce ctr f) (fun i hi => by
    by_cases h1 : i < a
    · rw [if_pos h1]
    · rw [if_neg h1]
      unfold xo
      dsimp only
      rw [show a + (i - a) = i by omega, show ctr + a / 64 + (i - a) / 64 = ctr + i / 64 by omega, show (i - a) % 64 = i % 64 by omega])]
  simp

set_option maxRecDepth 100000 in
set_option maxHeartbeats 4000000 in
theorem fits (key nonce : Nat → Nat) (hk : ∀ i, key i < 256) (hno : ∀ i, nonce i < 256) (ctr : Nat) (hc : ctr < 4294967296) (A : Option Addr) (n c p : Nat) (f : Nat → Nat) (hf : ∀ i, f i < 256) (h : n ≤ 2000) (hnc : n ≤ c) (hcm : c ≤ 9223372036854775807) (hp : p ≤ n) (hfit : ctr + (n + 63) / 64 ≤ 4294967296) (w : World) (hA : Rd w A n f) :
    Calls Try.prog 12 #[.agg (byteCells key 32).toArray, .agg (byteCells nonce 12).toArray, .int .u32 ctr, .slice A n c, .int .i64 p] w fun e w' => e = .returned (.bool true) ∧ Below w.heap.size w w' := by
  have hd : decide ((2000 : Int) < (n : Int)) = false := decide_eq_false (by omega)
  have hd2 : decide ((n : Int) < (p : Int)) = false := decide_eq_false (by omega)
  have HK := Lib.hid hk
  have HN := Lib.hid hno
  have HF := Lib.hid hf
  have HA := Lib.hid hA
  have HAT := Lib.hid (show (p : Int) - (p : Int) % 64 = ((p - p % 64 : Nat) : Int) by omega)
  obtain ⟨a, ha⟩ : ∃ a, a = p - p % 64 := ⟨_, rfl⟩
  have ha1 : a ≤ p := by omega
  have ha2 : a % 64 = 0 := by omega
  rw [← ha] at HAT
  clear hk hno hf hA ha
  rw [byteCells_lit32, byteCells_lit12]
  go_enter Try.func12, Try.ntmps12
  go_upto_region 1 with fail
  rw [← byteCells_lit32, ← byteCells_lit12]
  refine cut_world (fun W => Whole W w.heap.size 53 (byteCells key 32).toArray ∧ Whole W (w.heap.size + 1) 54 (byteCells nonce 12).toArray ∧ Below w.heap.size w W ∧ Rd W A n f) ⟨?_, ?_, ?_, ?_⟩ ?_
  · exact (whole_new _ _ rfl).alloc _
  · exact whole_new _ _ (by simp)
  · exact below_alloc (below_alloc (Below.refl _ _) _) _
  · exact HA.out.below (below_alloc (below_alloc (Below.refl _ _) _) _) (Nat.le_refl _)
  rintro W ⟨k1, k2, kb, ka0⟩
  have K1 := Lib.hid k1
  have K2 := Lib.hid k2
  have KB := Lib.hid kb
  have KA0 := Lib.hid ka0
  clear ka0
  clear k1 k2 kb
  generalize hB : w.heap.size = B at K1 K2 KB ⊢
  go_wp2_with (first | (refine wpList_load_row rfl 53 (.tmp 5) rfl B rfl 53 (byteCells key 32).toArray (0, 0) _ K1.out rfl rfl (by kernel_rfl) ?_) | (refine wpList_load_row rfl 54 (.tmp 6) rfl (B + 1) rfl 54 (byteCells nonce 12).toArray (0, 0) _ K2.out rfl rfl (by kernel_rfl) ?_))
  refine (xor_ok key nonce HK.out HN.out ctr hc A n c f HF.out (by omega) hfit _ KA0.out).mono ?_
  rintro e w1 ⟨g, rfl, hg1, hb1⟩
  have hs : B + 1 < w1.heap.size := by have := K2.out.lt; have := hb1.size; omega
  have P1 := Lib.hid (K1.out.below hb1 K1.out.lt)
  have P2 := Lib.hid (K2.out.below hb1 K2.out.lt)
  have PA := Lib.hid (KA0.out.below hb1 (Nat.le_refl _))
  have PB := Lib.hid (KB.out.trans (hb1.mono (by have := K1.out.lt; omega)))
  have PG := Lib.hid hg1
  clear hg1 hb1 K1 K2 KB KA0
  have hnn : (((n : Nat) : Int) != ((n : Nat) : Int)) = false := by simp
  go_wp2_with fail
  simp only [HAT.out]
  have hac : (a : Int) ≤ (c : Int) := by omega
  have ha0 : (0 : Int) ≤ (a : Int) := by omega
  refine region_start (fun w' => Below w1.heap.size w1 w') (by kernel_rfl) (below_drewN (Below.refl _ _) 1) ?_
  intro w2 hS
  refine take 0 _ rfl (by kernel_rfl) (by kernel_rfl) (by kernel_rfl) (fun _ _ _ h => h) (by rfl) hS (fun w hw => run_load_op 53 (.tmp 5) rfl (B) rfl (P1.out.below hw P1.out.lt) rfl rfl (by kernel_rfl)) ?_
  try simp only [Act.put, List.setIfInBounds_toArray, List.set_cons_zero, List.set_cons_succ]
  refine take 1 _ rfl (by kernel_rfl) (by kernel_rfl) (by kernel_rfl) (fun _ _ _ h => h) (by rfl) hS (fun w hw => run_load_op 54 (.tmp 6) rfl ((B+1)) rfl (P2.out.below hw P2.out.lt) rfl rfl (by kernel_rfl)) ?_
  try simp only [Act.put, List.setIfInBounds_toArray, List.set_cons_zero, List.set_cons_succ]
  refine take 2 _ rfl (by kernel_rfl) (by kernel_rfl) (by kernel_rfl) (fun _ _ _ h => h) (by rfl) hS (by intro w _; go_simp; with_reducible rfl) ?_
  try simp only [Act.put, List.setIfInBounds_toArray, List.set_cons_zero, List.set_cons_succ]
  refine take 3 _ rfl (by kernel_rfl) (by kernel_rfl) (by kernel_rfl) (fun _ _ _ h => h) (by rfl) hS (by intro w _; go_simp; with_reducible rfl) ?_
  try simp only [Act.put, List.setIfInBounds_toArray, List.set_cons_zero, List.set_cons_succ]
  refine take 4 _ rfl (by kernel_rfl) (by kernel_rfl) (by kernel_rfl) (fun _ _ _ h => h) (by rfl) hS (by intro w _; go_simp; with_reducible rfl) ?_
  try simp only [Act.put, List.setIfInBounds_toArray, List.set_cons_zero, List.set_cons_succ]
  refine take 5 _ rfl (by kernel_rfl) (by kernel_rfl) (by kernel_rfl) (fun _ _ _ h => h) (by rfl) hS (by intro w _; go_simp; with_reducible rfl) ?_
  try simp only [Act.put, List.setIfInBounds_toArray, List.set_cons_zero, List.set_cons_succ]
  refine alone 6 rfl (by kernel_rfl) (by rfl) ?_
  intro K hK
  go_simp
  refine (xor_ok key nonce HK.out HN.out ctr hc _ a _ f HF.out (by omega) (by omega) _ (rd_short (PA.out.below hS (Nat.le_refl _)) a (by omega))).mono ?_
  rintro e w3 ⟨g3, rfl, hg3, hb⟩
  go_simp
  replace hS := below_trans hS hb
  refine hK.out _ _ hS ?_
  clear hK hb K
  try simp only [Act.put, List.setIfInBounds_toArray, List.set_cons_zero, List.set_cons_succ]
  refine take 7 _ rfl (by kernel_rfl) (by kernel_rfl) (by kernel_rfl) (fun _ _ _ h => h) (by rfl) hS (by intro w _; go_simp; with_reducible rfl) ?_
  try simp only [Act.put, List.setIfInBounds_toArray, List.set_cons_zero, List.set_cons_succ]
  refine take 8 _ rfl (by kernel_rfl) (by kernel_rfl) (by kernel_rfl) (fun _ _ _ h => h) (by rfl) hS (by intro w _; go_simp; with_reducible rfl) ?_
  try simp only [Act.put, List.setIfInBounds_toArray, List.set_cons_zero, List.set_cons_succ]
  refine take 9 _ rfl (by kernel_rfl) (by kernel_rfl) (by kernel_rfl) (fun _ _ _ h => h) (by rfl) hS (by intro w _; go_simp; with_reducible rfl) ?_
  try simp only [Act.put, List.setIfInBounds_toArray, List.set_cons_zero, List.set_cons_succ]
  refine take 10 _ rfl (by kernel_rfl) (by kernel_rfl) (by kernel_rfl) (fun _ _ _ h => h) (by rfl) hS (by intro w _; go_simp; with_reducible rfl) ?_
  try simp only [Act.put, List.setIfInBounds_toArray, List.set_cons_zero, List.set_cons_succ]
  refine take 11 _ rfl (by kernel_rfl) (by kernel_rfl) (by kernel_rfl) (fun _ _ _ h => h) (by rfl) hS (by intro w _; go_simp; with_reducible rfl) ?_
  try simp only [Act.put, List.setIfInBounds_toArray, List.set_cons_zero, List.set_cons_succ]
  refine region_end (by kernel_rfl) ?_
  go_wp2_with fail
  have Q1 := Lib.hid (P1.out.below hS P1.out.lt)
  have Q2 := Lib.hid (P2.out.below hS P2.out.lt)
  have QA := Lib.hid (PA.out.below hS (Nat.le_refl _))
  have QB := Lib.hid (PB.out.trans (hS.mono (by omega)))
  have QG := Lib.hid (PG.out.below hS PG.out.lt)
  have QG3 := Lib.hid hg3
  have hs3 : B + 1 < w3.heap.size := by have := hS.size; omega
  clear hg3 hS P1 P2 PA PB PG
  have han : (a : Int) ≤ (n : Int) := by omega
  obtain ⟨c2, hc2e⟩ : ∃ c2, c2 = (ctr + a / 64) % 4294967296 := ⟨_, rfl⟩
  have hc2 : c2 < 4294967296 := by omega
  have hfit2 : c2 + (n - a + 63) / 64 ≤ 4294967296 := by omega
  have hc2a : a < n → c2 = ctr + a / 64 := by omega
  have HC2 := Lib.hid (counted ctr a c2 hc2e)
  have HC2A := Lib.hid hc2a
  clear hc2e hc2a
  refine region_start (fun w' => Below w3.heap.size w3 w') (by kernel_rfl) (below_drewN (Below.refl _ _) 1) ?_
  intro w4 hS
  refine take 0 _ rfl (by kernel_rfl) (by kernel_rfl) (by kernel_rfl) (fun _ _ _ h => h) (by rfl) hS (fun w hw => run_load_op 53 (.tmp 5) rfl (B) rfl (Q1.out.below hw Q1.out.lt) rfl rfl (by kernel_rfl)) ?_
  try simp only [Act.put, List.setIfInBounds_toArray, List.set_cons_zero, List.set_cons_succ]
  refine take 1 _ rfl (by kernel_rfl) (by kernel_rfl) (by kernel_rfl) (fun _ _ _ h => h) (by rfl) hS (fun w hw => run_load_op 54 (.tmp 6) rfl ((B+1)) rfl (Q2.out.below hw Q2.out.lt) rfl rfl (by kernel_rfl)) ?_
  try simp only [Act.put, List.setIfInBounds_toArray, List.set_cons_zero, List.set_cons_succ]
  refine take 2 _ rfl (by kernel_rfl) (by kernel_rfl) (by kernel_rfl) (fun _ _ _ h => h) (by rfl) hS (by intro w _; go_simp; with_reducible rfl) ?_
  try simp only [Act.put, List.setIfInBounds_toArray, List.set_cons_zero, List.set_cons_succ]
  refine take 3 _ rfl (by kernel_rfl) (by kernel_rfl) (by kernel_rfl) (fun _ _ _ h => h) (by rfl) hS (by intro w _; go_simp; with_reducible rfl) ?_
  try simp only [Act.put, List.setIfInBounds_toArray, List.set_cons_zero, List.set_cons_succ]
  refine take 4 _ rfl (by kernel_rfl) (by kernel_rfl) (by kernel_rfl) (fun _ _ _ h => h) (by rfl) hS (by intro w _; go_simp; with_reducible rfl) ?_
  try simp only [Act.put, List.setIfInBounds_toArray, List.set_cons_zero, List.set_cons_succ]
  refine take 5 _ rfl (by kernel_rfl) (by kernel_rfl) (by kernel_rfl) (fun _ _ _ h => h) (by rfl) hS (by intro w _; go_simp; with_reducible rfl) ?_
  try simp only [Act.put, List.setIfInBounds_toArray, List.set_cons_zero, List.set_cons_succ]
  refine take 6 _ rfl (by kernel_rfl) (by kernel_rfl) (by kernel_rfl) (fun _ _ _ h => h) (by rfl) hS (by intro w _; go_simp; with_reducible rfl) ?_
  try simp only [Act.put, List.setIfInBounds_toArray, List.set_cons_zero, List.set_cons_succ]
  refine take 7 _ rfl (by kernel_rfl) (by kernel_rfl) (by kernel_rfl) (fun _ _ _ h => h) (by rfl) hS (by intro w _; go_simp; with_reducible rfl) ?_
  try simp only [Act.put, List.setIfInBounds_toArray, List.set_cons_zero, List.set_cons_succ]
  refine take 8 _ rfl (by kernel_rfl) (by kernel_rfl) (by kernel_rfl) (fun _ _ _ h => h) (by rfl) hS (by intro w _; go_simp; with_reducible rfl) ?_
  try simp only [Act.put, List.setIfInBounds_toArray, List.set_cons_zero, List.set_cons_succ]
  refine take 9 _ rfl (by kernel_rfl) (by kernel_rfl) (by kernel_rfl) (fun _ _ _ h => h) (by rfl) hS (by intro w _; go_simp; with_reducible rfl) ?_
  try simp only [Act.put, List.setIfInBounds_toArray, List.set_cons_zero, List.set_cons_succ]
  rw [HC2.out]
  refine alone 10 rfl (by kernel_rfl) (by rfl) ?_
  intro K hK
  go_simp
  refine (xor_ok key nonce HK.out HN.out c2 hc2 _ (n - a) _ (fun i => f (a + i)) (fun i => HF.out (a + i)) (by omega) hfit2 _ (rd_sub (QA.out.below hS (Nat.le_refl _)) hnc a (n - a) (by omega))).mono ?_
  rintro e w5 ⟨g5, rfl, hg5, hb⟩
  go_simp
  replace hS := below_trans hS hb
  refine hK.out _ _ hS ?_
  clear hK hb K
  try simp only [Act.put, List.setIfInBounds_toArray, List.set_cons_zero, List.set_cons_succ]
  refine take 11 _ rfl (by kernel_rfl) (by kernel_rfl) (by kernel_rfl) (fun _ _ _ h => h) (by rfl) hS (by intro w _; go_simp; with_reducible rfl) ?_
  try simp only [Act.put, List.setIfInBounds_toArray, List.set_cons_zero, List.set_cons_succ]
  refine take 12 _ rfl (by kernel_rfl) (by kernel_rfl) (by kernel_rfl) (fun _ _ _ h => h) (by rfl) hS (by intro w _; go_simp; with_reducible rfl) ?_
  try simp only [Act.put, List.setIfInBounds_toArray, List.set_cons_zero, List.set_cons_succ]
  refine take 13 _ rfl (by kernel_rfl) (by kernel_rfl) (by kernel_rfl) (fun _ _ _ h => h) (by rfl) hS (by intro w _; go_simp; with_reducible rfl) ?_
  try simp only [Act.put, List.setIfInBounds_toArray, List.set_cons_zero, List.set_cons_succ]
  refine take 14 _ rfl (by kernel_rfl) (by kernel_rfl) (by kernel_rfl) (fun _ _ _ h => h) (by rfl) hS (by intro w _; go_simp; with_reducible rfl) ?_
  try simp only [Act.put, List.setIfInBounds_toArray, List.set_cons_zero, List.set_cons_succ]
  refine take 15 _ rfl (by kernel_rfl) (by kernel_rfl) (by kernel_rfl) (fun _ _ _ h => h) (by rfl) hS (by intro w _; go_simp; with_reducible rfl) ?_
  try simp only [Act.put, List.setIfInBounds_toArray, List.set_cons_zero, List.set_cons_succ]
  generalize (if c = a then A else Option.map (fun x => x.add a) A) = A2
  refine region_end (by kernel_rfl) ?_
  go_wp2_with fail
  have R1 := Lib.hid (Q1.out.below hS Q1.out.lt)
  have R2 := Lib.hid (Q2.out.below hS Q2.out.lt)
  have RA := Lib.hid (QA.out.below hS (Nat.le_refl _))
  have RB := Lib.hid (QB.out.trans (hS.mono (by omega)))
  have RG := Lib.hid (QG.out.below hS QG.out.lt)
  have RG3 := Lib.hid (QG3.out.below hS QG3.out.lt)
  have RG5 := Lib.hid hg5
  have hs5 : B + 1 < w5.heap.size := by have := hS.size; omega
  clear hg5 hS Q1 Q2 QA QB QG QG3
  have hpc : (p : Int) ≤ (c : Int) := by omega
  have hpn : (p : Int) ≤ (n : Int) := by omega
  have hp0 : (0 : Int) ≤ (p : Int) := by omega
  refine region_start (fun w' => Below w5.heap.size w5 w') (by kernel_rfl) (below_drewN (Below.refl _ _) 1) ?_
  intro w6 hS
  refine take 0 _ rfl (by kernel_rfl) (by kernel_rfl) (by kernel_rfl) (fun _ _ _ h => h) (by rfl) hS (fun w hw => run_load_op 53 (.tmp 5) rfl (B) rfl (R1.out.below hw R1.out.lt) rfl rfl (by kernel_rfl)) ?_
  try simp only [Act.put, List.setIfInBounds_toArray, List.set_cons_zero, List.set_cons_succ]
  refine take 1 _ rfl (by kernel_rfl) (by kernel_rfl) (by kernel_rfl) (fun _ _ _ h => h) (by rfl) hS (fun w hw => run_load_op 54 (.tmp 6) rfl ((B+1)) rfl (R2.out.below hw R2.out.lt) rfl rfl (by kernel_rfl)) ?_
  try simp only [Act.put, List.setIfInBounds_toArray, List.set_cons_zero, List.set_cons_succ]
  refine take 2 _ rfl (by kernel_rfl) (by kernel_rfl) (by kernel_rfl) (fun _ _ _ h => h) (by rfl) hS (by intro w _; go_simp; with_reducible rfl) ?_
  try simp only [Act.put, List.setIfInBounds_toArray, List.set_cons_zero, List.set_cons_succ]
  refine take 3 _ rfl (by kernel_rfl) (by kernel_rfl) (by kernel_rfl) (fun _ _ _ h => h) (by rfl) hS (by intro w _; go_simp; with_reducible rfl) ?_
  try simp only [Act.put, List.setIfInBounds_toArray, List.set_cons_zero, List.set_cons_succ]
  refine take 4 _ rfl (by kernel_rfl) (by kernel_rfl) (by kernel_rfl) (fun _ _ _ h => h) (by rfl) hS (by intro w _; go_simp; with_reducible rfl) ?_
  try simp only [Act.put, List.setIfInBounds_toArray, List.set_cons_zero, List.set_cons_succ]
  refine take 5 _ rfl (by kernel_rfl) (by kernel_rfl) (by kernel_rfl) (fun _ _ _ h => h) (by rfl) hS (by intro w _; go_simp; with_reducible rfl) ?_
  try simp only [Act.put, List.setIfInBounds_toArray, List.set_cons_zero, List.set_cons_succ]
  refine alone 6 rfl (by kernel_rfl) (by rfl) ?_
  intro K hK
  go_simp
  refine (xor_ok key nonce HK.out HN.out ctr hc _ p _ f HF.out (by omega) (by omega) _ (rd_short (RA.out.below hS (Nat.le_refl _)) p (by omega))).mono ?_
  rintro e w7 ⟨g7, rfl, hg7, hb⟩
  go_simp
  replace hS := below_trans hS hb
  refine hK.out _ _ hS ?_
  clear hK hb K
  try simp only [Act.put, List.setIfInBounds_toArray, List.set_cons_zero, List.set_cons_succ]
  refine take 7 _ rfl (by kernel_rfl) (by kernel_rfl) (by kernel_rfl) (fun _ _ _ h => h) (by rfl) hS (by intro w _; go_simp; with_reducible rfl) ?_
  try simp only [Act.put, List.setIfInBounds_toArray, List.set_cons_zero, List.set_cons_succ]
  refine take 8 _ rfl (by kernel_rfl) (by kernel_rfl) (by kernel_rfl) (fun _ _ _ h => h) (by rfl) hS (by intro w _; go_simp; with_reducible rfl) ?_
  try simp only [Act.put, List.setIfInBounds_toArray, List.set_cons_zero, List.set_cons_succ]
  refine take 9 _ rfl (by kernel_rfl) (by kernel_rfl) (by kernel_rfl) (fun _ _ _ h => h) (by rfl) hS (by intro w _; go_simp; with_reducible rfl) ?_
  try simp only [Act.put, List.setIfInBounds_toArray, List.set_cons_zero, List.set_cons_succ]
  refine take 10 _ rfl (by kernel_rfl) (by kernel_rfl) (by kernel_rfl) (fun _ _ _ h => h) (by rfl) hS (by intro w _; go_simp; with_reducible rfl) ?_
  try simp only [Act.put, List.setIfInBounds_toArray, List.set_cons_zero, List.set_cons_succ]
  refine take 11 _ rfl (by kernel_rfl) (by kernel_rfl) (by kernel_rfl) (fun _ _ _ h => h) (by rfl) hS (by intro w _; go_simp; with_reducible rfl) ?_
  try simp only [Act.put, List.setIfInBounds_toArray, List.set_cons_zero, List.set_cons_succ]
  refine region_end (by kernel_rfl) ?_
  have SB := Lib.hid (RB.out.trans (hS.mono (by omega)))
  have SG := Lib.hid (Rd.of_whole (RG.out.below hS RG.out.lt))
  have SGP := Lib.hid (rd_short (Rd.of_whole (RG.out.below hS RG.out.lt)) p hp)
  have SG3 := Lib.hid (Rd.of_whole (RG3.out.below hS RG3.out.lt))
  have SG5 := Lib.hid (Rd.of_whole (RG5.out.below hS RG5.out.lt))
  have SG7 := Lib.hid (Rd.of_whole hg7)
  have hs7 : B + 1 < w7.heap.size := by have := hS.size; omega
  clear hg7 hS R1 R2 RA RB RG RG3 RG5
  by_cases haeq : a = n
  · have hne : ((a : Int) == (n : Int)) = true := by simp; omega
    have HJ := Lib.hid haeq
    clear haeq
    go_wp2_with fail
    have hE1 := joined_end key nonce ctr f a n HJ.out
    have hsz := short_sum (xo key nonce ctr f) (fun _ => 0) a (0) (by omega) (by omega)
    have hE2 := same_str (xo key nonce ctr f) p
    refine region_start (fun w' => Below w7.heap.size w7 w') (by kernel_rfl) (below_drewN (Below.refl _ _) 1) ?_
    intro w8 hS
    refine alone 0 rfl (by kernel_rfl) (by rfl) ?_
    intro K hK
    go_simp
    refine (alive_any _).mono ?_
    rintro e w9 ⟨rfl, hb⟩
    go_simp
    replace hS := below_trans hS hb
    refine hK.out _ _ hS ?_
    clear hK hb K
    try simp only [Act.put, List.setIfInBounds_toArray, List.set_cons_zero, List.set_cons_succ]
    refine take 1 _ rfl (by kernel_rfl) (by kernel_rfl) (by kernel_rfl) (fun _ _ _ h => h) (by rfl) hS (by intro w _; go_simp; with_reducible rfl) ?_
    try simp only [Act.put, List.setIfInBounds_toArray, List.set_cons_zero, List.set_cons_succ]
    refine take 2 _ rfl (by kernel_rfl) (by kernel_rfl) (by kernel_rfl) (fun _ _ _ h => h) (by rfl) hS (by intro w _; go_simp; with_reducible rfl) ?_
    try simp only [Act.put, List.setIfInBounds_toArray, List.set_cons_zero, List.set_cons_succ]
    refine take 3 _ rfl (by kernel_rfl) (by kernel_rfl) (by kernel_rfl) (fun _ _ _ h => h) (by rfl) hS (by intro w _; go_simp; with_reducible rfl) ?_
    try simp only [Act.put, List.setIfInBounds_toArray, List.set_cons_zero, List.set_cons_succ]
    refine take 4 _ rfl (by kernel_rfl) (by kernel_rfl) (by kernel_rfl) (fun _ _ _ h => h) (by rfl) hS (by intro w _; go_simp; with_reducible rfl) ?_
    try simp only [Act.put, List.setIfInBounds_toArray, List.set_cons_zero, List.set_cons_succ]
    refine take 5 _ rfl (by kernel_rfl) (by kernel_rfl) (by kernel_rfl) (fun _ _ _ h => h) (by rfl) hS (by intro w _; go_simp; with_reducible rfl) ?_
    try simp only [Act.put, List.setIfInBounds_toArray, List.set_cons_zero, List.set_cons_succ]
    refine take 6 _ rfl (by kernel_rfl) (by kernel_rfl) (by kernel_rfl) (fun _ _ _ h => h) (by rfl) hS (by intro w _; go_simp; with_reducible rfl) ?_
    try simp only [Act.put, List.setIfInBounds_toArray, List.set_cons_zero, List.set_cons_succ]
    refine take 7 _ rfl (by kernel_rfl) (by kernel_rfl) (by kernel_rfl) (fun _ _ _ h => h) (by rfl) hS (by intro w _; go_simp; with_reducible rfl) ?_
    try simp only [Act.put, List.setIfInBounds_toArray, List.set_cons_zero, List.set_cons_succ]
    refine take 8 _ rfl (by kernel_rfl) (by kernel_rfl) (by kernel_rfl) (fun _ _ _ h => h) (by rfl) hS (by intro w _; go_simp; with_reducible rfl) ?_
    try simp only [Act.put, List.setIfInBounds_toArray, List.set_cons_zero, List.set_cons_succ]
    refine take 9 _ rfl (by kernel_rfl) (by kernel_rfl) (by kernel_rfl) (fun _ _ _ h => h) (by rfl) hS (by intro w _; go_simp; with_reducible rfl) ?_
    try simp only [Act.put, List.setIfInBounds_toArray, List.set_cons_zero, List.set_cons_succ]
    refine take 10 _ rfl (by kernel_rfl) (by kernel_rfl) (by kernel_rfl) (fun _ _ _ h => h) (by rfl) hS (by intro w _; go_simp; with_reducible rfl) ?_
    try simp only [Act.put, List.setIfInBounds_toArray, List.set_cons_zero, List.set_cons_succ]
    refine take 11 _ rfl (by kernel_rfl) (by kernel_rfl) (by kernel_rfl) (fun _ _ _ h => h) (by rfl) hS (by intro w _; go_simp; with_reducible rfl) ?_
    try simp only [Act.put, List.setIfInBounds_toArray, List.set_cons_zero, List.set_cons_succ]
    refine take 12 _ rfl (by kernel_rfl) (by kernel_rfl) (by kernel_rfl) (fun _ _ _ h => h) (by rfl) hS (by intro w _; go_simp; with_reducible rfl) ?_
    try simp only [Act.put, List.setIfInBounds_toArray, List.set_cons_zero, List.set_cons_succ]
    refine take 13 _ rfl (by kernel_rfl) (by kernel_rfl) (by kernel_rfl) (fun _ _ _ h => h) (by rfl) hS (by intro w _; go_simp; with_reducible rfl) ?_
    try simp only [Act.put, List.setIfInBounds_toArray, List.set_cons_zero, List.set_cons_succ]
    refine take 14 _ rfl (by kernel_rfl) (by kernel_rfl) (by kernel_rfl) (fun _ _ _ h => h) (by rfl) hS (by intro w _; go_simp; with_reducible rfl) ?_
    try simp only [Act.put, List.setIfInBounds_toArray, List.set_cons_zero, List.set_cons_succ]
    refine take 15 _ rfl (by kernel_rfl) (by kernel_rfl) (by kernel_rfl) (fun _ _ _ h => h) (by rfl) hS (fun w hw => run_string_op 22 9 5 _ rfl rfl Try.underlying22 Try.underlying5 Try.underlying9 (SG3.out.below hw (Nat.le_refl _))) ?_
    try simp only [Act.put, List.setIfInBounds_toArray, List.set_cons_zero, List.set_cons_succ]
    refine take 16 _ rfl (by kernel_rfl) (by kernel_rfl) (by kernel_rfl) (fun _ _ _ h => h) (by rfl) hS (by intro w _; go_simp; with_reducible rfl) ?_
    try simp only [Act.put, List.setIfInBounds_toArray, List.set_cons_zero, List.set_cons_succ]
    refine take 17 _ rfl (by kernel_rfl) (by kernel_rfl) (by kernel_rfl) (fun _ _ _ h => h) (by rfl) hS (fun w hw => run_string_op 22 9 5 _ rfl rfl Try.underlying22 Try.underlying5 Try.underlying9 (Rd.nought (f := fun _ => 0) w)) ?_
    try simp only [Act.put, List.setIfInBounds_toArray, List.set_cons_zero, List.set_cons_succ]
    refine take 18 _ rfl (by kernel_rfl) (by kernel_rfl) (by kernel_rfl) (fun _ _ _ h => h) (by rfl) hS (by intro w _; go_simp; with_reducible rfl) ?_
    try simp only [Act.put, List.setIfInBounds_toArray, List.set_cons_zero, List.set_cons_succ]
    refine take 19 _ rfl (by kernel_rfl) (by kernel_rfl) (by kernel_rfl) (fun _ _ _ h => h) (by rfl) hS (by intro w _; go_simp; with_reducible rfl) ?_
    try simp only [Act.put, List.setIfInBounds_toArray, List.set_cons_zero, List.set_cons_succ]
    refine take 20 _ rfl (by kernel_rfl) (by kernel_rfl) (by kernel_rfl) (fun _ _ _ h => h) (by rfl) hS (fun w hw => run_string_op 22 9 5 _ rfl rfl Try.underlying22 Try.underlying5 Try.underlying9 (SG.out.below hw (Nat.le_refl _))) ?_
    try simp only [Act.put, List.setIfInBounds_toArray, List.set_cons_zero, List.set_cons_succ]
    refine take 21 _ rfl (by kernel_rfl) (by kernel_rfl) (by kernel_rfl) (fun _ _ _ h => h) (by rfl) hS (by intro w _; go_simp; with_reducible rfl) ?_
    try simp only [Act.put, List.setIfInBounds_toArray, List.set_cons_zero, List.set_cons_succ]
    refine take 22 _ rfl (by kernel_rfl) (by kernel_rfl) (by kernel_rfl) (fun _ _ _ h => h) (by rfl) hS (by intro w _; go_simp; with_reducible rfl) ?_
    try simp only [Act.put, List.setIfInBounds_toArray, List.set_cons_zero, List.set_cons_succ]
    refine take 23 _ rfl (by kernel_rfl) (by kernel_rfl) (by kernel_rfl) (fun _ _ _ h => h) (by rfl) hS (by intro w _; go_simp; with_reducible rfl) ?_
    try simp only [Act.put, List.setIfInBounds_toArray, List.set_cons_zero, List.set_cons_succ]
    refine take 24 _ rfl (by kernel_rfl) (by kernel_rfl) (by kernel_rfl) (fun _ _ _ h => h) (by rfl) hS (by intro w _; go_simp; with_reducible rfl) ?_
    try simp only [Act.put, List.setIfInBounds_toArray, List.set_cons_zero, List.set_cons_succ]
    refine take 25 _ rfl (by kernel_rfl) (by kernel_rfl) (by kernel_rfl) (fun _ _ _ h => h) (by rfl) hS (fun w hw => run_string_op 22 9 5 _ rfl rfl Try.underlying22 Try.underlying5 Try.underlying9 (SG7.out.below hw (Nat.le_refl _))) ?_
    try simp only [Act.put, List.setIfInBounds_toArray, List.set_cons_zero, List.set_cons_succ]
    refine take 26 _ rfl (by kernel_rfl) (by kernel_rfl) (by kernel_rfl) (fun _ _ _ h => h) (by rfl) hS (by intro w _; go_simp; with_reducible rfl) ?_
    try simp only [Act.put, List.setIfInBounds_toArray, List.set_cons_zero, List.set_cons_succ]
    refine take 27 _ rfl (by kernel_rfl) (by kernel_rfl) (by kernel_rfl) (fun _ _ _ h => h) (by rfl) hS (by intro w _; go_simp; with_reducible rfl) ?_
    try simp only [Act.put, List.setIfInBounds_toArray, List.set_cons_zero, List.set_cons_succ]
    refine take 28 _ rfl (by kernel_rfl) (by kernel_rfl) (by kernel_rfl) (fun _ _ _ h => h) (by rfl) hS (by intro w _; go_simp; with_reducible rfl) ?_
    try simp only [Act.put, List.setIfInBounds_toArray, List.set_cons_zero, List.set_cons_succ]
    refine take 29 _ rfl (by kernel_rfl) (by kernel_rfl) (by kernel_rfl) (fun _ _ _ h => h) (by rfl) hS (fun w hw => run_string_op 22 9 5 _ rfl rfl Try.underlying22 Try.underlying5 Try.underlying9 (SGP.out.below hw (Nat.le_refl _))) ?_
    try simp only [Act.put, List.setIfInBounds_toArray, List.set_cons_zero, List.set_cons_succ]
    refine take 30 _ rfl (by kernel_rfl) (by kernel_rfl) (by kernel_rfl) (fun _ _ _ h => h) (by rfl) hS (by intro w _; go_simp; with_reducible rfl) ?_
    try simp only [Act.put, List.setIfInBounds_toArray, List.set_cons_zero, List.set_cons_succ]
    refine take 31 _ rfl (by kernel_rfl) (by kernel_rfl) (by kernel_rfl) (fun _ _ _ h => h) (by rfl) hS (by intro w _; go_simp; with_reducible rfl) ?_
    try simp only [Act.put, List.setIfInBounds_toArray, List.set_cons_zero, List.set_cons_succ]
    refine take 32 _ rfl (by kernel_rfl) (by kernel_rfl) (by kernel_rfl) (fun _ _ _ h => h) (by rfl) hS (by intro w _; go_simp; with_reducible rfl) ?_
    try simp only [Act.put, List.setIfInBounds_toArray, List.set_cons_zero, List.set_cons_succ]
    refine region_end (by kernel_rfl) ?_
    go_wp2_with fail
    go_ret
    exact ⟨rfl, by rw [hB]; exact SB.out.trans (hS.mono (by omega))⟩
  · have hne : ((a : Int) == (n : Int)) = false := by simp; omega
    have HJ := Lib.hid haeq
    clear haeq
    go_wp2_with fail
    have hE1 := joined key nonce ctr f a n c2 (by omega) ha2 (HC2A.out (by have := HJ.out; omega))
    have hsz := short_sum (xo key nonce ctr f) (xo key nonce c2 (fun i => f (a + i))) a (n - a) (by omega) (by omega)
    have hE2 := same_str (xo key nonce ctr f) p
    refine region_start (fun w' => Below w7.heap.size w7 w') (by kernel_rfl) (below_drewN (Below.refl _ _) 1) ?_
    intro w8 hS
    refine alone 0 rfl (by kernel_rfl) (by rfl) ?_
    intro K hK
    go_simp
    refine (alive_any _).mono ?_
    rintro e w9 ⟨rfl, hb⟩
    go_simp
    replace hS := below_trans hS hb
    refine hK.out _ _ hS ?_
    clear hK hb K
    try simp only [Act.put, List.setIfInBounds_toArray, List.set_cons_zero, List.set_cons_succ]
    refine take 1 _ rfl (by kernel_rfl) (by kernel_rfl) (by kernel_rfl) (fun _ _ _ h => h) (by rfl) hS (by intro w _; go_simp; with_reducible rfl) ?_
    try simp only [Act.put, List.setIfInBounds_toArray, List.set_cons_zero, List.set_cons_succ]
    refine take 2 _ rfl (by kernel_rfl) (by kernel_rfl) (by kernel_rfl) (fun _ _ _ h => h) (by rfl) hS (by intro w _; go_simp; with_reducible rfl) ?_
    try simp only [Act.put, List.setIfInBounds_toArray, List.set_cons_zero, List.set_cons_succ]
    refine take 3 _ rfl (by kernel_rfl) (by kernel_rfl) (by kernel_rfl) (fun _ _ _ h => h) (by rfl) hS (by intro w _; go_simp; with_reducible rfl) ?_
    try simp only [Act.put, List.setIfInBounds_toArray, List.set_cons_zero, List.set_cons_succ]
    refine take 4 _ rfl (by kernel_rfl) (by kernel_rfl) (by kernel_rfl) (fun _ _ _ h => h) (by rfl) hS (by intro w _; go_simp; with_reducible rfl) ?_
    try simp only [Act.put, List.setIfInBounds_toArray, List.set_cons_zero, List.set_cons_succ]
    refine take 5 _ rfl (by kernel_rfl) (by kernel_rfl) (by kernel_rfl) (fun _ _ _ h => h) (by rfl) hS (by intro w _; go_simp; with_reducible rfl) ?_
    try simp only [Act.put, List.setIfInBounds_toArray, List.set_cons_zero, List.set_cons_succ]
    refine take 6 _ rfl (by kernel_rfl) (by kernel_rfl) (by kernel_rfl) (fun _ _ _ h => h) (by rfl) hS (by intro w _; go_simp; with_reducible rfl) ?_
    try simp only [Act.put, List.setIfInBounds_toArray, List.set_cons_zero, List.set_cons_succ]
    refine take 7 _ rfl (by kernel_rfl) (by kernel_rfl) (by kernel_rfl) (fun _ _ _ h => h) (by rfl) hS (by intro w _; go_simp; with_reducible rfl) ?_
    try simp only [Act.put, List.setIfInBounds_toArray, List.set_cons_zero, List.set_cons_succ]
    refine take 8 _ rfl (by kernel_rfl) (by kernel_rfl) (by kernel_rfl) (fun _ _ _ h => h) (by rfl) hS (by intro w _; go_simp; with_reducible rfl) ?_
    try simp only [Act.put, List.setIfInBounds_toArray, List.set_cons_zero, List.set_cons_succ]
    refine take 9 _ rfl (by kernel_rfl) (by kernel_rfl) (by kernel_rfl) (fun _ _ _ h => h) (by rfl) hS (by intro w _; go_simp; with_reducible rfl) ?_
    try simp only [Act.put, List.setIfInBounds_toArray, List.set_cons_zero, List.set_cons_succ]
    refine take 10 _ rfl (by kernel_rfl) (by kernel_rfl) (by kernel_rfl) (fun _ _ _ h => h) (by rfl) hS (by intro w _; go_simp; with_reducible rfl) ?_
    try simp only [Act.put, List.setIfInBounds_toArray, List.set_cons_zero, List.set_cons_succ]
    refine take 11 _ rfl (by kernel_rfl) (by kernel_rfl) (by kernel_rfl) (fun _ _ _ h => h) (by rfl) hS (by intro w _; go_simp; with_reducible rfl) ?_
    try simp only [Act.put, List.setIfInBounds_toArray, List.set_cons_zero, List.set_cons_succ]
    refine take 12 _ rfl (by kernel_rfl) (by kernel_rfl) (by kernel_rfl) (fun _ _ _ h => h) (by rfl) hS (by intro w _; go_simp; with_reducible rfl) ?_
    try simp only [Act.put, List.setIfInBounds_toArray, List.set_cons_zero, List.set_cons_succ]
    refine take 13 _ rfl (by kernel_rfl) (by kernel_rfl) (by kernel_rfl) (fun _ _ _ h => h) (by rfl) hS (by intro w _; go_simp; with_reducible rfl) ?_
    try simp only [Act.put, List.setIfInBounds_toArray, List.set_cons_zero, List.set_cons_succ]
    refine take 14 _ rfl (by kernel_rfl) (by kernel_rfl) (by kernel_rfl) (fun _ _ _ h => h) (by rfl) hS (by intro w _; go_simp; with_reducible rfl) ?_
    try simp only [Act.put, List.setIfInBounds_toArray, List.set_cons_zero, List.set_cons_succ]
    refine take 15 _ rfl (by kernel_rfl) (by kernel_rfl) (by kernel_rfl) (fun _ _ _ h => h) (by rfl) hS (fun w hw => run_string_op 22 9 5 _ rfl rfl Try.underlying22 Try.underlying5 Try.underlying9 (SG3.out.below hw (Nat.le_refl _))) ?_
    try simp only [Act.put, List.setIfInBounds_toArray, List.set_cons_zero, List.set_cons_succ]
    refine take 16 _ rfl (by kernel_rfl) (by kernel_rfl) (by kernel_rfl) (fun _ _ _ h => h) (by rfl) hS (by intro w _; go_simp; with_reducible rfl) ?_
    try simp only [Act.put, List.setIfInBounds_toArray, List.set_cons_zero, List.set_cons_succ]
    refine take 17 _ rfl (by kernel_rfl) (by kernel_rfl) (by kernel_rfl) (fun _ _ _ h => h) (by rfl) hS (fun w hw => run_string_op 22 9 5 _ rfl rfl Try.underlying22 Try.underlying5 Try.underlying9 (SG5.out.below hw (Nat.le_refl _))) ?_
    try simp only [Act.put, List.setIfInBounds_toArray, List.set_cons_zero, List.set_cons_succ]
    refine take 18 _ rfl (by kernel_rfl) (by kernel_rfl) (by kernel_rfl) (fun _ _ _ h => h) (by rfl) hS (by intro w _; go_simp; with_reducible rfl) ?_
    try simp only [Act.put, List.setIfInBounds_toArray, List.set_cons_zero, List.set_cons_succ]
    refine take 19 _ rfl (by kernel_rfl) (by kernel_rfl) (by kernel_rfl) (fun _ _ _ h => h) (by rfl) hS (by intro w _; go_simp; with_reducible rfl) ?_
    try simp only [Act.put, List.setIfInBounds_toArray, List.set_cons_zero, List.set_cons_succ]
    refine take 20 _ rfl (by kernel_rfl) (by kernel_rfl) (by kernel_rfl) (fun _ _ _ h => h) (by rfl) hS (fun w hw => run_string_op 22 9 5 _ rfl rfl Try.underlying22 Try.underlying5 Try.underlying9 (SG.out.below hw (Nat.le_refl _))) ?_
    try simp only [Act.put, List.setIfInBounds_toArray, List.set_cons_zero, List.set_cons_succ]
    refine take 21 _ rfl (by kernel_rfl) (by kernel_rfl) (by kernel_rfl) (fun _ _ _ h => h) (by rfl) hS (by intro w _; go_simp; with_reducible rfl) ?_
    try simp only [Act.put, List.setIfInBounds_toArray, List.set_cons_zero, List.set_cons_succ]
    refine take 22 _ rfl (by kernel_rfl) (by kernel_rfl) (by kernel_rfl) (fun _ _ _ h => h) (by rfl) hS (by intro w _; go_simp; with_reducible rfl) ?_
    try simp only [Act.put, List.setIfInBounds_toArray, List.set_cons_zero, List.set_cons_succ]
    refine take 23 _ rfl (by kernel_rfl) (by kernel_rfl) (by kernel_rfl) (fun _ _ _ h => h) (by rfl) hS (by intro w _; go_simp; with_reducible rfl) ?_
    try simp only [Act.put, List.setIfInBounds_toArray, List.set_cons_zero, List.set_cons_succ]
    refine take 24 _ rfl (by kernel_rfl) (by kernel_rfl) (by kernel_rfl) (fun _ _ _ h => h) (by rfl) hS (by intro w _; go_simp; with_reducible rfl) ?_
    try simp only [Act.put, List.setIfInBounds_toArray, List.set_cons_zero, List.set_cons_succ]
    refine take 25 _ rfl (by kernel_rfl) (by kernel_rfl) (by kernel_rfl) (fun _ _ _ h => h) (by rfl) hS (fun w hw => run_string_op 22 9 5 _ rfl rfl Try.underlying22 Try.underlying5 Try.underlying9 (SG7.out.below hw (Nat.le_refl _))) ?_
    try simp only [Act.put, List.setIfInBounds_toArray, List.set_cons_zero, List.set_cons_succ]
    refine take 26 _ rfl (by kernel_rfl) (by kernel_rfl) (by kernel_rfl) (fun _ _ _ h => h) (by rfl) hS (by intro w _; go_simp; with_reducible rfl) ?_
    try simp only [Act.put, List.setIfInBounds_toArray, List.set_cons_zero, List.set_cons_succ]
    refine take 27 _ rfl (by kernel_rfl) (by kernel_rfl) (by kernel_rfl) (fun _ _ _ h => h) (by rfl) hS (by intro w _; go_simp; with_reducible rfl) ?_
    try simp only [Act.put, List.setIfInBounds_toArray, List.set_cons_zero, List.set_cons_succ]
    refine take 28 _ rfl (by kernel_rfl) (by kernel_rfl) (by kernel_rfl) (fun _ _ _ h => h) (by rfl) hS (by intro w _; go_simp; with_reducible rfl) ?_
    try simp only [Act.put, List.setIfInBounds_toArray, List.set_cons_zero, List.set_cons_succ]
    refine take 29 _ rfl (by kernel_rfl) (by kernel_rfl) (by kernel_rfl) (fun _ _ _ h => h) (by rfl) hS (fun w hw => run_string_op 22 9 5 _ rfl rfl Try.underlying22 Try.underlying5 Try.underlying9 (SGP.out.below hw (Nat.le_refl _))) ?_
    try simp only [Act.put, List.setIfInBounds_toArray, List.set_cons_zero, List.set_cons_succ]
    refine take 30 _ rfl (by kernel_rfl) (by kernel_rfl) (by kernel_rfl) (fun _ _ _ h => h) (by rfl) hS (by intro w _; go_simp; with_reducible rfl) ?_
    try simp only [Act.put, List.setIfInBounds_toArray, List.set_cons_zero, List.set_cons_succ]
    refine take 31 _ rfl (by kernel_rfl) (by kernel_rfl) (by kernel_rfl) (fun _ _ _ h => h) (by rfl) hS (by intro w _; go_simp; with_reducible rfl) ?_
    try simp only [Act.put, List.setIfInBounds_toArray, List.set_cons_zero, List.set_cons_succ]
    refine take 32 _ rfl (by kernel_rfl) (by kernel_rfl) (by kernel_rfl) (fun _ _ _ h => h) (by rfl) hS (by intro w _; go_simp; with_reducible rfl) ?_
    try simp only [Act.put, List.setIfInBounds_toArray, List.set_cons_zero, List.set_cons_succ]
    refine region_end (by kernel_rfl) ?_
    go_wp2_with fail
    go_ret
    exact ⟨rfl, by rw [hB]; exact SB.out.trans (hS.mono (by omega))⟩

theorem walk (key nonce : Nat → Nat) (a2 : Int) (a3 : Option Addr) (len3 cap3 : Nat) (z3 : List Int) (a4 : Int) (w : World) (w0 : ∀ i, key i < 256) (w1 : ∀ i, nonce i < 256) (w2 : (Lit.int .u32 a2).wf = true) (w3 : IsRow .u8 w a3 len3 cap3 z3) (w4 : (Lit.int .i64 a4).wf = true) :
    Calls Try.prog 12 #[.agg (byteCells key 32).toArray, .agg (byteCells nonce 12).toArray, .int .u32 a2, .slice a3 len3 cap3, .int .i64 a4] w fun e w' => e = .returned (.bool true) ∧ Below w.heap.size w w' := by
  obtain ⟨ctr, rfl, hc⟩ := nat_u32 w2
  have hm0 : cap3 ≤ 9223372036854775807 := by
    rcases w3 with ⟨_, _, h, _⟩ | ⟨_, _, _, h, _⟩
    · omega
    · simpa [maxLen] using h
  obtain ⟨f, hf, hr, hcap, hm⟩ := rd_of_row w3
  by_cases h1 : 2000 < len3 ∨ (len3 ≤ 2000 ∧ a4 < 0) ∨ (len3 ≤ 2000 ∧ 0 ≤ a4 ∧ (len3 : Int) < a4)
  · exact big key nonce ctr a3 len3 cap3 a4 h1 w
  · obtain ⟨p, rfl⟩ : ∃ p : Nat, a4 = (p : Int) := ⟨a4.toNat, by omega⟩
    by_cases h2 : 4294967296 < ctr + (len3 + 63) / 64
    · exact over key nonce ctr hc a3 len3 cap3 p (by omega) (by omega) h2 w
    · exact fits key nonce w0 w1 ctr hc a3 len3 cap3 p f hf (by omega) hcap hm0 (by omega) (by omega) w hr

end ChachaPieces
end Go.Proofs.Ytmhmcdldfpnmbaa
