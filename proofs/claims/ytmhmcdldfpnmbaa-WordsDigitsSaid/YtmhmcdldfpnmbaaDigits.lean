/- 'aditlaw01.WordsDigits' returns true at every input and writes nothing that was there: the walk. No condition. -/
import Derived.Test.YtmhmcdldfpnmbaaAliveOne
import Derived.Test.YtmhmcdldfpnmbaaRefFour
import Derived.Test.YtmhmcdldfpnmbaaEqual
import Derived.Test.YtmhmcdldfpnmbaaQuiet
import Derived.Laws.Strings
namespace Go.Proofs.Ytmhmcdldfpnmbaa
namespace WordsDigits
open Go.ChangeShapes Go.WideShapes Go.ChangeAt Go.RowKit
open Num Mem Words Ref Quiet

/-- the model compares strings so -/
theorem strings_beq (s t : ByteArray) : (s.toList == t.toList) = decide (s = t) := by
  rw [ByteArray.toList_eq, ByteArray.toList_eq]
  by_cases h : s = t
  · subst h
    simp
  · have : ¬ s.data.toList = t.data.toList := fun e => h (by
      rcases s with ⟨d⟩
      rcases t with ⟨e'⟩
      congr 1
      exact Array.toList_inj.1 e)
    rw [decide_eq_false h]
    simpa using this

theorem big (A A' : Option Addr) (n m c c' : Nat) (s : ByteArray) (hs : s.size ≤ 9223372036854775807) (h : 2000 < n ∨ 2000 < m ∨ 3000 < s.size) (w : World) :
    Calls Try.prog 5 #[.slice A n c, .slice A' m c', .string s] w fun e w' => e = .returned (.bool true) ∧ Below w.heap.size w w' := by
  have H := Lib.hid h
  clear h
  by_cases h1 : 2000 < n
  · have hd : decide ((2000 : Int) < (n : Int)) = true := decide_eq_true (by omega)
    go_enter Try.func5, Try.ntmps5
    go_wp2_with fail
    refine (alive_any _).mono ?_
    rintro e w1 ⟨rfl, hb1⟩
    have HB1 := Lib.hid hb1
    clear hb1
    go_wp2_with fail
    go_ret
    exact ⟨rfl, HB1.out⟩
  · have hd : decide ((2000 : Int) < (n : Int)) = false := decide_eq_false (by omega)
    by_cases h2 : 2000 < m
    · have hd2 : decide ((2000 : Int) < (m : Int)) = true := decide_eq_true (by omega)
      go_enter Try.func5, Try.ntmps5
      go_wp2_with fail
      refine (alive_any _).mono ?_
      rintro e w1 ⟨rfl, hb1⟩
      have HB1 := Lib.hid hb1
      clear hb1
      go_wp2_with fail
      go_ret
      exact ⟨rfl, HB1.out⟩
    · have hd2 : decide ((2000 : Int) < (m : Int)) = false := decide_eq_false (by omega)
      have hd3 : decide ((3000 : Int) < (s.size : Int)) = true := decide_eq_true (by have := H.out; omega)
      go_enter Try.func5, Try.ntmps5
      go_wp2_with fail
      refine (alive_any _).mono ?_
      rintro e w1 ⟨rfl, hb1⟩
      have HB1 := Lib.hid hb1
      clear hb1
      go_wp2_with fail
      go_ret
      exact ⟨rfl, HB1.out⟩

set_option maxHeartbeats 1000000 in
theorem run (A A' : Option Addr) (n m c c' : Nat) (f g : Nat → Nat) (hf : ∀ i, f i < 256) (hg : ∀ i, g i < 256) (s : ByteArray) (hs : s.size ≤ 9223372036854775807) (w : World) (ha : Rd w A n f) (hb : Rd w A' m g) :
    Calls Try.prog 5 #[.slice A n c, .slice A' m c', .string s] w fun e w' => e = .returned (.bool true) ∧ Below w.heap.size w w' := by
  by_cases hbig : 2000 < n ∨ 2000 < m ∨ 3000 < s.size
  · exact big A A' n m c c' s hs hbig w
  · obtain ⟨r, hr⟩ : ∃ r : Bool, r = decide (Mem.strOf f n = Mem.strOf g m) := ⟨_, rfl⟩
    have hrq : r = true ↔ n = m ∧ ∀ i, i < n → f i = g i := by rw [hr, decide_eq_true_eq]; exact strOf_eq_iff hf hg
    have HRQ := Lib.hid hrq
    have HRD := Lib.hid hr
    have HF := Lib.hid hf
    have HG := Lib.hid hg
    have HA := Lib.hid ha
    have HB := Lib.hid hb
    have hd : decide ((2000 : Int) < (n : Int)) = false := decide_eq_false (by omega)
    have hd2 : decide ((2000 : Int) < (m : Int)) = false := decide_eq_false (by omega)
    have hd3 : decide ((3000 : Int) < (s.size : Int)) = false := decide_eq_false (by omega)
    have hn2 : n ≤ 2000 := by omega
    clear hrq hr hf hg ha hb hbig
    go_enter Try.func5, Try.ntmps5
    go_wp2_with fail
    refine (unhex_all s _).mono ?_
    rintro e w1 ⟨A3, c3, rfl, hr1, hb1⟩
    have HX := Lib.hid hr1
    have HL := Lib.hid hb1
    clear hr1 hb1
    go_wp2_with fail
    have hq1 : Whole (w1.alloc (.cells #[.int .i64 (uhAt s), .int .i64 (uhC s)] 43)) w1.heap.size 43 #[.int .i64 (uhAt s), .int .i64 (uhC s)] := Whole.new _ _ _
    have hl1 := below_alloc HL.out (.cells #[.int .i64 (uhAt s), .int .i64 (uhC s)] 43)
    have hx1 := HX.out.below (below_alloc (Below.refl w1.heap.size w1) (.cells #[.int .i64 (uhAt s), .int .i64 (uhC s)] 43)) (Nat.le_refl _)
    generalize w1.alloc (.cells #[.int .i64 (uhAt s), .int .i64 (uhC s)] 43) = W1 at hq1 hl1 hx1 ⊢
    generalize w1.heap.size = g8 at hq1 ⊢
    clear HX HL
    refine (unhex_ref_all s _).mono ?_
    rintro e w2 ⟨A4, c4, rfl, hr2, hb2⟩
    have hq2 := hq1.below hb2 hq1.lt
    have hl2 := below_trans hl1 hb2
    have hx2 := hx1.below hb2 (Nat.le_refl _)
    have HQ := Lib.hid hq2
    have HX := Lib.hid hx2
    have HY := Lib.hid hr2
    have HL := Lib.hid hl2
    clear hq1 hl1 hx1 hr2 hb2 hq2 hl2 hx2
    go_wp2_with fail
    have hq10 : Whole (w2.alloc (.cells #[.int .i64 (uhAt s), .int .i64 (uhC s)] 43)) w2.heap.size 43 #[.int .i64 (uhAt s), .int .i64 (uhC s)] := Whole.new _ _ _
    have hq8 := HQ.out.alloc (.cells #[.int .i64 (uhAt s), .int .i64 (uhC s)] 43)
    have hl3 := below_alloc HL.out (.cells #[.int .i64 (uhAt s), .int .i64 (uhC s)] 43)
    have hx3 := HX.out.below (below_alloc (Below.refl w2.heap.size w2) (.cells #[.int .i64 (uhAt s), .int .i64 (uhC s)] 43)) (Nat.le_refl _)
    have hy3 := HY.out.below (below_alloc (Below.refl w2.heap.size w2) (.cells #[.int .i64 (uhAt s), .int .i64 (uhC s)] 43)) (Nat.le_refl _)
    clear HQ HX HY HL
    generalize w2.alloc (.cells #[.int .i64 (uhAt s), .int .i64 (uhC s)] 43) = W2 at hq10 hq8 hl3 hx3 hy3 ⊢
    generalize w2.heap.size = g10 at hq10 ⊢
    have HA := Lib.hid (HA.out.below hl3 (Nat.le_refl _))
    have HB := Lib.hid (HB.out.below hl3 (Nat.le_refl _))
    have c80 := hq8.cell 0
    have c81 := hq8.cell 1
    have c100 := hq10.cell 0
    have c101 := hq10.cell 1
    simp at c80 c81 c100 c101
    have HG8 := Lib.hid hq8.lt
    have HG10 := Lib.hid hq10.lt
    have HX := Lib.hid hx3
    have HY := Lib.hid hy3
    have HL := Lib.hid hl3
    clear hq8 hq10 hl3 hx3 hy3
    have hE : ((Mem.strOf f n).toList == (Mem.strOf g m).toList) = r := by rw [HRD.out]; exact strings_beq _ _
    refine region_start (fun w' => Below W2.heap.size W2 w') (by kernel_rfl) (Below.drew (Below.refl _ _)) ?_
    intro w5 hS
    refine alone 0 rfl (by kernel_rfl) (by rfl) ?_
    intro K hK
    go_simp
    refine (alive_any _).mono ?_
    rintro e w6 ⟨rfl, hb⟩
    go_simp
    replace hS := below_trans hS hb
    refine hK.out _ _ hS ?_
    clear hK hb K
    try simp only [Act.put, List.setIfInBounds_toArray, List.set_cons_zero, List.set_cons_succ]
    refine take 1 _ rfl (by kernel_rfl) (by kernel_rfl) (by kernel_rfl) (fun _ _ _ h => h) (by rfl) hS (by intro w _; go_simp; with_reducible rfl) ?_
    try simp only [Act.put, List.setIfInBounds_toArray, List.set_cons_zero, List.set_cons_succ]
    refine take 2 _ rfl (by kernel_rfl) (by kernel_rfl) (by kernel_rfl) (fun _ _ _ h => h) (by rfl) hS (by intro w _; go_simp; with_reducible rfl) ?_
    try simp only [Act.put, List.setIfInBounds_toArray, List.set_cons_zero, List.set_cons_succ]
    refine take 3 _ rfl (by kernel_rfl) (by kernel_rfl) (by kernel_rfl) (fun _ _ _ h => h) (by rfl) hS (by intro w _; go_simp; with_reducible rfl) ?_
    try simp only [Act.put, List.setIfInBounds_toArray, List.set_cons_zero, List.set_cons_succ]
    refine take 5 _ rfl (by kernel_rfl) (by kernel_rfl) (by kernel_rfl) (fun _ _ _ h => h) (by rfl) hS (by intro w _; go_simp; with_reducible rfl) ?_
    try simp only [Act.put, List.setIfInBounds_toArray, List.set_cons_zero, List.set_cons_succ]
    refine take 7 _ rfl (by kernel_rfl) (by kernel_rfl) (by kernel_rfl) (fun _ _ _ h => h) (by rfl) hS (by intro w _; go_simp; with_reducible rfl) ?_
    try simp only [Act.put, List.setIfInBounds_toArray, List.set_cons_zero, List.set_cons_succ]
    refine take 6 _ rfl (by kernel_rfl) (by kernel_rfl) (by kernel_rfl) (fun _ _ _ h => h) (by rfl) hS (fun w hw => run_string_op 22 9 5 _ rfl rfl Try.underlying22 Try.underlying5 Try.underlying9 (HA.out.below hw (Nat.le_refl _))) ?_
    try simp only [Act.put, List.setIfInBounds_toArray, List.set_cons_zero, List.set_cons_succ]
    refine take 8 _ rfl (by kernel_rfl) (by kernel_rfl) (by kernel_rfl) (fun _ _ _ h => h) (by rfl) hS (fun w hw => run_string_op 22 9 5 _ rfl rfl Try.underlying22 Try.underlying5 Try.underlying9 (HB.out.below hw (Nat.le_refl _))) ?_
    try simp only [Act.put, List.setIfInBounds_toArray, List.set_cons_zero, List.set_cons_succ]
    refine take 9 _ rfl (by kernel_rfl) (by kernel_rfl) (by kernel_rfl) (fun _ _ _ h => h) (by rfl) hS (by intro w _; go_simp; with_reducible rfl) ?_
    try simp only [Act.put, List.setIfInBounds_toArray, List.set_cons_zero, List.set_cons_succ]
    refine alone 4 rfl (by kernel_rfl) (by rfl) ?_
    intro K hK
    go_simp
    refine (equal_any A A' n m c c' f g HF.out HG.out (by omega) _ (HA.out.below hS (Nat.le_refl _)) (HB.out.below hS (Nat.le_refl _)) r HRQ.out).mono ?_
    rintro e w7 ⟨rfl, k7, rfl⟩
    have hb := below_drewN (Below.refl w6.heap.size w6) k7
    generalize w6.drewN k7 = w7 at hb ⊢
    go_simp
    replace hS := below_trans hS hb
    refine hK.out _ _ hS ?_
    clear hK hb K
    try simp only [Act.put, List.setIfInBounds_toArray, List.set_cons_zero, List.set_cons_succ]
    refine take 10 _ rfl (by kernel_rfl) (by kernel_rfl) (by kernel_rfl) (fun _ _ _ h => h) (by rfl) hS (by intro w _; go_simp; with_reducible rfl) ?_
    try simp only [Act.put, List.setIfInBounds_toArray, List.set_cons_zero, List.set_cons_succ]
    refine take 11 _ rfl (by kernel_rfl) (by kernel_rfl) (by kernel_rfl) (fun _ _ _ h => h) (by rfl) hS (by intro w _; go_simp; with_reducible rfl) ?_
    try simp only [Act.put, List.setIfInBounds_toArray, List.set_cons_zero, List.set_cons_succ]
    refine take 12 _ rfl (by kernel_rfl) (by kernel_rfl) (by kernel_rfl) (fun _ _ _ h => h) (by rfl) hS (by intro w _; go_simp; with_reducible rfl) ?_
    try simp only [Act.put, List.setIfInBounds_toArray, List.set_cons_zero, List.set_cons_succ]
    refine take 13 _ rfl (by kernel_rfl) (by kernel_rfl) (by kernel_rfl) (fun _ _ _ h => h) (by rfl) hS (by intro w _; go_simp; with_reducible rfl) ?_
    try simp only [Act.put, List.setIfInBounds_toArray, List.set_cons_zero, List.set_cons_succ]
    refine take 14 _ rfl (by kernel_rfl) (by kernel_rfl) (by kernel_rfl) (fun _ _ _ h => h) (by rfl) hS (by intro w _; go_simp; with_reducible rfl) ?_
    try simp only [Act.put, List.setIfInBounds_toArray, List.set_cons_zero, List.set_cons_succ]
    refine alone 15 rfl (by kernel_rfl) (by rfl) ?_
    intro K hK
    go_simp
    refine (equal_any A A n n c c f f HF.out HF.out (by omega) _ (HA.out.below hS (Nat.le_refl _)) (HA.out.below hS (Nat.le_refl _)) true ⟨fun _ => ⟨rfl, fun _ _ => rfl⟩, fun _ => rfl⟩).mono ?_
    rintro e w8 ⟨rfl, k8, rfl⟩
    have hb := below_drewN (Below.refl w7.heap.size w7) k8
    generalize w7.drewN k8 = w8 at hb ⊢
    go_simp
    replace hS := below_trans hS hb
    refine hK.out _ _ hS ?_
    clear hK hb K
    try simp only [Act.put, List.setIfInBounds_toArray, List.set_cons_zero, List.set_cons_succ]
    refine take 16 _ rfl (by kernel_rfl) (by kernel_rfl) (by kernel_rfl) (fun _ _ _ h => h) (by rfl) hS (by intro w _; go_simp; with_reducible rfl) ?_
    try simp only [Act.put, List.setIfInBounds_toArray, List.set_cons_zero, List.set_cons_succ]
    refine take 17 _ rfl (by kernel_rfl) (by kernel_rfl) (by kernel_rfl) (fun _ _ _ h => h) (by rfl) hS (by intro w _; go_simp; with_reducible rfl) ?_
    try simp only [Act.put, List.setIfInBounds_toArray, List.set_cons_zero, List.set_cons_succ]
    refine take 18 _ rfl (by kernel_rfl) (by kernel_rfl) (by kernel_rfl) (fun _ _ _ h => h) (by rfl) hS (by intro w _; go_simp; with_reducible rfl) ?_
    try simp only [Act.put, List.setIfInBounds_toArray, List.set_cons_zero, List.set_cons_succ]
    refine take 20 _ rfl (by kernel_rfl) (by kernel_rfl) (by kernel_rfl) (fun _ _ _ h => h) (by rfl) hS (by intro w _; go_simp; with_reducible rfl) ?_
    try simp only [Act.put, List.setIfInBounds_toArray, List.set_cons_zero, List.set_cons_succ]
    refine alone 19 rfl (by kernel_rfl) (by rfl) ?_
    intro K hK
    go_simp
    refine (hex_any A n c f HF.out (by omega) _ (HA.out.below hS (Nat.le_refl _))).mono ?_
    rintro e w9 ⟨rfl, hb⟩
    go_simp
    replace hS := below_trans hS hb
    refine hK.out _ _ hS ?_
    clear hK hb K
    try simp only [Act.put, List.setIfInBounds_toArray, List.set_cons_zero, List.set_cons_succ]
    refine alone 21 rfl (by kernel_rfl) (by rfl) ?_
    intro K hK
    go_simp
    refine (hex_ref A n c f HF.out (by omega) _ (HA.out.below hS (Nat.le_refl _))).mono ?_
    rintro e w10 ⟨rfl, hb⟩
    go_simp
    replace hS := below_trans hS hb
    refine hK.out _ _ hS ?_
    clear hK hb K
    try simp only [Act.put, List.setIfInBounds_toArray, List.set_cons_zero, List.set_cons_succ]
    refine take 22 _ rfl (by kernel_rfl) (by kernel_rfl) (by kernel_rfl) (fun _ _ _ h => h) (by rfl) hS (by intro w _; go_simp; with_reducible rfl) ?_
    try simp only [Act.put, List.setIfInBounds_toArray, List.set_cons_zero, List.set_cons_succ]
    refine take 23 _ rfl (by kernel_rfl) (by kernel_rfl) (by kernel_rfl) (fun _ _ _ h => h) (by rfl) hS (by intro w _; go_simp; with_reducible rfl) ?_
    try simp only [Act.put, List.setIfInBounds_toArray, List.set_cons_zero, List.set_cons_succ]
    refine take 24 _ rfl (by kernel_rfl) (by kernel_rfl) (by kernel_rfl) (fun _ _ _ h => h) (by rfl) hS (by intro w _; go_simp; with_reducible rfl) ?_
    try simp only [Act.put, List.setIfInBounds_toArray, List.set_cons_zero, List.set_cons_succ]
    refine take 25 _ rfl (by kernel_rfl) (by kernel_rfl) (by kernel_rfl) (fun _ _ _ h => h) (by rfl) hS (by intro w _; go_simp; with_reducible rfl) ?_
    try simp only [Act.put, List.setIfInBounds_toArray, List.set_cons_zero, List.set_cons_succ]
    refine take 27 _ rfl (by kernel_rfl) (by kernel_rfl) (by kernel_rfl) (fun _ _ _ h => h) (by rfl) hS (by intro w _; go_simp; with_reducible rfl) ?_
    try simp only [Act.put, List.setIfInBounds_toArray, List.set_cons_zero, List.set_cons_succ]
    refine take 26 _ rfl (by kernel_rfl) (by kernel_rfl) (by kernel_rfl) (fun _ _ _ h => h) (by rfl) hS (fun w hw => run_string_op 22 9 5 _ rfl rfl Try.underlying22 Try.underlying5 Try.underlying9 (HX.out.below hw (Nat.le_refl _))) ?_
    try simp only [Act.put, List.setIfInBounds_toArray, List.set_cons_zero, List.set_cons_succ]
    refine take 28 _ rfl (by kernel_rfl) (by kernel_rfl) (by kernel_rfl) (fun _ _ _ h => h) (by rfl) hS (fun w hw => run_string_op 22 9 5 _ rfl rfl Try.underlying22 Try.underlying5 Try.underlying9 (HY.out.below hw (Nat.le_refl _))) ?_
    try simp only [Act.put, List.setIfInBounds_toArray, List.set_cons_zero, List.set_cons_succ]
    refine take 29 _ rfl (by kernel_rfl) (by kernel_rfl) (by kernel_rfl) (fun _ _ _ h => h) (by rfl) hS (by intro w _; go_simp; with_reducible rfl) ?_
    try simp only [Act.put, List.setIfInBounds_toArray, List.set_cons_zero, List.set_cons_succ]
    refine take 30 _ rfl (by kernel_rfl) (by kernel_rfl) (by kernel_rfl) (fun _ _ _ h => h) (by rfl) hS (by intro w _; go_simp; with_reducible rfl) ?_
    try simp only [Act.put, List.setIfInBounds_toArray, List.set_cons_zero, List.set_cons_succ]
    refine take 31 _ rfl (by kernel_rfl) (by kernel_rfl) (by kernel_rfl) (fun _ _ _ h => h) (by rfl) hS (by intro w _; go_simp; with_reducible rfl) ?_
    try simp only [Act.put, List.setIfInBounds_toArray, List.set_cons_zero, List.set_cons_succ]
    refine take 32 _ rfl (by kernel_rfl) (by kernel_rfl) (by kernel_rfl) (fun _ _ _ h => h) (by rfl) hS (by intro w hw; have hcl := And.intro ((hw.cell (p := ⟨g8, 0, none⟩) HG8.out).trans c80) ((hw.cell (p := ⟨g8, 1, none⟩) HG8.out).trans c81); go_simp; with_reducible rfl) ?_
    try simp only [Act.put, List.setIfInBounds_toArray, List.set_cons_zero, List.set_cons_succ]
    refine take 33 _ rfl (by kernel_rfl) (by kernel_rfl) (by kernel_rfl) (fun _ _ _ h => h) (by rfl) hS (by intro w hw; have hcl := And.intro ((hw.cell (p := ⟨g10, 0, none⟩) HG10.out).trans c100) ((hw.cell (p := ⟨g10, 1, none⟩) HG10.out).trans c101); go_simp; with_reducible rfl) ?_
    try simp only [Act.put, List.setIfInBounds_toArray, List.set_cons_zero, List.set_cons_succ]
    refine take 34 _ rfl (by kernel_rfl) (by kernel_rfl) (by kernel_rfl) (fun _ _ _ h => h) (by rfl) hS (by intro w _; go_simp; with_reducible rfl) ?_
    try simp only [Act.put, List.setIfInBounds_toArray, List.set_cons_zero, List.set_cons_succ]
    refine take 35 _ rfl (by kernel_rfl) (by kernel_rfl) (by kernel_rfl) (fun _ _ _ h => h) (by rfl) hS (by intro w _; go_simp; with_reducible rfl) ?_
    try simp only [Act.put, List.setIfInBounds_toArray, List.set_cons_zero, List.set_cons_succ]
    refine take 36 _ rfl (by kernel_rfl) (by kernel_rfl) (by kernel_rfl) (fun _ _ _ h => h) (by rfl) hS (by intro w _; go_simp; with_reducible rfl) ?_
    try simp only [Act.put, List.setIfInBounds_toArray, List.set_cons_zero, List.set_cons_succ]
    refine region_end (by kernel_rfl) ?_
    go_wp2
    go_ret
    exact ⟨rfl, below_trans HL.out hS⟩

theorem walk (a0 : Option Addr) (len0 cap0 : Nat) (z0 : List Int) (a1 : Option Addr) (len1 cap1 : Nat) (z1 : List Int) (a2 : ByteArray) (w : World) (w0 : IsRow .u8 w a0 len0 cap0 z0) (w1 : IsRow .u8 w a1 len1 cap1 z1) (w2 : a2.size ≤ maxLen) :
    Calls Try.prog 5 #[.slice a0 len0 cap0, .slice a1 len1 cap1, .string a2] w fun e w' => e = .returned (.bool true) ∧ Below w.heap.size w w' := by
  obtain ⟨f, hf, hr, _, _⟩ := rd_of_row w0
  obtain ⟨g, hg, hr2, _, _⟩ := rd_of_row w1
  exact run a0 a1 len0 len1 cap0 cap1 f g hf hg a2 (by simpa [maxLen] using w2) w hr hr2

end WordsDigits
end Go.Proofs.Ytmhmcdldfpnmbaa
