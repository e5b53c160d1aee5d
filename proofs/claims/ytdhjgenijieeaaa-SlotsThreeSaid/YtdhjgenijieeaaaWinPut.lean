/- Package window, Take: what it answers, as plain arithmetic of the window's number and its two words. -/
import Derived.Test.YtdhjgenijieeaaaWinTake
import Derived.Test.YtdhjgenijieeaaaWinMove
import Derived.Test.YtdhjgenijieeaaaFloatK
namespace Go.Proofs.Ytdhjgenijieeaaa
namespace Win
open Go.ChangeShapes Go.WideShapes Go.ChangeAt Go.RowKit
open Num Mem Words Chacha Aead Poly Quiet WinT

theorem cut_post {F : Exit → Act → World → Prop} {e : Exit} {a : Act} {w : World} (R : World → Prop) (hR : R w) (h : ∀ w', R w' → F e a w') : F e a w := h w hR

set_option maxRecDepth 100000 in
theorem take_no (n a b m : Nat) (hn : n < 18446744073709551616) (E : Nat) (hE : E = 80 ∨ E = 81) (hc : check ⟨n, a, b⟩ m = E) (w : World) :
    Calls Try.prog 27 #[.agg #[.int .u64 n, .int .u64 a, .int .u64 b], .int .u64 m] w fun e w' => e = .returned (.tuple #[.agg #[.int .u64 (n : Nat), .int .u64 (a : Nat), .int .u64 (b : Nat)], .int .i64 (E : Nat)]) ∧ Below w.heap.size w w' := by
  have HC := Lib.hid (fun w => check_any n a b m hn w)
  rw [hc] at HC
  clear hc hn
  rcases hE with rfl | rfl
  all_goals
    go_enter Try.func27, Try.ntmps27
    go_upto_region 1 with fail
    refine cut_world (fun W => Lies W w.heap.size n a b ∧ Lies W (w.heap.size + 1) 0 0 0 ∧ Below w.heap.size w W) ⟨(lies_new _ _ _ _).alloc _, whole_new _ _ (by simp), below_alloc (below_alloc (Below.refl _ _) _) _⟩ ?_
    rintro W ⟨kl, kr, kb⟩
    have KL := Lib.hid kl
    have KR := Lib.hid kr
    have KB := Lib.hid kb
    have hlt := kr.lt
    clear kl kr kb
    generalize hB : w.heap.size = B at KL KR KB hlt ⊢
    have HB0 := Lib.hid hB
    clear hB
    have c0 := KL.out.c0
    have c1 := KL.out.c1
    have c2 := KL.out.c2
    go_wp2_with fail
    clear c0 c1 c2
    refine (HC.out _).mono ?_
    rintro e w1 ⟨rfl, hb⟩
    replace KB := Lib.hid (KB.out.trans (hb.mono (by omega)))
    replace KR := Lib.hid (KR.out.below hb)
    replace KL := Lib.hid (KL.out.below hb)
    replace hlt := KR.out.lt
    clear hb
    have c0 := KL.out.c0
    have c1 := KL.out.c1
    have c2 := KL.out.c2
    go_wp2_with (refine wpList_store_row rfl 32 (.tmp 4) (.tmp 13) rfl (B + 1) #[.int .u64 n, .int .u64 a, .int .u64 b] rfl rfl 32 _ KR.out (by kernel_rfl) rfl (by simp [Value.oneCell']) ?_)
    refine bodyPost_ret (Poly.results_cell_tmp rfl _ _ (B + 1) 32 [.int .u64 n, .int .u64 a, .int .u64 b] _ rfl (setRow_heap _ _ _ _ _ _ KR.out) rfl rfl (by kernel_rfl)) rfl ⟨rfl, by rw [HB0.out]; exact below_setRow KB.out (by omega) _⟩
set_option maxRecDepth 100000 in
theorem take_old (n a b m : Nat) (hn : n < 18446744073709551616) (ha : a < 18446744073709551616) (hb : b < 18446744073709551616) (hc : check ⟨n, a, b⟩ m = 0) (hm : m < n) (w : World) :
    Calls Try.prog 27 #[.agg #[.int .u64 n, .int .u64 a, .int .u64 b], .int .u64 m] w fun e w' => e = .returned (.tuple #[.agg #[.int .u64 (n : Nat), .int .u64 (with0 a (n - 1 - m) : Nat), .int .u64 (with1 b (n - 1 - m) : Nat)], .int .i64 0]) ∧ Below w.heap.size w w' := by
  have HC := Lib.hid (fun w => check_any n a b m hn w)
  rw [hc] at HC
  have hk : n - 1 - m < 128 := by
    have := check_zero.1 hc
    rcases this.2 with h | h
    · exact absurd h (by show ¬ n ≤ m; omega)
    · exact h.1
  have HB := Lib.hid (fun w => below_any n a b m hn hm w)
  have HW := Lib.hid (fun w => with_any a b (n - 1 - m) ha hb hk w)
  have hd : decide (n ≤ m) = false := decide_eq_false (by omega)
  generalize n - 1 - m = k at *
  generalize with0 a k = a' at *
  generalize with1 b k = b' at *
  clear hc hn ha hb hm hk
  go_enter Try.func27, Try.ntmps27
  go_upto_region 1 with fail
  refine cut_world (fun W => Lies W w.heap.size n a b ∧ Lies W (w.heap.size + 1) 0 0 0 ∧ Below w.heap.size w W) ⟨(lies_new _ _ _ _).alloc _, whole_new _ _ (by simp), below_alloc (below_alloc (Below.refl _ _) _) _⟩ ?_
  rintro W ⟨kl, kr, kb⟩
  have KL := Lib.hid kl
  have KR := Lib.hid kr
  have KB := Lib.hid kb
  have hlt := kr.lt
  clear kl kr kb
  generalize hB : w.heap.size = B at KL KR KB hlt ⊢
  have HB0 := Lib.hid hB
  clear hB
  have c0 := KL.out.c0
  have c1 := KL.out.c1
  have c2 := KL.out.c2
  go_wp2_with fail
  clear c0 c1 c2
  refine (HC.out _).mono ?_
  rintro e w1 ⟨rfl, hb⟩
  replace KB := Lib.hid (KB.out.trans (hb.mono (by omega)))
  replace KR := Lib.hid (KR.out.below hb)
  replace KL := Lib.hid (KL.out.below hb)
  replace hlt := KR.out.lt
  clear hb
  have c0 := KL.out.c0
  have c1 := KL.out.c1
  have c2 := KL.out.c2
  go_upto_region 8 with fail
  clear c0 c1 c2
  refine region_drew (fun _ => True) (by kernel_rfl) trivial (fun _ => ?_)
  have hS : Below w1.heap.size w1 w1.drew := Below.drew (Below.refl _ _)
  refine Float.float (W := w1) [(0, 31, .is (.pointer (some ⟨B, 1, none⟩))), (1, 32, .is (.agg #[.int .u64 a, .int .u64 b])), (2, 33, .is (.agg #[.int .u64 n, .int .u64 a, .int .u64 b])), (3, 34, .is (.int .u64 m)), (4, 35, .is (.int .u64 k)), (5, 36, .is (.agg #[.int .u64 a', .int .u64 b'])), (6, 37, .is (.pointer (some ⟨B, 1, none⟩)))] [0, 1, 2, 3, 4, 5, 6] 1 rfl (by rfl) (by kernel_rfl) (by kernel_rfl) (by kernel_rfl) (by kernel_rfl) (by kernel_rfl) (fun γ => rfl) hS (fun _ _ => trivial) ?_ ?_
  · intro γ
    simp only [Float.puts, Act.put, List.setIfInBounds_toArray, List.set_cons_zero, List.set_cons_succ]
    refine ⟨?_, ?_, ?_, ?_, ?_, ?_, ?_, trivial⟩
    · exact ⟨_, _, rfl, Float.does_take (by intro w _; go_simp; try with_reducible rfl)⟩
    · exact ⟨_, _, rfl, Float.does_take (fun w hw => by have c0 := (KL.out.below hw).c0; have c1 := (KL.out.below hw).c1; have c2 := (KL.out.below hw).c2; go_simp; try with_reducible rfl)⟩
    · exact ⟨_, _, rfl, Float.does_take (fun w hw => by have c0 := (KL.out.below hw).c0; have c1 := (KL.out.below hw).c1; have c2 := (KL.out.below hw).c2; go_simp; try with_reducible rfl)⟩
    · exact ⟨_, _, rfl, Float.does_take (by intro w _; go_simp; try with_reducible rfl)⟩
    · exact ⟨_, _, rfl, Float.does_call 39 (#[.agg #[.int .u64 n, .int .u64 a, .int .u64 b], .int .u64 m]) (by intro w; go_simp; try with_reducible rfl) (fun w hw => HB.out w)⟩
    · exact ⟨_, _, rfl, Float.does_call 38 (#[.agg #[.int .u64 a, .int .u64 b], .int .u64 k]) (by intro w; go_simp; try with_reducible rfl) (fun w hw => HW.out w)⟩
    · exact ⟨_, _, rfl, Float.does_take (by intro w _; go_simp; try with_reducible rfl)⟩
  · intro γ v hS hrows hne
    simp only [Float.puts, Act.put, List.setIfInBounds_toArray, List.set_cons_zero, List.set_cons_succ]
    clear hne hrows
    clear γ
    replace KB := Lib.hid (KB.out.trans (hS.mono (by omega)))
    replace KR := Lib.hid (KR.out.below hS)
    replace KL := Lib.hid (KL.out.below hS)
    replace hlt := KR.out.lt
    clear hS
    have c0 := KL.out.c0
    have c1 := KL.out.c1
    have c2 := KL.out.c2
    have f1 := KL.out.free 1
    have f2 := KL.out.free 2
    refine alone 7 rfl (by kernel_rfl) (by rfl) ?_
    intro K hK
    go_simp
    refine hK.out _ _ trivial ?_
    clear hK K
    try simp only [Act.put]
    refine region_end (by kernel_rfl) ?_
    refine cut_post (F := Exit.then _ _) (fun X => Lies X B n a' b' ∧ Lies X (B + 1) 0 0 0 ∧ Below B w X) ⟨KL.out.set1.set2, (KR.out.far (by show B + 1 ≠ B; omega)).far (by show B + 1 ≠ B; omega), (KB.out.setCell (by show B ≤ B; omega) _).setCell (by show B ≤ B; omega) _⟩ ?_
    clear KL KR KB c0 c1 c2 f1 f2 hlt
    rintro X ⟨kl, kr, kb⟩
    have KL := Lib.hid kl
    have KR := Lib.hid kr
    have KB := Lib.hid kb
    have hlt := kr.lt
    clear kl kr kb
    have c0 := KL.out.c0
    have c1 := KL.out.c1
    have c2 := KL.out.c2
    go_wp2_with (refine wpList_store_row rfl 32 (.tmp 4) (.tmp 38) rfl (B + 1) #[.int .u64 n, .int .u64 a', .int .u64 b'] rfl rfl 32 _ KR.out (by kernel_rfl) rfl (by simp [Value.oneCell']) ?_)
    refine bodyPost_ret (Poly.results_cell_tmp rfl _ _ (B + 1) 32 [.int .u64 n, .int .u64 a', .int .u64 b'] _ rfl (setRow_heap _ _ _ _ _ _ KR.out) rfl rfl (by kernel_rfl)) rfl ⟨rfl, by rw [HB0.out]; exact below_setRow KB.out (by omega) _⟩
set_option maxRecDepth 100000 in
theorem take_new (n a b m : Nat) (hn : n < 18446744073709551616) (ha : a < 18446744073709551616) (hc : check ⟨n, a, b⟩ m = 0) (hm : n ≤ m) (w : World) :
    Calls Try.prog 27 #[.agg #[.int .u64 n, .int .u64 a, .int .u64 b], .int .u64 m] w fun e w' => e = .returned (.tuple #[.agg #[.int .u64 (m + 1 : Nat), .int .u64 (with0 (mov0 a (m + 1 - n)) 0 : Nat), .int .u64 (with1 (mov1 a b (m + 1 - n)) 0 : Nat)], .int .i64 0]) ∧ Below w.heap.size w w' := by
  have HC := Lib.hid (fun w => check_any n a b m hn w)
  rw [hc] at HC
  have hl := (check_zero.1 hc).1
  have hs : spent = 18446744073709543423 := rfl
  rw [hs] at hl
  have HM := Lib.hid (fun w => moved_any a b (m + 1 - n) ha w)
  have ha1 := mov0_lt a (m + 1 - n)
  have hb1 := mov1_lt b (m + 1 - n) (show a < 2 ^ 64 from ha)
  generalize mov0 a (m + 1 - n) = a1 at *
  generalize mov1 a b (m + 1 - n) = b1 at *
  have HB := Lib.hid (fun w => below_any (m + 1) a1 b1 m (by omega) (by omega) w)
  rw [show m + 1 - 1 - m = 0 by omega] at HB
  have HW := Lib.hid (fun w => with_any a1 b1 0 ha1 hb1 (by omega) w)
  generalize with0 a1 0 = a' at *
  generalize with1 b1 0 = b' at *
  have hd : decide (n ≤ m) = true := decide_eq_true hm
  have hk : ((m + 1 - n : Nat) : Int) = (m : Int) + 1 - n := by omega
  rw [hk] at HM
  have hp : ((m + 1 : Nat) : Int) = (m : Int) + 1 := by omega
  rw [hp] at HB ⊢
  obtain ⟨p, hpp⟩ : ∃ p : Nat, p = m + 1 := ⟨_, rfl⟩
  have hq : (m : Int) + 1 = (p : Int) := by omega
  have hq2 : IntKind.u64.wrap ((m : Int) + 1) = (p : Int) := by rw [IntKind.wrap_u64]; omega
  have hr : 0 ≤ (p : Int) - n := by omega
  rw [hq] at HB HM ⊢
  clear hc ha hk hp hs hpp ha1 hb1
  go_enter Try.func27, Try.ntmps27
  go_upto_region 1 with fail
  refine cut_world (fun W => Lies W w.heap.size n a b ∧ Lies W (w.heap.size + 1) 0 0 0 ∧ Below w.heap.size w W) ⟨(lies_new _ _ _ _).alloc _, whole_new _ _ (by simp), below_alloc (below_alloc (Below.refl _ _) _) _⟩ ?_
  rintro W ⟨kl, kr, kb⟩
  have KL := Lib.hid kl
  have KR := Lib.hid kr
  have KB := Lib.hid kb
  have hlt := kr.lt
  clear kl kr kb
  generalize hB : w.heap.size = B at KL KR KB hlt ⊢
  have HB0 := Lib.hid hB
  clear hB
  have c0 := KL.out.c0
  have c1 := KL.out.c1
  have c2 := KL.out.c2
  go_wp2_with fail
  clear c0 c1 c2
  refine (HC.out _).mono ?_
  rintro e w1 ⟨rfl, hb⟩
  replace KB := Lib.hid (KB.out.trans (hb.mono (by omega)))
  replace KR := Lib.hid (KR.out.below hb)
  replace KL := Lib.hid (KL.out.below hb)
  replace hlt := KR.out.lt
  clear hb
  have c0 := KL.out.c0
  have c1 := KL.out.c1
  have c2 := KL.out.c2
  go_wp2_with fail
  clear c0 c1 c2
  refine (HM.out _).mono ?_
  rintro e w2 ⟨rfl, hb⟩
  replace KB := Lib.hid (KB.out.trans (hb.mono (by omega)))
  replace KR := Lib.hid (KR.out.below hb)
  replace KL := Lib.hid (KL.out.below hb)
  replace hlt := KR.out.lt
  clear hb
  have c0 := KL.out.c0
  have c1 := KL.out.c1
  have c2 := KL.out.c2
  have f0 := KL.out.free 0
  have f1 := KL.out.free 1
  have f2 := KL.out.free 2
  go_upto_region 8 with fail
  clear c0 c1 c2 f0 f1 f2
  refine cut_world (fun X => Lies X B p a1 b1 ∧ Lies X (B + 1) 0 0 0 ∧ Below B w X) ⟨KL.out.set1.set2.set0, ((KR.out.far (by show B + 1 ≠ B; omega)).far (by show B + 1 ≠ B; omega)).far (by show B + 1 ≠ B; omega), ((KB.out.setCell (by show B ≤ B; omega) _).setCell (by show B ≤ B; omega) _).setCell (by show B ≤ B; omega) _⟩ ?_
  clear KL KR KB hlt
  rintro X ⟨kl, kr, kb⟩
  have KL := Lib.hid kl
  have KR := Lib.hid kr
  have KB := Lib.hid kb
  have hlt := kr.lt
  clear kl kr kb
  obtain ⟨k, hk0⟩ : ∃ k : Nat, k = 0 := ⟨0, rfl⟩
  rw [← hk0] at HB HW
  clear hk0
  refine region_drew (fun _ => True) (by kernel_rfl) trivial (fun _ => ?_)
  have hS : Below X.heap.size X X.drew := Below.drew (Below.refl _ _)
  refine Float.float (W := X) [(0, 31, .is (.pointer (some ⟨B, 1, none⟩))), (1, 32, .is (.agg #[.int .u64 a1, .int .u64 b1])), (2, 33, .is (.agg #[.int .u64 p, .int .u64 a1, .int .u64 b1])), (3, 34, .is (.int .u64 m)), (4, 35, .is (.int .u64 k)), (5, 36, .is (.agg #[.int .u64 a', .int .u64 b'])), (6, 37, .is (.pointer (some ⟨B, 1, none⟩)))] [0, 1, 2, 3, 4, 5, 6] 1 rfl (by rfl) (by kernel_rfl) (by kernel_rfl) (by kernel_rfl) (by kernel_rfl) (by kernel_rfl) (fun γ => rfl) hS (fun _ _ => trivial) ?_ ?_
  · intro γ
    simp only [Float.puts, Act.put, List.setIfInBounds_toArray, List.set_cons_zero, List.set_cons_succ]
    refine ⟨?_, ?_, ?_, ?_, ?_, ?_, ?_, trivial⟩
    · exact ⟨_, _, rfl, Float.does_take (by intro w _; go_simp; try with_reducible rfl)⟩
    · exact ⟨_, _, rfl, Float.does_take (fun w hw => by have c0 := (KL.out.below hw).c0; have c1 := (KL.out.below hw).c1; have c2 := (KL.out.below hw).c2; go_simp; try with_reducible rfl)⟩
    · exact ⟨_, _, rfl, Float.does_take (fun w hw => by have c0 := (KL.out.below hw).c0; have c1 := (KL.out.below hw).c1; have c2 := (KL.out.below hw).c2; go_simp; try with_reducible rfl)⟩
    · exact ⟨_, _, rfl, Float.does_take (by intro w _; go_simp; try with_reducible rfl)⟩
    · exact ⟨_, _, rfl, Float.does_call 39 (#[.agg #[.int .u64 p, .int .u64 a1, .int .u64 b1], .int .u64 m]) (by intro w; go_simp; try with_reducible rfl) (fun w hw => HB.out w)⟩
    · exact ⟨_, _, rfl, Float.does_call 38 (#[.agg #[.int .u64 a1, .int .u64 b1], .int .u64 k]) (by intro w; go_simp; try with_reducible rfl) (fun w hw => HW.out w)⟩
    · exact ⟨_, _, rfl, Float.does_take (by intro w _; go_simp; try with_reducible rfl)⟩
  · intro γ v hS hrows hne
    simp only [Float.puts, Act.put, List.setIfInBounds_toArray, List.set_cons_zero, List.set_cons_succ]
    clear hne hrows
    clear γ
    replace KB := Lib.hid (KB.out.trans (hS.mono (by omega)))
    replace KR := Lib.hid (KR.out.below hS)
    replace KL := Lib.hid (KL.out.below hS)
    replace hlt := KR.out.lt
    clear hS
    have c0 := KL.out.c0
    have c1 := KL.out.c1
    have c2 := KL.out.c2
    have f1 := KL.out.free 1
    have f2 := KL.out.free 2
    refine alone 7 rfl (by kernel_rfl) (by rfl) ?_
    intro K hK
    go_simp
    refine hK.out _ _ trivial ?_
    clear hK K
    try simp only [Act.put]
    refine region_end (by kernel_rfl) ?_
    refine cut_post (F := Exit.then _ _) (fun X => Lies X B p a' b' ∧ Lies X (B + 1) 0 0 0 ∧ Below B w X) ⟨KL.out.set1.set2, (KR.out.far (by show B + 1 ≠ B; omega)).far (by show B + 1 ≠ B; omega), (KB.out.setCell (by show B ≤ B; omega) _).setCell (by show B ≤ B; omega) _⟩ ?_
    clear KL KR KB c0 c1 c2 f1 f2 hlt
    rintro Y ⟨kl, kr, kb⟩
    have KL := Lib.hid kl
    have KR := Lib.hid kr
    have KB := Lib.hid kb
    have hlt := kr.lt
    clear kl kr kb
    have c0 := KL.out.c0
    have c1 := KL.out.c1
    have c2 := KL.out.c2
    go_wp2_with (refine wpList_store_row rfl 32 (.tmp 4) (.tmp 38) rfl (B + 1) #[.int .u64 p, .int .u64 a', .int .u64 b'] rfl rfl 32 _ KR.out (by kernel_rfl) rfl (by simp [Value.oneCell']) ?_)
    refine bodyPost_ret (Poly.results_cell_tmp rfl _ _ (B + 1) 32 [.int .u64 p, .int .u64 a', .int .u64 b'] _ rfl (setRow_heap _ _ _ _ _ _ KR.out) rfl rfl (by kernel_rfl)) rfl ⟨rfl, by rw [HB0.out]; exact below_setRow KB.out (by omega) _⟩

end Win
end Go.Proofs.Ytdhjgenijieeaaa
