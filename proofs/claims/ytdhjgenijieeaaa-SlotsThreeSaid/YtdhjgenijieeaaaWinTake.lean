/- Package window, Has, Check and Take: what each answers, as plain arithmetic of the window's number and its two words. -/
import Derived.Test.YtdhjgenijieeaaaWin
import Derived.Deep.DeepCutAuto
namespace Go.Proofs.Ytdhjgenijieeaaa
namespace Win
open Go.ChangeShapes Go.WideShapes Go.ChangeAt Go.RowKit
open Num Mem Words Chacha Aead Poly Quiet WinT

/-- a window lies in a block of its own -/
def Lies (W : World) (B n a b : Nat) : Prop := Whole W B 32 #[.int .u64 n, .int .u64 a, .int .u64 b]
section
variable {W x : World} {B n a b : Nat}
theorem Lies.c0 (h : Lies W B n a b) : W.cell? ⟨B, 0, none⟩ = some (.int .u64 n) := Whole.cell h 0
theorem Lies.c1 (h : Lies W B n a b) : W.cell? ⟨B, 1, none⟩ = some (.int .u64 a) := Whole.cell h 1
theorem Lies.c2 (h : Lies W B n a b) : W.cell? ⟨B, 2, none⟩ = some (.int .u64 b) := Whole.cell h 2
theorem Lies.free (h : Lies W B n a b) (i : Nat) : W.frozen? ⟨B, i, none⟩ = false := Whole.free h i
theorem Lies.lt (h : Lies W B n a b) : B < W.heap.size := Whole.lt h
theorem Lies.le (h : Lies W B n a b) : B ≤ W.heap.size := Nat.le_of_lt h.lt
theorem Lies.below (h : Lies W B n a b) (hb : Below W.heap.size W x) : Lies x B n a b := Whole.below h hb h.lt
theorem Lies.far {p : Addr} {v : Value} (h : Lies W B n a b) (hp : B ≠ p.block) : Lies (W.setCell p v) B n a b := Whole.far h hp v
theorem Lies.set0 {m : Nat} (h : Lies W B n a b) : Lies (W.setCell ⟨B, 0, none⟩ (.int .u64 m)) B m a b := Whole.put h 0 _
theorem Lies.set1 {m : Nat} (h : Lies W B n a b) : Lies (W.setCell ⟨B, 1, none⟩ (.int .u64 m)) B n m b := Whole.put h 1 _
theorem Lies.set2 {m : Nat} (h : Lies W B n a b) : Lies (W.setCell ⟨B, 2, none⟩ (.int .u64 m)) B n a m := Whole.put h 2 _
end
theorem lies_new (w : World) (n a b : Nat) : Lies (w.alloc (.cells #[.int .u64 n, .int .u64 a, .int .u64 b] 32)) w.heap.size n a b := Whole.new w _ _

set_option maxRecDepth 100000 in
theorem has0_any (n a b m : Nat) (hn : n < 18446744073709551616) (w : World) :
    Calls Try.prog 44 #[.agg #[.int .u64 n, .int .u64 a, .int .u64 b], .int .u64 m] w fun e w' => e = .returned (.bool (has0 ⟨n, a, b⟩ m)) ∧ Below w.heap.size w w' := by
  by_cases h1 : m < n
  · have HK := Lib.hid (fun w => known_any n a b m hn h1 w)
    have HB := Lib.hid (fun w => below_any n a b m hn h1 w)
    have hd : decide (m < n) = true := decide_eq_true h1
    by_cases h2 : n - 1 - m < 128
    · have HH := Lib.hid (fun w => has_any a b (n - 1 - m) h2 w)
      rw [decide_eq_true h2] at HK
      rw [show has0 ⟨n, a, b⟩ m = bit a b (n - 1 - m) by unfold has0; rw [decide_eq_true h1, decide_eq_true h2]; rfl]
      generalize bit a b (n - 1 - m) = r at HH ⊢
      generalize n - 1 - m = k at HH HB
      clear h1 h2 hn
      go_enter Try.func44, Try.ntmps44
      go_upto_region 1 with fail
      refine cut_world (fun W => Lies W w.heap.size n a b ∧ Below w.heap.size w W) ⟨lies_new _ _ _ _, below_alloc (Below.refl _ _) _⟩ ?_
      rintro W ⟨kl, kb⟩
      have KL := Lib.hid kl
      have KB := Lib.hid kb
      clear kl kb
      generalize hB : w.heap.size = B at KL KB ⊢
      have HB0 := Lib.hid hB
      clear hB
      refine q_start (by kernel_rfl) (by kernel_rfl) ?_
      refine q_take _ (by rfl) (by intro x hx; go_simp; with_reducible rfl) ?_
      try simp only [Act.put, List.setIfInBounds_toArray, List.set_cons_zero, List.set_cons_succ]
      refine q_take _ (by rfl) (by intro x hx; go_simp; with_reducible rfl) ?_
      try simp only [Act.put, List.setIfInBounds_toArray, List.set_cons_zero, List.set_cons_succ]
      refine q_take _ (by rfl) (by intro x hx; have c0 := (KL.out.below hx).c0; have c1 := (KL.out.below hx).c1; have c2 := (KL.out.below hx).c2; go_simp; with_reducible rfl) ?_
      try simp only [Act.put, List.setIfInBounds_toArray, List.set_cons_zero, List.set_cons_succ]
      refine q_take _ (by rfl) (by intro x hx; go_simp; with_reducible rfl) ?_
      try simp only [Act.put, List.setIfInBounds_toArray, List.set_cons_zero, List.set_cons_succ]
      refine q_take _ (by rfl) (by intro x hx; go_simp; with_reducible rfl) ?_
      try simp only [Act.put, List.setIfInBounds_toArray, List.set_cons_zero, List.set_cons_succ]
      refine q_take _ (by rfl) (by intro x hx; have c0 := (KL.out.below hx).c0; have c1 := (KL.out.below hx).c1; have c2 := (KL.out.below hx).c2; go_simp; with_reducible rfl) ?_
      try simp only [Act.put, List.setIfInBounds_toArray, List.set_cons_zero, List.set_cons_succ]
      refine q_take _ (by rfl) (by intro x hx; go_simp; with_reducible rfl) ?_
      try simp only [Act.put, List.setIfInBounds_toArray, List.set_cons_zero, List.set_cons_succ]
      refine q_call (.bool true) 43 (#[.agg #[.int .u64 n, .int .u64 a, .int .u64 b], .int .u64 m]) (by rfl) (by intro w; go_simp; try with_reducible rfl) (fun x hx => (HK.out x).mono fun e w' ⟨he, hb⟩ => ⟨he, below_trans hx hb⟩) ?_
      try simp only [Act.put, List.setIfInBounds_toArray, List.set_cons_zero, List.set_cons_succ]
      refine q_take _ (by rfl) (by intro x hx; go_simp; with_reducible rfl) ?_
      try simp only [Act.put, List.setIfInBounds_toArray, List.set_cons_zero, List.set_cons_succ]
      refine q_take _ (by rfl) (by intro x hx; go_simp; with_reducible rfl) ?_
      try simp only [Act.put, List.setIfInBounds_toArray, List.set_cons_zero, List.set_cons_succ]
      refine q_take _ (by rfl) (by intro x hx; go_simp; with_reducible rfl) ?_
      try simp only [Act.put, List.setIfInBounds_toArray, List.set_cons_zero, List.set_cons_succ]
      refine q_take _ (by rfl) (by intro x hx; have c0 := (KL.out.below hx).c0; have c1 := (KL.out.below hx).c1; have c2 := (KL.out.below hx).c2; go_simp; with_reducible rfl) ?_
      try simp only [Act.put, List.setIfInBounds_toArray, List.set_cons_zero, List.set_cons_succ]
      refine q_take _ (by rfl) (by intro x hx; have c0 := (KL.out.below hx).c0; have c1 := (KL.out.below hx).c1; have c2 := (KL.out.below hx).c2; go_simp; with_reducible rfl) ?_
      try simp only [Act.put, List.setIfInBounds_toArray, List.set_cons_zero, List.set_cons_succ]
      refine q_take _ (by rfl) (by intro x hx; go_simp; with_reducible rfl) ?_
      try simp only [Act.put, List.setIfInBounds_toArray, List.set_cons_zero, List.set_cons_succ]
      refine q_call (.int .u64 k) 39 (#[.agg #[.int .u64 n, .int .u64 a, .int .u64 b], .int .u64 m]) (by rfl) (by intro w; go_simp; try with_reducible rfl) (fun x hx => (HB.out x).mono fun e w' ⟨he, hb⟩ => ⟨he, below_trans hx hb⟩) ?_
      try simp only [Act.put, List.setIfInBounds_toArray, List.set_cons_zero, List.set_cons_succ]
      refine q_call (.bool r) 52 (#[.agg #[.int .u64 a, .int .u64 b], .int .u64 k]) (by rfl) (by intro w; go_simp; try with_reducible rfl) (fun x hx => (HH.out x).mono fun e w' ⟨he, hb⟩ => ⟨he, below_trans hx hb⟩) ?_
      try simp only [Act.put, List.setIfInBounds_toArray, List.set_cons_zero, List.set_cons_succ]
      refine q_take _ (by rfl) (by intro x hx; go_simp; with_reducible rfl) ?_
      try simp only [Act.put, List.setIfInBounds_toArray, List.set_cons_zero, List.set_cons_succ]
      refine q_take _ (by rfl) (by intro x hx; go_simp; with_reducible rfl) ?_
      try simp only [Act.put, List.setIfInBounds_toArray, List.set_cons_zero, List.set_cons_succ]
      refine wpQuiet_nil ?_
      intro w2 hb
      have K2 := Lib.hid (KB.out.trans (hb.mono KL.out.le))
      clear hb
      go_wp2_with fail
      go_ret
      exact ⟨rfl, by rw [HB0.out]; exact K2.out⟩
    · rw [decide_eq_false h2] at HK
      rw [show has0 ⟨n, a, b⟩ m = false by unfold has0; rw [decide_eq_true h1, decide_eq_false h2]; rfl]
      clear h1 h2 hn HB
      go_enter Try.func44, Try.ntmps44
      go_upto_region 1 with fail
      refine cut_world (fun W => Lies W w.heap.size n a b ∧ Below w.heap.size w W) ⟨lies_new _ _ _ _, below_alloc (Below.refl _ _) _⟩ ?_
      rintro W ⟨kl, kb⟩
      have KL := Lib.hid kl
      have KB := Lib.hid kb
      clear kl kb
      generalize hB : w.heap.size = B at KL KB ⊢
      have HB0 := Lib.hid hB
      clear hB
      refine q_start (by kernel_rfl) (by kernel_rfl) ?_
      refine q_take _ (by rfl) (by intro x hx; go_simp; with_reducible rfl) ?_
      try simp only [Act.put, List.setIfInBounds_toArray, List.set_cons_zero, List.set_cons_succ]
      refine q_take _ (by rfl) (by intro x hx; go_simp; with_reducible rfl) ?_
      try simp only [Act.put, List.setIfInBounds_toArray, List.set_cons_zero, List.set_cons_succ]
      refine q_take _ (by rfl) (by intro x hx; have c0 := (KL.out.below hx).c0; have c1 := (KL.out.below hx).c1; have c2 := (KL.out.below hx).c2; go_simp; with_reducible rfl) ?_
      try simp only [Act.put, List.setIfInBounds_toArray, List.set_cons_zero, List.set_cons_succ]
      refine q_take _ (by rfl) (by intro x hx; go_simp; with_reducible rfl) ?_
      try simp only [Act.put, List.setIfInBounds_toArray, List.set_cons_zero, List.set_cons_succ]
      refine q_take _ (by rfl) (by intro x hx; go_simp; with_reducible rfl) ?_
      try simp only [Act.put, List.setIfInBounds_toArray, List.set_cons_zero, List.set_cons_succ]
      refine q_take _ (by rfl) (by intro x hx; have c0 := (KL.out.below hx).c0; have c1 := (KL.out.below hx).c1; have c2 := (KL.out.below hx).c2; go_simp; with_reducible rfl) ?_
      try simp only [Act.put, List.setIfInBounds_toArray, List.set_cons_zero, List.set_cons_succ]
      refine q_take _ (by rfl) (by intro x hx; go_simp; with_reducible rfl) ?_
      try simp only [Act.put, List.setIfInBounds_toArray, List.set_cons_zero, List.set_cons_succ]
      refine q_call (.bool false) 43 (#[.agg #[.int .u64 n, .int .u64 a, .int .u64 b], .int .u64 m]) (by rfl) (by intro w; go_simp; try with_reducible rfl) (fun x hx => (HK.out x).mono fun e w' ⟨he, hb⟩ => ⟨he, below_trans hx hb⟩) ?_
      try simp only [Act.put, List.setIfInBounds_toArray, List.set_cons_zero, List.set_cons_succ]
      refine q_take _ (by rfl) (by intro x hx; go_simp; with_reducible rfl) ?_
      try simp only [Act.put, List.setIfInBounds_toArray, List.set_cons_zero, List.set_cons_succ]
      refine q_take _ (by rfl) (by intro x hx; go_simp; with_reducible rfl) ?_
      try simp only [Act.put, List.setIfInBounds_toArray, List.set_cons_zero, List.set_cons_succ]
      refine q_pass (by rfl) ?_
      try simp only [Act.put, List.setIfInBounds_toArray, List.set_cons_zero, List.set_cons_succ]
      refine q_pass (by rfl) ?_
      try simp only [Act.put, List.setIfInBounds_toArray, List.set_cons_zero, List.set_cons_succ]
      refine q_pass (by rfl) ?_
      try simp only [Act.put, List.setIfInBounds_toArray, List.set_cons_zero, List.set_cons_succ]
      refine q_pass (by rfl) ?_
      try simp only [Act.put, List.setIfInBounds_toArray, List.set_cons_zero, List.set_cons_succ]
      refine q_pass (by rfl) ?_
      try simp only [Act.put, List.setIfInBounds_toArray, List.set_cons_zero, List.set_cons_succ]
      refine q_pass (by rfl) ?_
      try simp only [Act.put, List.setIfInBounds_toArray, List.set_cons_zero, List.set_cons_succ]
      refine q_take _ (by rfl) (by intro x hx; go_simp; with_reducible rfl) ?_
      try simp only [Act.put, List.setIfInBounds_toArray, List.set_cons_zero, List.set_cons_succ]
      refine q_take _ (by rfl) (by intro x hx; go_simp; with_reducible rfl) ?_
      try simp only [Act.put, List.setIfInBounds_toArray, List.set_cons_zero, List.set_cons_succ]
      refine wpQuiet_nil ?_
      intro w2 hb
      have K2 := Lib.hid (KB.out.trans (hb.mono KL.out.le))
      clear hb
      go_wp2_with fail
      go_ret
      exact ⟨rfl, by rw [HB0.out]; exact K2.out⟩
  · have hd : decide (m < n) = false := decide_eq_false h1
    rw [show has0 ⟨n, a, b⟩ m = false by unfold has0; rw [decide_eq_false h1]; rfl]
    clear h1 hn
    go_enter Try.func44, Try.ntmps44
    go_upto_region 1 with fail
    refine cut_world (fun W => Lies W w.heap.size n a b ∧ Below w.heap.size w W) ⟨lies_new _ _ _ _, below_alloc (Below.refl _ _) _⟩ ?_
    rintro W ⟨kl, kb⟩
    have KL := Lib.hid kl
    have KB := Lib.hid kb
    clear kl kb
    generalize hB : w.heap.size = B at KL KB ⊢
    have HB0 := Lib.hid hB
    clear hB
    refine q_start (by kernel_rfl) (by kernel_rfl) ?_
    refine q_take _ (by rfl) (by intro x hx; go_simp; with_reducible rfl) ?_
    try simp only [Act.put, List.setIfInBounds_toArray, List.set_cons_zero, List.set_cons_succ]
    refine q_take _ (by rfl) (by intro x hx; go_simp; with_reducible rfl) ?_
    try simp only [Act.put, List.setIfInBounds_toArray, List.set_cons_zero, List.set_cons_succ]
    refine q_take _ (by rfl) (by intro x hx; have c0 := (KL.out.below hx).c0; have c1 := (KL.out.below hx).c1; have c2 := (KL.out.below hx).c2; go_simp; with_reducible rfl) ?_
    try simp only [Act.put, List.setIfInBounds_toArray, List.set_cons_zero, List.set_cons_succ]
    refine q_take _ (by rfl) (by intro x hx; go_simp; with_reducible rfl) ?_
    try simp only [Act.put, List.setIfInBounds_toArray, List.set_cons_zero, List.set_cons_succ]
    refine q_take _ (by rfl) (by intro x hx; go_simp; with_reducible rfl) ?_
    try simp only [Act.put, List.setIfInBounds_toArray, List.set_cons_zero, List.set_cons_succ]
    refine q_pass (by rfl) ?_
    try simp only [Act.put, List.setIfInBounds_toArray, List.set_cons_zero, List.set_cons_succ]
    refine q_pass (by rfl) ?_
    try simp only [Act.put, List.setIfInBounds_toArray, List.set_cons_zero, List.set_cons_succ]
    refine q_pass (by rfl) ?_
    try simp only [Act.put, List.setIfInBounds_toArray, List.set_cons_zero, List.set_cons_succ]
    refine q_take _ (by rfl) (by intro x hx; go_simp; with_reducible rfl) ?_
    try simp only [Act.put, List.setIfInBounds_toArray, List.set_cons_zero, List.set_cons_succ]
    refine q_take _ (by rfl) (by intro x hx; go_simp; with_reducible rfl) ?_
    try simp only [Act.put, List.setIfInBounds_toArray, List.set_cons_zero, List.set_cons_succ]
    refine q_pass (by rfl) ?_
    try simp only [Act.put, List.setIfInBounds_toArray, List.set_cons_zero, List.set_cons_succ]
    refine q_pass (by rfl) ?_
    try simp only [Act.put, List.setIfInBounds_toArray, List.set_cons_zero, List.set_cons_succ]
    refine q_pass (by rfl) ?_
    try simp only [Act.put, List.setIfInBounds_toArray, List.set_cons_zero, List.set_cons_succ]
    refine q_pass (by rfl) ?_
    try simp only [Act.put, List.setIfInBounds_toArray, List.set_cons_zero, List.set_cons_succ]
    refine q_pass (by rfl) ?_
    try simp only [Act.put, List.setIfInBounds_toArray, List.set_cons_zero, List.set_cons_succ]
    refine q_pass (by rfl) ?_
    try simp only [Act.put, List.setIfInBounds_toArray, List.set_cons_zero, List.set_cons_succ]
    refine q_take _ (by rfl) (by intro x hx; go_simp; with_reducible rfl) ?_
    try simp only [Act.put, List.setIfInBounds_toArray, List.set_cons_zero, List.set_cons_succ]
    refine q_take _ (by rfl) (by intro x hx; go_simp; with_reducible rfl) ?_
    try simp only [Act.put, List.setIfInBounds_toArray, List.set_cons_zero, List.set_cons_succ]
    refine wpQuiet_nil ?_
    intro w2 hb
    have K2 := Lib.hid (KB.out.trans (hb.mono KL.out.le))
    clear hb
    go_wp2_with fail
    go_ret
    exact ⟨rfl, by rw [HB0.out]; exact K2.out⟩

set_option maxRecDepth 100000 in
theorem check_any (n a b m : Nat) (hn : n < 18446744073709551616) (w : World) :
    Calls Try.prog 36 #[.agg #[.int .u64 n, .int .u64 a, .int .u64 b], .int .u64 m] w fun e w' => e = .returned (.int .i64 (check ⟨n, a, b⟩ m : Nat)) ∧ Below w.heap.size w w' := by
  have hs : spent = 18446744073709543423 := rfl
  by_cases h0 : 18446744073709543423 ≤ m
  · rw [show check ⟨n, a, b⟩ m = 81 from if_pos h0]
    obtain ⟨M, hM⟩ : ∃ M : Int, M = (m : Int) := ⟨_, rfl⟩
    have hd : decide ((18446744073709543423 : Int) ≤ M) = true := decide_eq_true (by omega)
    rw [← hM]
    clear hM h0 hs
    go_enter Try.func36, Try.ntmps36
    go_upto_region 1 with fail
    refine cut_world (fun W => Lies W w.heap.size n a b ∧ Below w.heap.size w W) ⟨lies_new _ _ _ _, below_alloc (Below.refl _ _) _⟩ ?_
    rintro W ⟨kl, kb⟩
    have KL := Lib.hid kl
    have KB := Lib.hid kb
    clear kl kb
    generalize hB : w.heap.size = B at KL KB ⊢
    have HB0 := Lib.hid hB
    clear hB
    go_wp2_with fail
    go_ret
    exact ⟨rfl, by rw [HB0.out]; exact KB.out⟩
  · obtain ⟨M, hM⟩ : ∃ M : Int, M = (m : Int) := ⟨_, rfl⟩
    have hd : decide ((18446744073709543423 : Int) ≤ M) = false := decide_eq_false (by omega)
    by_cases h1 : m < n
    · have hd1 : decide (M < (n : Int)) = true := decide_eq_true (by omega)
      have HK := Lib.hid (fun w => known_any n a b m hn h1 w)
      by_cases h2 : n - 1 - m < 128
      · have HH := Lib.hid (fun w => has0_any n a b m hn w)
        rw [decide_eq_true h2] at HK
        rw [show check ⟨n, a, b⟩ m = if has0 ⟨n, a, b⟩ m = true then 80 else 0 by
          unfold check
          rw [if_neg (by rw [hs]; exact h0)]
          cases has0 ⟨n, a, b⟩ m
          · rw [if_neg (by rintro ⟨_, h | h⟩ <;> first | cases h | exact absurd h (by show ¬ 128 ≤ n - 1 - m; omega))]; rfl
          · rw [if_pos (show m < n ∧ (_ ∨ _) from ⟨h1, .inr rfl⟩)]; rfl]
        generalize has0 ⟨n, a, b⟩ m = r at HH ⊢
        rw [← hM] at HK HH ⊢
        clear h1 h2 hn h0 hs hM
        rcases r with _ | _
        all_goals
          go_enter Try.func36, Try.ntmps36
          go_upto_region 1 with fail
          refine cut_world (fun W => Lies W w.heap.size n a b ∧ Below w.heap.size w W) ⟨lies_new _ _ _ _, below_alloc (Below.refl _ _) _⟩ ?_
          rintro W ⟨kl, kb⟩
          have KL := Lib.hid kl
          have KB := Lib.hid kb
          clear kl kb
          generalize hB : w.heap.size = B at KL KB ⊢
          have HB0 := Lib.hid hB
          clear hB
          have c0 := KL.out.c0
          have c1 := KL.out.c1
          have c2 := KL.out.c2
          go_wp2_with fail
          clear c0 c1 c2
          refine (HK.out _).mono ?_
          rintro e w1 ⟨rfl, hb⟩
          replace KB := Lib.hid (KB.out.trans (hb.mono KL.out.le))
          replace KL := Lib.hid (KL.out.below hb)
          clear hb
          have c0 := KL.out.c0
          have c1 := KL.out.c1
          have c2 := KL.out.c2
          go_wp2_with fail
          clear c0 c1 c2
          refine (HH.out _).mono ?_
          rintro e w2 ⟨rfl, hb⟩
          replace KB := Lib.hid (KB.out.trans (hb.mono KL.out.le))
          replace KL := Lib.hid (KL.out.below hb)
          clear hb
          have c0 := KL.out.c0
          have c1 := KL.out.c1
          have c2 := KL.out.c2
          go_wp2_with fail
          go_ret
          exact ⟨rfl, by rw [HB0.out]; exact KB.out⟩
      · rw [decide_eq_false h2] at HK
        rw [show check ⟨n, a, b⟩ m = 80 by
          unfold check
          rw [if_neg (by rw [hs]; exact h0), if_pos (show m < n ∧ (_ ∨ _) from ⟨h1, .inl (by show 128 ≤ n - 1 - m; omega)⟩)]]
        rw [← hM] at HK ⊢
        clear h1 h2 hn h0 hs hM
        go_enter Try.func36, Try.ntmps36
        go_upto_region 1 with fail
        refine cut_world (fun W => Lies W w.heap.size n a b ∧ Below w.heap.size w W) ⟨lies_new _ _ _ _, below_alloc (Below.refl _ _) _⟩ ?_
        rintro W ⟨kl, kb⟩
        have KL := Lib.hid kl
        have KB := Lib.hid kb
        clear kl kb
        generalize hB : w.heap.size = B at KL KB ⊢
        have HB0 := Lib.hid hB
        clear hB
        have c0 := KL.out.c0
        have c1 := KL.out.c1
        have c2 := KL.out.c2
        go_wp2_with fail
        clear c0 c1 c2
        refine (HK.out _).mono ?_
        rintro e w1 ⟨rfl, hb⟩
        replace KB := Lib.hid (KB.out.trans (hb.mono KL.out.le))
        replace KL := Lib.hid (KL.out.below hb)
        clear hb
        have c0 := KL.out.c0
        have c1 := KL.out.c1
        have c2 := KL.out.c2
        go_wp2_with fail
        go_ret
        exact ⟨rfl, by rw [HB0.out]; exact KB.out⟩
    · have hd1 : decide (M < (n : Int)) = false := decide_eq_false (by omega)
      rw [show check ⟨n, a, b⟩ m = 0 by
        unfold check
        rw [if_neg (by rw [hs]; exact h0), if_neg (fun h => h1 h.1)]]
      rw [← hM]
      clear h1 hn h0 hs hM
      go_enter Try.func36, Try.ntmps36
      go_upto_region 1 with fail
      refine cut_world (fun W => Lies W w.heap.size n a b ∧ Below w.heap.size w W) ⟨lies_new _ _ _ _, below_alloc (Below.refl _ _) _⟩ ?_
      rintro W ⟨kl, kb⟩
      have KL := Lib.hid kl
      have KB := Lib.hid kb
      clear kl kb
      generalize hB : w.heap.size = B at KL KB ⊢
      have HB0 := Lib.hid hB
      clear hB
      have c0 := KL.out.c0
      have c1 := KL.out.c1
      have c2 := KL.out.c2
      go_wp2_with fail
      go_ret
      exact ⟨rfl, by rw [HB0.out]; exact KB.out⟩

end Win
end Go.Proofs.Ytdhjgenijieeaaa
