/- Package wheel: the order of timers. -/
import Derived.Test.YtgbahkkccpcadaaWhNil
import Derived.Test.YtgbahkkccpcadaaFloatK
import Derived.Test.YtgbahkkccpcadaaOps
namespace Go.Proofs.Ytgbahkkccpcadaa
namespace Wh
open Go.ChangeShapes Go.WideShapes Go.ChangeAt Go.RowKit
open Num Mem Words Chacha Aead Poly Quiet Adr

/-- a timer -/
structure Tm where
  o : Int
  k : Int
  t : Int
def tmL (x : Tm) : List Value := [.int .i64 x.o, .int .i64 x.k, .int .i64 x.t]
def tmV (x : Tm) : Value := .agg (tmL x).toArray
/-- the order of two numbers -/
def sgn (a b : Int) : Int := if a < b then -1 else if a = b then 0 else 1
theorem sgn_cases (a b : Int) : a < b ∧ sgn a b = -1 ∨ a = b ∧ sgn a b = 0 ∨ b < a ∧ sgn a b = 1 := by
  unfold sgn
  by_cases h1 : a < b
  · exact .inl ⟨h1, if_pos h1⟩
  · by_cases h2 : a = b
    · exact .inr (.inl ⟨h2, by rw [if_neg h1, if_pos h2]⟩)
    · exact .inr (.inr ⟨by omega, by rw [if_neg h1, if_neg h2]⟩)
def or3 (a b c : Int) : Int := if a ≠ 0 then a else if b ≠ 0 then b else c
/-- the order of timers: by their time, their owner, their kind -/
def cmpT (x y : Tm) : Int := or3 (sgn x.t y.t) (sgn x.o y.o) (sgn x.k y.k)
theorem ret_b {a b : Bool} (h : a = b) : Ending.returned (.bool a) = .returned (.bool b) := by rw [h]

theorem nan64 (a : Int) (w : World) : Calls Try.prog 41 #[.int .i64 a] w fun e w' => e = .returned (.bool false) ∧ w = w' := by
  have h : (a != a) = false := bne_self_eq_false _
  go_enter Try.func41, Try.ntmps41
  go_wp2
  go_ret
  exact ⟨ret_b (by simp), rfl⟩
theorem nanI (a : Int) (w : World) : Calls Try.prog 42 #[.int .i64 a] w fun e w' => e = .returned (.bool false) ∧ w = w' := by
  have h : (a != a) = false := bne_self_eq_false _
  go_enter Try.func42, Try.ntmps42
  go_wp2
  go_ret
  exact ⟨ret_b (by simp), rfl⟩
set_option maxRecDepth 100000 in
theorem cmp64 (a b : Int) (w : World) : Calls Try.prog 37 #[.int .i64 a, .int .i64 b] w fun e w' => e = .returned (.int .i64 (sgn a b)) ∧ w = w' := by
  rcases sgn_cases a b with ⟨h, hv⟩ | ⟨h, hv⟩ | ⟨h, hv⟩
  · rw [hv]
    clear hv
    go_enter Try.func37, Try.ntmps37
    go_wp2_with (refine (nan64 _ _).mono ?_; rintro e w' ⟨rfl, rfl⟩)
    go_ret
    exact ⟨rfl, rfl⟩
  · rw [hv]
    clear hv
    subst h
    have h1 : ¬ (a < a) := by omega
    go_enter Try.func37, Try.ntmps37
    go_wp2_with (refine (nan64 _ _).mono ?_; rintro e w' ⟨rfl, rfl⟩)
    go_ret
    exact ⟨rfl, rfl⟩
  · rw [hv]
    clear hv
    have h1 : ¬ (a < b) := by omega
    have h2 : decide (a < b) = false := decide_eq_false h1
    go_enter Try.func37, Try.ntmps37
    go_wp2_with (refine (nan64 _ _).mono ?_; rintro e w' ⟨rfl, rfl⟩)
    go_ret
    exact ⟨rfl, rfl⟩
set_option maxRecDepth 100000 in
theorem cmpI (a b : Int) (w : World) : Calls Try.prog 38 #[.int .i64 a, .int .i64 b] w fun e w' => e = .returned (.int .i64 (sgn a b)) ∧ w = w' := by
  rcases sgn_cases a b with ⟨h, hv⟩ | ⟨h, hv⟩ | ⟨h, hv⟩
  · rw [hv]
    clear hv
    go_enter Try.func38, Try.ntmps38
    go_wp2_with (refine (nanI _ _).mono ?_; rintro e w' ⟨rfl, rfl⟩)
    go_ret
    exact ⟨rfl, rfl⟩
  · rw [hv]
    clear hv
    subst h
    have h1 : ¬ (a < a) := by omega
    go_enter Try.func38, Try.ntmps38
    go_wp2_with (refine (nanI _ _).mono ?_; rintro e w' ⟨rfl, rfl⟩)
    go_ret
    exact ⟨rfl, rfl⟩
  · rw [hv]
    clear hv
    have h1 : ¬ (a < b) := by omega
    have h2 : decide (a < b) = false := decide_eq_false h1
    go_enter Try.func38, Try.ntmps38
    go_wp2_with (refine (nanI _ _).mono ?_; rintro e w' ⟨rfl, rfl⟩)
    go_ret
    exact ⟨rfl, rfl⟩
set_option maxRecDepth 100000 in
theorem or_any (g : Nat) (a b c : Int) (w : World) (t : TypeId) (h : Whole w g t #[.int .i64 a, .int .i64 b, .int .i64 c]) : Calls Try.prog 36 #[.slice (some ⟨g, 0, none⟩) 3 3] w fun e w' => e = .returned (.int .i64 (or3 a b c)) ∧ w = w' := by
  have c0 : w.cell? ⟨g, 0, none⟩ = some (.int .i64 a) := h.cell 0
  have c1 : w.cell? ⟨g, 1, none⟩ = some (.int .i64 b) := h.cell 1
  have c2 : w.cell? ⟨g, 2, none⟩ = some (.int .i64 c) := h.cell 2
  clear h
  obtain ⟨v, hv⟩ : ∃ v, or3 a b c = v := ⟨_, rfl⟩
  rw [hv]
  have HV := Lib.hid hv
  clear hv
  go_enter Try.func36, Try.ntmps36
  go_wp2_with fail
  go_loopw [8] (fun i X => X = w ∧ (i = .int .i64 0 ∨ a = 0 ∧ i = .int .i64 1 ∨ a = 0 ∧ b = 0 ∧ i = .int .i64 2 ∨ a = 0 ∧ b = 0 ∧ c = 0 ∧ i = .int .i64 3)) (fun i _ => 3 - (intOf i).toNat)
  case atStart => exact ⟨rfl, .inl rfl⟩
  case round =>
    obtain ⟨rfl, h⟩ := hrel
    rcases h with rfl | ⟨ha, rfl⟩ | ⟨ha, hb, rfl⟩ | ⟨ha, hb, hc, rfl⟩
    · by_cases ha : a = 0
      · subst ha
        go_wp2_with fail
        go_round
        case rel => simp
        case measure => simp [intOf]
      · have hn : (a != 0) = true := by simpa using ha
        have hn2 : (a = 0) = False := eq_false ha
        have hv := HV.out
        unfold or3 at hv
        rw [if_pos ha] at hv
        subst hv
        go_wp2_with fail
        go_ret
        exact ⟨rfl, rfl⟩
    · subst ha
      by_cases hb : b = 0
      · subst hb
        go_wp2_with fail
        go_round
        case rel => simp
        case measure => simp [intOf]
      · have hn : (b != 0) = true := by simpa using hb
        have hn2 : (b = 0) = False := eq_false hb
        have hv := HV.out
        unfold or3 at hv
        rw [if_neg (by simp), if_pos hb] at hv
        subst hv
        go_wp2_with fail
        go_ret
        exact ⟨rfl, rfl⟩
    · subst ha
      subst hb
      have hv := HV.out
      unfold or3 at hv
      rw [if_neg (by simp), if_neg (by simp)] at hv
      subst hv
      by_cases hc : c = 0
      · subst hc
        go_wp2_with fail
        go_round
        case rel => simp
        case measure => simp [intOf]
      · have hn : (c != 0) = true := by simpa using hc
        have hn2 : (c = 0) = False := eq_false hc
        go_wp2_with fail
        go_ret
        exact ⟨rfl, rfl⟩
    · subst ha
      subst hb
      subst hc
      have hv := HV.out
      unfold or3 at hv
      rw [if_neg (by simp), if_neg (by simp)] at hv
      subst hv
      go_wp2_with fail
      go_ret
      exact ⟨rfl, rfl⟩

set_option maxRecDepth 100000 in
theorem compare_any (x y : Tm) (w : World) : Calls Try.prog 28 #[tmV x, tmV y] w fun e w' => e = .returned (.int .i64 (cmpT x y)) ∧ Below w.heap.size w w' := by
  obtain ⟨xo, xk, xt⟩ := x
  obtain ⟨yo, yk, yt⟩ := y
  unfold tmV tmL cmpT
  generalize hg1 : sgn xt yt = s1
  generalize hg2 : sgn xo yo = s2
  generalize hg3 : sgn xk yk = s3
  have C1 := Lib.hid (fun W => hg1 ▸ cmp64 xt yt W)
  have C2 := Lib.hid (fun W => hg2 ▸ cmpI xo yo W)
  have C3 := Lib.hid (fun W => hg3 ▸ cmpI xk yk W)
  clear hg1 hg2 hg3
  go_enter Try.func28, Try.ntmps28
  go_upto_region 1 with fail
  refine cut_world (fun X => Whole X w.heap.size 38 #[.int .i64 xo, .int .i64 xk, .int .i64 xt] ∧ Whole X (w.heap.size + 1) 38 #[.int .i64 yo, .int .i64 yk, .int .i64 yt] ∧ Below w.heap.size w X) ⟨Whole.alloc (whole_new _ _ rfl) _, whole_new _ _ (by simp), below_alloc (below_alloc (Below.refl _ _) _) _⟩ ?_
  rintro X ⟨x1, x2, x3⟩
  have X1 := Lib.hid x1
  have X2 := Lib.hid x2
  have X3 := Lib.hid x3
  clear x1 x2 x3
  obtain ⟨n, hn⟩ : ∃ n, w.heap.size = n := ⟨_, rfl⟩
  rw [hn] at X1 X2 X3 ⊢
  have HN := Lib.hid hn
  clear hn
  refine region_drew (fun V => Whole V n 38 #[.int .i64 xo, .int .i64 xk, .int .i64 xt] ∧ Whole V (n + 1) 38 #[.int .i64 yo, .int .i64 yk, .int .i64 yt]) (by kernel_rfl) ⟨X1.out, X2.out⟩ (fun hS => ?_)
  refine take 0 _ rfl (by kernel_rfl) (by kernel_rfl) (by kernel_rfl) (fun _ _ _ h => h) (by rfl) hS (by intro w _; go_simp; with_reducible rfl) ?_
  try simp only [Act.put, List.setIfInBounds_toArray, List.set_cons_zero, List.set_cons_succ]
  refine take 2 _ rfl (by kernel_rfl) (by kernel_rfl) (by kernel_rfl) (fun _ _ _ h => h) (by rfl) hS (by intro w _; go_simp; with_reducible rfl) ?_
  try simp only [Act.put, List.setIfInBounds_toArray, List.set_cons_zero, List.set_cons_succ]
  refine take 5 _ rfl (by kernel_rfl) (by kernel_rfl) (by kernel_rfl) (fun _ _ _ h => h) (by rfl) hS (by intro w _; go_simp; with_reducible rfl) ?_
  try simp only [Act.put, List.setIfInBounds_toArray, List.set_cons_zero, List.set_cons_succ]
  refine take 7 _ rfl (by kernel_rfl) (by kernel_rfl) (by kernel_rfl) (fun _ _ _ h => h) (by rfl) hS (by intro w _; go_simp; with_reducible rfl) ?_
  try simp only [Act.put, List.setIfInBounds_toArray, List.set_cons_zero, List.set_cons_succ]
  refine take 10 _ rfl (by kernel_rfl) (by kernel_rfl) (by kernel_rfl) (fun _ _ _ h => h) (by rfl) hS (by intro w _; go_simp; with_reducible rfl) ?_
  try simp only [Act.put, List.setIfInBounds_toArray, List.set_cons_zero, List.set_cons_succ]
  refine take 12 _ rfl (by kernel_rfl) (by kernel_rfl) (by kernel_rfl) (fun _ _ _ h => h) (by rfl) hS (by intro w _; go_simp; with_reducible rfl) ?_
  try simp only [Act.put, List.setIfInBounds_toArray, List.set_cons_zero, List.set_cons_succ]
  refine take 1 _ rfl (by kernel_rfl) (by kernel_rfl) (by kernel_rfl) (fun _ _ _ h => h) (by rfl) hS (by intro w hw; have hcl := hw.1.cell 2; go_simp; with_reducible rfl) ?_
  try simp only [Act.put, List.setIfInBounds_toArray, List.set_cons_zero, List.set_cons_succ]
  refine take 3 _ rfl (by kernel_rfl) (by kernel_rfl) (by kernel_rfl) (fun _ _ _ h => h) (by rfl) hS (by intro w hw; have hcl := hw.2.cell 2; go_simp; with_reducible rfl) ?_
  try simp only [Act.put, List.setIfInBounds_toArray, List.set_cons_zero, List.set_cons_succ]
  refine take 6 _ rfl (by kernel_rfl) (by kernel_rfl) (by kernel_rfl) (fun _ _ _ h => h) (by rfl) hS (by intro w hw; have hcl := hw.1.cell 0; go_simp; with_reducible rfl) ?_
  try simp only [Act.put, List.setIfInBounds_toArray, List.set_cons_zero, List.set_cons_succ]
  refine take 8 _ rfl (by kernel_rfl) (by kernel_rfl) (by kernel_rfl) (fun _ _ _ h => h) (by rfl) hS (by intro w hw; have hcl := hw.2.cell 0; go_simp; with_reducible rfl) ?_
  try simp only [Act.put, List.setIfInBounds_toArray, List.set_cons_zero, List.set_cons_succ]
  refine take 11 _ rfl (by kernel_rfl) (by kernel_rfl) (by kernel_rfl) (fun _ _ _ h => h) (by rfl) hS (by intro w hw; have hcl := hw.1.cell 1; go_simp; with_reducible rfl) ?_
  try simp only [Act.put, List.setIfInBounds_toArray, List.set_cons_zero, List.set_cons_succ]
  refine take 13 _ rfl (by kernel_rfl) (by kernel_rfl) (by kernel_rfl) (fun _ _ _ h => h) (by rfl) hS (by intro w hw; have hcl := hw.2.cell 1; go_simp; with_reducible rfl) ?_
  try simp only [Act.put, List.setIfInBounds_toArray, List.set_cons_zero, List.set_cons_succ]
  refine alone 4 rfl (by kernel_rfl) (by rfl) ?_
  intro K hK
  go_simp
  refine (C1.out _).mono ?_
  rintro e w2 ⟨rfl, rfl⟩
  go_simp
  refine hK.out _ _ hS ?_
  clear hK K
  try simp only [Act.put, List.setIfInBounds_toArray, List.set_cons_zero, List.set_cons_succ]
  refine alone 9 rfl (by kernel_rfl) (by rfl) ?_
  intro K hK
  go_simp
  refine (C2.out _).mono ?_
  rintro e w2 ⟨rfl, rfl⟩
  go_simp
  refine hK.out _ _ hS ?_
  clear hK K
  try simp only [Act.put, List.setIfInBounds_toArray, List.set_cons_zero, List.set_cons_succ]
  refine alone 14 rfl (by kernel_rfl) (by rfl) ?_
  intro K hK
  go_simp
  refine (C3.out _).mono ?_
  rintro e w2 ⟨rfl, rfl⟩
  go_simp
  refine hK.out _ _ hS ?_
  clear hK K
  try simp only [Act.put, List.setIfInBounds_toArray, List.set_cons_zero, List.set_cons_succ]
  refine alone 15 rfl (by kernel_rfl) (by rfl) ?_
  intro K hK
  go_simp
  have hn1 : (X.drew.alloc (.cells #[.int .i64 s1, .int .i64 s2, .int .i64 s3] 3)).heap.size = X.heap.size + 1 := by simp
  have hS2 : Whole (X.drew.alloc (.cells #[.int .i64 s1, .int .i64 s2, .int .i64 s3] 3)) n 38 #[.int .i64 xo, .int .i64 xk, .int .i64 xt] ∧ Whole (X.drew.alloc (.cells #[.int .i64 s1, .int .i64 s2, .int .i64 s3] 3)) (n + 1) 38 #[.int .i64 yo, .int .i64 yk, .int .i64 yt] := ⟨hS.1.alloc _, hS.2.alloc _⟩
  refine hK.out _ _ (by exact hS2) ?_
  clear hK K hn1
  try simp only [Act.put, List.setIfInBounds_toArray, List.set_cons_zero, List.set_cons_succ]
  have HO := Lib.hid (or_any X.heap.size s1 s2 s3 (X.drew.alloc (.cells #[.int .i64 s1, .int .i64 s2, .int .i64 s3] 3)) 3 (Whole.new X.drew _ _))
  refine alone 16 rfl (by kernel_rfl) (by rfl) ?_
  intro K hK
  go_simp
  refine HO.out.mono ?_
  rintro e w2 ⟨rfl, rfl⟩
  go_simp
  refine hK.out _ _ (by exact hS2) ?_
  clear hK K
  try simp only [Act.put, List.setIfInBounds_toArray, List.set_cons_zero, List.set_cons_succ]
  have hS := hS2
  refine take 17 _ rfl (by kernel_rfl) (by kernel_rfl) (by kernel_rfl) (fun _ _ _ h => h) (by rfl) hS (by intro w _; go_simp; with_reducible rfl) ?_
  try simp only [Act.put, List.setIfInBounds_toArray, List.set_cons_zero, List.set_cons_succ]
  refine region_end (by kernel_rfl) ?_
  go_wp2_with fail
  go_ret
  refine ⟨rfl, ?_⟩
  rw [HN.out]
  exact (Below.drew X3.out).trans ((below_alloc (Below.refl X.drew.heap.size X.drew) (.cells #[.int .i64 s1, .int .i64 s2, .int .i64 s3] 3)).mono (by have := X3.out.size; have := HN.out; show n ≤ X.heap.size; omega))
end Wh
end Go.Proofs.Ytgbahkkccpcadaa
