/- 'aditlaw01.WordsPuts' returns true at every input and writes nothing that was there: the walk. No condition. -/
import Derived.Test.YtmhmcdldfpnmbaaAliveOne
import Derived.Test.YtmhmcdldfpnmbaaRefTwo
import Derived.Test.YtmhmcdldfpnmbaaQuiet
namespace Go.Proofs.Ytmhmcdldfpnmbaa
namespace WordsPuts
open Go.ChangeShapes Go.WideShapes Go.ChangeAt Go.RowKit
open Num Mem Words Ref Quiet

/-- how many bytes PutBig makes, what they are, and its error -/
def pbN (v : Nat) (s : Int) : Nat := if (1 ≤ s ∧ s ≤ 8) ∧ v < 2 ^ (8 * s.toNat) then s.toNat else 0
def pbE (v : Nat) (s : Int) : Int := if 1 ≤ s ∧ s ≤ 8 then (if v < 2 ^ (8 * s.toNat) then 0 else 2) else 1
def pbF (v : Nat) (s : Int) (i : Nat) : Nat := byteAt v (s.toNat - 1 - i)

theorem div_zero (v m : Nat) (h : v / 2 ^ m = 0) : v < 2 ^ m := by
  rcases Nat.lt_or_ge v (2 ^ m) with k | k
  · exact k
  · exact absurd h (Nat.ne_of_gt (Nat.div_pos k (Nat.two_pow_pos _)))

theorem putBig_all (v : Nat) (s : Int) (w : World) :
    Calls Try.prog 22 #[.int .u64 v, .int .i64 s] w fun e w' => ∃ A c, e = .returned (.tuple #[.slice A (pbN v s) c, .int .i64 (pbE v s)]) ∧ Rd w' A (pbN v s) (pbF v s) ∧ Below w.heap.size w w' := by
  by_cases h : 1 ≤ s ∧ s ≤ 8
  · obtain ⟨k, rfl⟩ : ∃ k : Nat, s = (k : Int) := ⟨s.toNat, by omega⟩
    by_cases hv : v < 2 ^ (8 * k)
    · rw [show pbN v k = k from if_pos ⟨h, hv⟩, show pbE v k = 0 from by unfold pbE; rw [if_pos h]; exact if_pos hv]
      exact (putBig_ok v k (by omega) (by omega) (Nat.div_eq_of_lt hv) w).mono fun e w' ⟨h1, h2, h3⟩ => ⟨_, _, h1, Rd.of_whole h2, h3⟩
    · rw [show pbN v k = 0 from if_neg fun hh => hv hh.2, show pbE v k = 2 from by unfold pbE; rw [if_pos h]; exact if_neg hv]
      exact (putBig_long v k (by omega) (by omega) (fun hz => hv (div_zero _ _ hz)) w).mono fun e w' ⟨h1, h2⟩ => ⟨_, _, h1, .inl rfl, h2 ▸ Below.refl _ _⟩
  · rw [show pbN v s = 0 from if_neg fun hh => h hh.1, show pbE v s = 1 from if_neg h]
    exact (putBig_arg v s (by omega) w).mono fun e w' ⟨h1, h2⟩ => ⟨_, _, h1, .inl rfl, h2 ▸ Below.refl _ _⟩

theorem putBig_ref_all (v : Nat) (s : Int) (hv64 : v < 18446744073709551616) (w : World) :
    Calls Try.prog 23 #[.int .u64 v, .int .i64 s] w fun e w' => ∃ A c, e = .returned (.tuple #[.slice A (pbN v s) c, .int .i64 (pbE v s)]) ∧ Rd w' A (pbN v s) (pbF v s) ∧ Below w.heap.size w w' := by
  by_cases h : 1 ≤ s ∧ s ≤ 8
  · obtain ⟨k, rfl⟩ : ∃ k : Nat, s = (k : Int) := ⟨s.toNat, by omega⟩
    by_cases hv : v < 2 ^ (8 * k)
    · rw [show pbN v k = k from if_pos ⟨h, hv⟩, show pbE v k = 0 from by unfold pbE; rw [if_pos h]; exact if_pos hv]
      exact (putBig_ref_ok v k (by omega) (by omega) hv64 hv w).mono fun e w' ⟨A, c, h1, h2, h3⟩ => ⟨A, c, h1, h2, h3⟩
    · rw [show pbN v k = 0 from if_neg fun hh => hv hh.2, show pbE v k = 2 from by unfold pbE; rw [if_pos h]; exact if_neg hv]
      exact (putBig_ref_long v k (by omega) (by omega) hv64 (fun hz => hv (div_zero _ _ hz)) w).mono fun e w' ⟨h1, h2⟩ => ⟨_, _, h1, .inl rfl, h2⟩
  · rw [show pbN v s = 0 from if_neg fun hh => h hh.1, show pbE v s = 1 from if_neg h]
    exact (putBig_ref_arg v s (by omega) w).mono fun e w' ⟨h1, h2⟩ => ⟨_, _, h1, .inl rfl, h2 ▸ Below.refl _ _⟩

set_option maxHeartbeats 1000000 in
theorem run (v x u : Nat) (s n : Int) (hv : v < 18446744073709551616) (hx : x < 4294967296) (hu : n % 32 = (u : Int)) (w : World) :
    Calls Try.prog 4 #[.int .u64 v, .int .i64 s, .int .u32 x, .int .i64 n] w fun e w' => e = .returned (.bool true) ∧ Below w.heap.size w w' := by
  have HU := Lib.hid hu
  clear hu
  go_enter Try.func4, Try.ntmps4
  go_wp2_with fail
  refine (put64_any v hv _).mono ?_
  rintro e w1 ⟨rfl, hb1⟩
  rw [byteCells_lit8]
  have HB1 := Lib.hid hb1
  clear hb1
  go_wp2_with fail
  refine (put32_any x hx _).mono ?_
  rintro e w2 ⟨rfl, hb2⟩
  rw [byteCells_lit4]
  have hq1 : Whole w2 w1.heap.size 33 (byteCells (byteAt v) 8).toArray := Whole.below (Whole.new w1 _ _) hb2 (by simp)
  have hw2 := below_new HB1.out hb2
  have HB2 := Lib.hid hw2
  have HQ1 := Lib.hid hq1
  clear hb2 hq1 hw2 HB1
  go_wp2_with fail
  rw [← byteCells_lit4]
  have hq2 : Rd (w2.alloc (.cells (byteCells (byteAt x) 4).toArray 35)) (some ⟨w2.heap.size, 0, none⟩) 4 (byteAt x) := Rd.of_whole (Whole.new w2 _ _)
  have hq1 : Rd (w2.alloc (.cells (byteCells (byteAt x) 4).toArray 35)) (some ⟨w1.heap.size, 0, none⟩) 8 (byteAt v) := Rd.of_whole (HQ1.out.alloc _)
  have hw := below_alloc HB2.out (.cells (byteCells (byteAt x) 4).toArray 35)
  generalize w2.alloc (.cells (byteCells (byteAt x) 4).toArray 35) = W0 at hq1 hq2 hw ⊢
  clear HB2 HQ1
  have HQ1 := Lib.hid hq1
  have HQ2 := Lib.hid hq2
  have HW := Lib.hid hw
  clear hq1 hq2 hw
  refine (putBig_all v s _).mono ?_
  rintro e w3 ⟨A, c, rfl, hr3, hb3⟩
  have HR3 := Lib.hid hr3
  have HB3 := Lib.hid hb3
  clear hr3 hb3
  go_wp2_with fail
  refine (putBig_ref_all v s hv _).mono ?_
  rintro e w4 ⟨A', c', rfl, hr4, hb4⟩
  have HB4 := Lib.hid (below_trans HB3.out hb4)
  have HR4 := Lib.hid hr4
  have HR5 := Lib.hid (HR3.out.below hb4 (Nat.le_refl _))
  have HQ3 := Lib.hid (HQ1.out.below HB4.out (Nat.le_refl _))
  have HQ4 := Lib.hid (HQ2.out.below HB4.out (Nat.le_refl _))
  have HW1 := Lib.hid (below_trans HW.out HB4.out)
  clear hr4 hb4 HR3 HQ1 HQ2 HW HB4 HB3
  go_wp2_with fail
  have hxw : IntKind.u64.wrap (x : Int) = (x : Int) := by rw [wrap64_nat, Nat.mod_eq_of_lt (by omega)]
  refine region_start (fun w' => Below w4.heap.size w4 w') (by kernel_rfl) (Below.drew (Below.refl _ _)) ?_
  intro w5 hS
  refine alone 0 rfl (by kernel_rfl) (by rfl) ?_
  intro K hK
  go_simp
  refine (alive_any _).mono ?_
  rintro e w6 ⟨rfl, hb⟩
  go_simp
  replace hS := below_trans hS hb
  refine hK.out _ _ hS ?_
  clear hK hb K
  try simp only [Act.put, List.setIfInBounds_toArray, List.set_cons_zero, List.set_cons_succ]
  refine take 1 _ rfl (by kernel_rfl) (by kernel_rfl) (by kernel_rfl) (fun _ _ _ h => h) (by rfl) hS (by intro w _; go_simp; with_reducible rfl) ?_
  try simp only [Act.put, List.setIfInBounds_toArray, List.set_cons_zero, List.set_cons_succ]
  refine take 2 _ rfl (by kernel_rfl) (by kernel_rfl) (by kernel_rfl) (fun _ _ _ h => h) (by rfl) hS (by intro w _; go_simp; with_reducible rfl) ?_
  try simp only [Act.put, List.setIfInBounds_toArray, List.set_cons_zero, List.set_cons_succ]
  refine take 3 _ rfl (by kernel_rfl) (by kernel_rfl) (by kernel_rfl) (fun _ _ _ h => h) (by rfl) hS (fun w hw => run_string_op 22 9 5 _ rfl rfl Try.underlying22 Try.underlying5 Try.underlying9 (HQ3.out.below hw (Nat.le_refl _))) ?_
  try simp only [Act.put, List.setIfInBounds_toArray, List.set_cons_zero, List.set_cons_succ]
  refine take 4 _ rfl (by kernel_rfl) (by kernel_rfl) (by kernel_rfl) (fun _ _ _ h => h) (by rfl) hS (by intro w _; go_simp; with_reducible rfl) ?_
  try simp only [Act.put, List.setIfInBounds_toArray, List.set_cons_zero, List.set_cons_succ]
  refine alone 5 rfl (by kernel_rfl) (by rfl) ?_
  intro K hK
  go_simp
  refine (bytes_any v 8 (by omega) hv _).mono ?_
  rintro e w7 ⟨A5, c5, rfl, ho, hb⟩
  go_simp
  replace hS := below_trans hS hb
  refine hK.out _ _ hS ?_
  clear hK hb K
  try simp only [Act.put, List.setIfInBounds_toArray, List.set_cons_zero, List.set_cons_succ]
  refine alone_run 6 _ rfl (by kernel_rfl) (by rfl) hS (run_string_op 22 9 5 _ rfl rfl Try.underlying22 Try.underlying5 Try.underlying9 (ho.rd)) ?_
  try simp only [Act.put, List.setIfInBounds_toArray, List.set_cons_zero, List.set_cons_succ]
  clear ho
  refine take 7 _ rfl (by kernel_rfl) (by kernel_rfl) (by kernel_rfl) (fun _ _ _ h => h) (by rfl) hS (by intro w _; go_simp; with_reducible rfl) ?_
  try simp only [Act.put, List.setIfInBounds_toArray, List.set_cons_zero, List.set_cons_succ]
  refine take 8 _ rfl (by kernel_rfl) (by kernel_rfl) (by kernel_rfl) (fun _ _ _ h => h) (by rfl) hS (by intro w _; go_simp; with_reducible rfl) ?_
  try simp only [Act.put, List.setIfInBounds_toArray, List.set_cons_zero, List.set_cons_succ]
  refine take 9 _ rfl (by kernel_rfl) (by kernel_rfl) (by kernel_rfl) (fun _ _ _ h => h) (by rfl) hS (by intro w _; go_simp; with_reducible rfl) ?_
  try simp only [Act.put, List.setIfInBounds_toArray, List.set_cons_zero, List.set_cons_succ]
  refine take 10 _ rfl (by kernel_rfl) (by kernel_rfl) (by kernel_rfl) (fun _ _ _ h => h) (by rfl) hS (by intro w _; go_simp; with_reducible rfl) ?_
  try simp only [Act.put, List.setIfInBounds_toArray, List.set_cons_zero, List.set_cons_succ]
  refine take 11 _ rfl (by kernel_rfl) (by kernel_rfl) (by kernel_rfl) (fun _ _ _ h => h) (by rfl) hS (fun w hw => run_string_op 22 9 5 _ rfl rfl Try.underlying22 Try.underlying5 Try.underlying9 (HQ4.out.below hw (Nat.le_refl _))) ?_
  try simp only [Act.put, List.setIfInBounds_toArray, List.set_cons_zero, List.set_cons_succ]
  refine take 12 _ rfl (by kernel_rfl) (by kernel_rfl) (by kernel_rfl) (fun _ _ _ h => h) (by rfl) hS (by intro w _; go_simp; with_reducible rfl) ?_
  try simp only [Act.put, List.setIfInBounds_toArray, List.set_cons_zero, List.set_cons_succ]
  refine take 13 _ rfl (by kernel_rfl) (by kernel_rfl) (by kernel_rfl) (fun _ _ _ h => h) (by rfl) hS (by intro w _; go_simp; with_reducible rfl) ?_
  try simp only [Act.put, List.setIfInBounds_toArray, List.set_cons_zero, List.set_cons_succ]
  refine alone 14 rfl (by kernel_rfl) (by rfl) ?_
  intro K hK
  go_simp
  refine (bytes_any x 4 (by omega) (by omega) _).mono ?_
  rintro e w8 ⟨A6, c6, rfl, ho, hb⟩
  go_simp
  replace hS := below_trans hS hb
  refine hK.out _ _ hS ?_
  clear hK hb K
  try simp only [Act.put, List.setIfInBounds_toArray, List.set_cons_zero, List.set_cons_succ]
  refine alone_run 15 _ rfl (by kernel_rfl) (by rfl) hS (run_string_op 22 9 5 _ rfl rfl Try.underlying22 Try.underlying5 Try.underlying9 (ho.rd)) ?_
  try simp only [Act.put, List.setIfInBounds_toArray, List.set_cons_zero, List.set_cons_succ]
  clear ho
  refine take 16 _ rfl (by kernel_rfl) (by kernel_rfl) (by kernel_rfl) (fun _ _ _ h => h) (by rfl) hS (by intro w _; go_simp; with_reducible rfl) ?_
  try simp only [Act.put, List.setIfInBounds_toArray, List.set_cons_zero, List.set_cons_succ]
  refine take 17 _ rfl (by kernel_rfl) (by kernel_rfl) (by kernel_rfl) (fun _ _ _ h => h) (by rfl) hS (by intro w _; go_simp; with_reducible rfl) ?_
  try simp only [Act.put, List.setIfInBounds_toArray, List.set_cons_zero, List.set_cons_succ]
  refine take 18 _ rfl (by kernel_rfl) (by kernel_rfl) (by kernel_rfl) (fun _ _ _ h => h) (by rfl) hS (by intro w _; go_simp; with_reducible rfl) ?_
  try simp only [Act.put, List.setIfInBounds_toArray, List.set_cons_zero, List.set_cons_succ]
  refine take 19 _ rfl (by kernel_rfl) (by kernel_rfl) (by kernel_rfl) (fun _ _ _ h => h) (by rfl) hS (by intro w _; go_simp; with_reducible rfl) ?_
  try simp only [Act.put, List.setIfInBounds_toArray, List.set_cons_zero, List.set_cons_succ]
  refine take 20 _ rfl (by kernel_rfl) (by kernel_rfl) (by kernel_rfl) (fun _ _ _ h => h) (by rfl) hS (fun w hw => run_string_op 22 9 5 _ rfl rfl Try.underlying22 Try.underlying5 Try.underlying9 (HR5.out.below hw (Nat.le_refl _))) ?_
  try simp only [Act.put, List.setIfInBounds_toArray, List.set_cons_zero, List.set_cons_succ]
  refine take 21 _ rfl (by kernel_rfl) (by kernel_rfl) (by kernel_rfl) (fun _ _ _ h => h) (by rfl) hS (by intro w _; go_simp; with_reducible rfl) ?_
  try simp only [Act.put, List.setIfInBounds_toArray, List.set_cons_zero, List.set_cons_succ]
  refine take 22 _ rfl (by kernel_rfl) (by kernel_rfl) (by kernel_rfl) (fun _ _ _ h => h) (by rfl) hS (fun w hw => run_string_op 22 9 5 _ rfl rfl Try.underlying22 Try.underlying5 Try.underlying9 (HR4.out.below hw (Nat.le_refl _))) ?_
  try simp only [Act.put, List.setIfInBounds_toArray, List.set_cons_zero, List.set_cons_succ]
  refine take 23 _ rfl (by kernel_rfl) (by kernel_rfl) (by kernel_rfl) (fun _ _ _ h => h) (by rfl) hS (by intro w _; go_simp; with_reducible rfl) ?_
  try simp only [Act.put, List.setIfInBounds_toArray, List.set_cons_zero, List.set_cons_succ]
  refine take 24 _ rfl (by kernel_rfl) (by kernel_rfl) (by kernel_rfl) (fun _ _ _ h => h) (by rfl) hS (by intro w _; go_simp; with_reducible rfl) ?_
  try simp only [Act.put, List.setIfInBounds_toArray, List.set_cons_zero, List.set_cons_succ]
  refine take 25 _ rfl (by kernel_rfl) (by kernel_rfl) (by kernel_rfl) (fun _ _ _ h => h) (by rfl) hS (by intro w _; go_simp; with_reducible rfl) ?_
  try simp only [Act.put, List.setIfInBounds_toArray, List.set_cons_zero, List.set_cons_succ]
  refine take 26 _ rfl (by kernel_rfl) (by kernel_rfl) (by kernel_rfl) (fun _ _ _ h => h) (by rfl) hS (by intro w _; go_simp; with_reducible rfl) ?_
  try simp only [Act.put, List.setIfInBounds_toArray, List.set_cons_zero, List.set_cons_succ]
  refine take 27 _ rfl (by kernel_rfl) (by kernel_rfl) (by kernel_rfl) (fun _ _ _ h => h) (by rfl) hS (by intro w _; go_simp; with_reducible rfl) ?_
  try simp only [Act.put, List.setIfInBounds_toArray, List.set_cons_zero, List.set_cons_succ]
  refine take 28 _ rfl (by kernel_rfl) (by kernel_rfl) (by kernel_rfl) (fun _ _ _ h => h) (by rfl) hS (by intro w _; go_simp; with_reducible rfl) ?_
  try simp only [Act.put, List.setIfInBounds_toArray, List.set_cons_zero, List.set_cons_succ]
  refine take 29 _ rfl (by kernel_rfl) (by kernel_rfl) (by kernel_rfl) (fun _ _ _ h => h) (by rfl) hS (by intro w _; go_simp; with_reducible rfl) ?_
  try simp only [Act.put, List.setIfInBounds_toArray, List.set_cons_zero, List.set_cons_succ]
  refine take 30 _ rfl (by kernel_rfl) (by kernel_rfl) (by kernel_rfl) (fun _ _ _ h => h) (by rfl) hS (by intro w _; go_simp; with_reducible rfl) ?_
  try simp only [Act.put, List.setIfInBounds_toArray, List.set_cons_zero, List.set_cons_succ]
  refine take 31 _ rfl (by kernel_rfl) (by kernel_rfl) (by kernel_rfl) (fun _ _ _ h => h) (by rfl) hS (by intro w _; go_simp; with_reducible rfl) ?_
  try simp only [Act.put, List.setIfInBounds_toArray, List.set_cons_zero, List.set_cons_succ]
  refine take 32 _ rfl (by kernel_rfl) (by kernel_rfl) (by kernel_rfl) (fun _ _ _ h => h) (by rfl) hS (by intro w _; go_simp; with_reducible rfl) ?_
  try simp only [Act.put, List.setIfInBounds_toArray, List.set_cons_zero, List.set_cons_succ]
  refine take 34 _ rfl (by kernel_rfl) (by kernel_rfl) (by kernel_rfl) (fun _ _ _ h => h) (by rfl) hS (by intro w _; go_simp; with_reducible rfl) ?_
  try simp only [Act.put, List.setIfInBounds_toArray, List.set_cons_zero, List.set_cons_succ]
  refine take 35 _ rfl (by kernel_rfl) (by kernel_rfl) (by kernel_rfl) (fun _ _ _ h => h) (by rfl) hS (by intro w _; go_simp; with_reducible rfl) ?_
  try simp only [Act.put, List.setIfInBounds_toArray, List.set_cons_zero, List.set_cons_succ]
  refine alone 33 rfl (by kernel_rfl) (by rfl) ?_
  intro K hK
  go_simp
  refine (rotate_any x u n HU.out hx _).mono ?_
  rintro e w9 ⟨rfl, k7, rfl⟩
  have hb := below_drewN (Below.refl w8.heap.size w8) k7
  go_simp
  replace hS := below_trans hS hb
  refine hK.out _ _ hS ?_
  clear hK hb K
  try simp only [Act.put, List.setIfInBounds_toArray, List.set_cons_zero, List.set_cons_succ]
  refine alone 36 rfl (by kernel_rfl) (by rfl) ?_
  intro K hK
  go_simp
  refine (rotate_ref x u n HU.out hx _).mono ?_
  rintro e w9 ⟨rfl, rfl⟩
  have hb := Below.refl (w8.drewN k7).heap.size (w8.drewN k7)
  go_simp
  replace hS := below_trans hS hb
  refine hK.out _ _ hS ?_
  clear hK hb K
  try simp only [Act.put, List.setIfInBounds_toArray, List.set_cons_zero, List.set_cons_succ]
  refine take 37 _ rfl (by kernel_rfl) (by kernel_rfl) (by kernel_rfl) (fun _ _ _ h => h) (by rfl) hS (by intro w _; go_simp; with_reducible rfl) ?_
  try simp only [Act.put, List.setIfInBounds_toArray, List.set_cons_zero, List.set_cons_succ]
  refine take 38 _ rfl (by kernel_rfl) (by kernel_rfl) (by kernel_rfl) (fun _ _ _ h => h) (by rfl) hS (by intro w _; go_simp; with_reducible rfl) ?_
  try simp only [Act.put, List.setIfInBounds_toArray, List.set_cons_zero, List.set_cons_succ]
  refine take 39 _ rfl (by kernel_rfl) (by kernel_rfl) (by kernel_rfl) (fun _ _ _ h => h) (by rfl) hS (by intro w _; go_simp; with_reducible rfl) ?_
  try simp only [Act.put, List.setIfInBounds_toArray, List.set_cons_zero, List.set_cons_succ]
  refine region_end (by kernel_rfl) ?_
  go_wp2
  go_ret
  exact ⟨rfl, below_trans HW1.out hS⟩

theorem walk (a0 a1 a2 a3 : Int) (w : World) (w0 : (Lit.int .u64 a0).wf = true) (_ : (Lit.int .i64 a1).wf = true) (w2 : (Lit.int .u32 a2).wf = true) (_ : (Lit.int .i64 a3).wf = true) :
    Calls Try.prog 4 #[.int .u64 a0, .int .i64 a1, .int .u32 a2, .int .i64 a3] w fun e w' => e = .returned (.bool true) ∧ Below w.heap.size w w' := by
  obtain ⟨v, rfl, hv⟩ := nat_u64 w0
  obtain ⟨x, rfl, hx⟩ := nat_u32 w2
  obtain ⟨u, hu⟩ : ∃ u : Nat, a3 % 32 = (u : Int) := ⟨(a3 % 32).toNat, by omega⟩
  exact run v x u a1 a3 hv hx hu w

end WordsPuts
end Go.Proofs.Ytmhmcdldfpnmbaa
