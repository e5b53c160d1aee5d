/- 'aditlaw01.WordsBack' returns true at every input and writes nothing that was there: the walk. No condition. -/
import Derived.Test.YtmhmcdldfpnmbaaAliveOne
namespace Go.Proofs.Ytmhmcdldfpnmbaa
namespace WordsBack
open Go.ChangeShapes Go.WideShapes Go.ChangeAt Go.RowKit
open Num Mem Words

theorem run (v x : Nat) (s : Int) (hv : v < 18446744073709551616) (hx : x < 4294967296) (w : World) :
    Calls Try.prog 6 #[.int .u64 v, .int .u32 x, .int .i64 s] w fun e w' => e = .returned (.bool true) ∧ Below w.heap.size w w' := by
  go_enter Try.func6, Try.ntmps6
  go_wp2_with fail
  refine (put64_any v hv _).mono ?_
  rintro e w1 ⟨rfl, hb1⟩
  rw [byteCells_lit8]
  have HB1 := Lib.hid hb1
  clear hb1
  go_wp2_with fail
  refine (put32_any x hx _).mono ?_
  rintro e w2 ⟨rfl, hb2⟩
  rw [byteCells_lit4]
  have HB2 := Lib.hid hb2
  have hs2 := hb2.size
  have hq : Whole w2 w1.heap.size 33 (byteCells (byteAt v) 8).toArray := Whole.below (Whole.new w1 _ _) hb2 (by simp)
  have HQ := Lib.hid hq
  clear hb2 hq
  go_wp2_with fail
  refine (load64_ok w1.heap.size 0 8 8 (byteAt v) (byteAt_lt v) 0 (by omega) (by omega) _ (HQ.out.alloc _).bytes).mono ?_
  rintro e w3 ⟨rfl, rfl⟩
  rw [le_byteAt v 8 hv]
  go_wp2_with fail
  refine (load32_ok w2.heap.size 0 4 4 (byteAt x) (byteAt_lt x) 0 (by omega) (by omega) _ (Whole.bytes (f := byteAt x) (Whole.new w2 _ _))).mono ?_
  rintro e w3 ⟨rfl, rfl⟩
  rw [le_byteAt x 4 hx]
  go_wp2_with fail
  have hw0 : Below w.heap.size w (w2.alloc (Obj.cells (byteCells (byteAt x) 4).toArray 35)) := below_alloc (below_new HB1.out HB2.out) _
  generalize w2.alloc (Obj.cells (byteCells (byteAt x) 4).toArray 35) = W0 at hw0 ⊢
  have HW := Lib.hid hw0
  clear hw0 hs2 HQ HB2 HB1
  by_cases hs : s < 1 ∨ 8 < s
  · refine (putBig_arg v s hs _).mono ?_
    rintro e w3 ⟨rfl, rfl⟩
    go_wp2_with fail
    refine (alive_any _).mono ?_
    rintro e w4 ⟨rfl, hb4⟩
    have HB4 := Lib.hid hb4
    clear hb4
    go_wp2_with fail
    go_ret
    exact ⟨rfl, below_trans HW.out HB4.out⟩
  · obtain ⟨k, rfl, hk1, hk8⟩ : ∃ k : Nat, s = (k : Int) ∧ 1 ≤ k ∧ k ≤ 8 := ⟨s.toNat, by omega, by omega, by omega⟩
    clear hs
    by_cases hl : v / 2 ^ (8 * k) = 0
    · have hlt : v < 2 ^ (8 * k) := by
        rcases Nat.lt_or_ge v (2 ^ (8 * k)) with h | h
        · exact h
        · exact absurd hl (Nat.ne_of_gt (Nat.div_pos h (Nat.two_pow_pos _)))
      have HL := Lib.hid hl
      have HLT := Lib.hid hlt
      clear hl hlt
      refine (putBig_ok v k hk1 hk8 HL.out _).mono ?_
      rintro e w3 ⟨rfl, hq3, hb3⟩
      have HB3 := Lib.hid hb3
      have HQ3 := Lib.hid hq3
      clear hb3 hq3
      go_wp2_with fail
      refine (big_ok W0.heap.size 0 k k (fun i => byteAt v (k - 1 - i)) (fun i => byteAt_lt v _) 0 k hk1 hk8 (by omega) (by omega) _ (Whole.bytes (f := fun i => byteAt v (k - 1 - i)) HQ3.out)).mono ?_
      rintro e w4 ⟨rfl, rfl⟩
      rw [be_byteAt v k HLT.out]
      go_wp2_with fail
      refine (alive_any _).mono ?_
      rintro e w4 ⟨rfl, hb4⟩
      have HB4 := Lib.hid hb4
      clear hb4
      go_wp2_with fail
      go_ret
      exact ⟨rfl, below_trans (below_trans HW.out HB3.out) HB4.out⟩
    · have HL := Lib.hid hl
      clear hl
      refine (putBig_long v k hk1 hk8 HL.out _).mono ?_
      rintro e w3 ⟨rfl, rfl⟩
      go_wp2_with fail
      refine (alive_any _).mono ?_
      rintro e w4 ⟨rfl, hb4⟩
      have HB4 := Lib.hid hb4
      clear hb4
      go_wp2_with fail
      go_ret
      exact ⟨rfl, below_trans HW.out HB4.out⟩

theorem walk (a0 a1 a2 : Int) (w : World) (w0 : (Lit.int .u64 a0).wf = true) (w1 : (Lit.int .u32 a1).wf = true) (_ : (Lit.int .i64 a2).wf = true) :
    Calls Try.prog 6 #[.int .u64 a0, .int .u32 a1, .int .i64 a2] w fun e w' => e = .returned (.bool true) ∧ Below w.heap.size w w' := by
  obtain ⟨v, rfl, hv⟩ := nat_u64 w0
  obtain ⟨x, rfl, hx⟩ := nat_u32 w1
  exact run v x a2 hv hx w

end WordsBack
end Go.Proofs.Ytmhmcdldfpnmbaa
