/- 'aditlaw01.WordsTurns' returns true at every input and writes nothing that was there: the walk. No condition. -/
import Derived.Test.YtmhmcdldfpnmbaaAliveOne
namespace Go.Proofs.Ytmhmcdldfpnmbaa
namespace WordsTurns
open Go.ChangeShapes Go.WideShapes Go.ChangeAt Go.RowKit
open Num Mem Words

theorem tmod_small (n : Int) : -1000 < n.tmod 1000 ∧ n.tmod 1000 < 1000 := by
  have := Int.natAbs_tmod n 1000
  rw [show (1000 : Int).natAbs = 1000 from rfl] at this
  omega

theorem run (v : Nat) (n m : Int) (hv : v < 2 ^ 32) (w : World) :
    Calls Try.prog 7 #[.int .u32 v, .int .i64 n, .int .i64 m] w fun e w' => e = .returned (.bool true) ∧ Below w.heap.size w w' := by
  go_enter Try.func7, Try.ntmps7
  go_wp2_with fail
  obtain ⟨N, hN, hN1, hN2⟩ : ∃ N, n.tmod 1000 = N ∧ -1000 < N ∧ N < 1000 := ⟨_, rfl, tmod_small n⟩
  obtain ⟨M, hM, hM1, hM2⟩ : ∃ M, m.tmod 1000 = M ∧ -1000 < M ∧ M < 1000 := ⟨_, rfl, tmod_small m⟩
  rw [hN, hM]
  clear hN hM
  obtain ⟨a, ha⟩ : ∃ a : Nat, N % 32 = (a : Int) := ⟨(N % 32).toNat, by omega⟩
  obtain ⟨b, hb⟩ : ∃ b : Nat, M % 32 = (b : Int) := ⟨(M % 32).toNat, by omega⟩
  obtain ⟨c, hc⟩ : ∃ c : Nat, (N + M) % 32 = (c : Int) := ⟨((N + M) % 32).toNat, by omega⟩
  obtain ⟨d, hd⟩ : ∃ d : Nat, (-N) % 32 = (d : Int) := ⟨((-N) % 32).toNat, by omega⟩
  have HA := Lib.hid ha
  have HB := Lib.hid hb
  have HC := Lib.hid hc
  have HD := Lib.hid hd
  have E1 := Lib.hid (rotl_rotl v a b c hv (by omega) (by omega) (by omega))
  have E2 := Lib.hid (rotl_rotl v a d 0 hv (by omega) (by omega) (by omega))
  have E3 := Lib.hid (rotl_zero v hv)
  have ha31 : a ≤ 31 := by omega
  clear ha hb hc hd
  refine (alive_any _).mono ?_
  rintro e w1 ⟨rfl, hb1⟩
  have HB1 := Lib.hid hb1
  clear hb1
  go_wp2_with fail
  refine (rotate_any v a N HA.out hv _).mono ?_
  rintro e w2 ⟨rfl, k2, rfl⟩
  go_wp2_with fail
  refine (rotate_any (rotl v a) b M HB.out (rotl_lt v a hv ha31) _).mono ?_
  rintro e w2 ⟨rfl, k3, rfl⟩
  rw [E1.out]
  go_wp2_with fail
  refine (rotate_any v c (N + M) HC.out hv _).mono ?_
  rintro e w2 ⟨rfl, k4, rfl⟩
  go_wp2_with fail
  refine (rotate_any v 0 32 (by decide) hv _).mono ?_
  rintro e w2 ⟨rfl, k5, rfl⟩
  rw [E3.out]
  go_wp2_with fail
  refine (rotate_any v a N HA.out hv _).mono ?_
  rintro e w2 ⟨rfl, k6, rfl⟩
  go_wp2_with fail
  refine (rotate_any (rotl v a) d (-N) HD.out (rotl_lt v a hv ha31) _).mono ?_
  rintro e w2 ⟨rfl, k7, rfl⟩
  rw [E2.out, E3.out]
  go_wp2_with fail
  refine (rotate_any v 0 0 (by decide) hv _).mono ?_
  rintro e w2 ⟨rfl, k8, rfl⟩
  rw [E3.out]
  go_wp2_with fail
  go_ret
  exact ⟨rfl, below_drewN HB1.out _⟩

theorem walk (a0 a1 a2 : Int) (w : World) (w0 : (Lit.int .u32 a0).wf = true) (_ : (Lit.int .i64 a1).wf = true) (_ : (Lit.int .i64 a2).wf = true) :
    Calls Try.prog 7 #[.int .u32 a0, .int .i64 a1, .int .i64 a2] w fun e w' => e = .returned (.bool true) ∧ Below w.heap.size w w' := by
  obtain ⟨v, rfl, hv⟩ := nat_u32 w0
  exact run v a1 a2 hv w

end WordsTurns
end Go.Proofs.Ytmhmcdldfpnmbaa
