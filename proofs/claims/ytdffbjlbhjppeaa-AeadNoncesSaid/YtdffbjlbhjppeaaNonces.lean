/- 'aditlaw04.AeadNonces' returns true at every input and writes nothing that was there: the walk. No condition. -/
import Derived.Test.YtdffbjlbhjppeaaAliveFour
namespace Go.Proofs.Ytdffbjlbhjppeaa
namespace AeadNonces
open Go.ChangeShapes Go.WideShapes Go.ChangeAt Go.RowKit
open Num Mem Words State PolyN Chacha Quiet Poly Ref Aead

theorem bn_one {v u : Nat} (hv : v < 18446744073709551616) (hu : u < 18446744073709551616) : (∀ i, i < 12 → bn (byteAt v) i = bn (byteAt u) i) ↔ v = u := by
  constructor
  · intro h
    have e : ∀ i, i < 8 → byteAt v i = byteAt u i := fun i hi => by
      have := h (4 + i) (by omega)
      unfold bn at this
      rwa [if_pos (by omega), if_pos (by omega), Nat.add_sub_cancel_left] at this
    have h1 := le_byteAt v 8 (by omega)
    have h2 := le_byteAt u 8 (by omega)
    rw [le_congr 8 (g := byteAt u) (fun i hi => by rw [Nat.zero_add]; exact e i hi)] at h1
    exact h1.symm.trans h2
  · rintro rfl _ _
    rfl

set_option maxRecDepth 100000 in
theorem walk (a0 a1 : Int) (w : World) (w0 : (Lit.int .u64 a0).wf = true) (w1 : (Lit.int .u64 a1).wf = true) :
    Calls Try.prog 12 #[.int .u64 a0, .int .u64 a1] w fun e w' => e = .returned (.bool true) ∧ Below w.heap.size w w' := by
  obtain ⟨v, rfl, hv⟩ := nat_u64 w0
  obtain ⟨u, rfl, hu⟩ := nat_u64 w1
  obtain ⟨r, hr⟩ : ∃ r : Bool, r = true ↔ v = u := ⟨decide (v = u), by simp⟩
  have E1 := Lib.hid (show ∀ w, (Op.equalIn 10000 41 (.agg (byteCells (bn (byteAt v)) 12).toArray) (.agg (byteCells (bn (byteAt u)) 12).toArray)).run Try.prog w = .ok r w from fun w =>
    run_eql_arr (P := Try.prog) 41 5 12 Try.underlying41 Try.underlying5 size_u8 _ _ (bn_lt (fun i => byteAt_lt _ _)) (bn_lt (fun i => byteAt_lt _ _)) r (by rw [hr]; exact (bn_one hv hu).symm) w)
  have hd : ((v : Int) == (u : Int)) = r := by
    rw [Bool.eq_iff_iff, hr, beq_iff_eq]
    omega
  clear hr
  go_enter Try.func12, Try.ntmps12
  go_wp2_with fail
  refine (Aead.alive_any _).mono ?_
  rintro e w1 ⟨rfl, hb1⟩
  have HB := Lib.hid hb1
  clear hb1
  go_wp2_with fail
  refine (counter_any v hv _).mono ?_
  rintro e w2 ⟨rfl, hb2⟩
  have HB2 := Lib.hid (below_trans HB.out hb2)
  clear hb2 HB
  go_wp2_with fail
  refine (counter_any u hu _).mono ?_
  rintro e w3 ⟨rfl, hb3⟩
  have HB3 := Lib.hid (below_trans HB2.out hb3)
  clear hb3 HB2
  go_wp2_with (simp only [E1.out, Result.andThen_ok])
  rcases r with _ | _
  · go_ret
    exact ⟨rfl, HB3.out⟩
  · go_ret
    exact ⟨rfl, HB3.out⟩

end AeadNonces
end Go.Proofs.Ytdffbjlbhjppeaa
