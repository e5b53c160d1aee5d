/- Package aditlaw21: alive. -/
import Derived.Test.YtgbahkkccpcadaaWhEq
namespace Go.Proofs.Ytgbahkkccpcadaa
namespace Wh
open Go.ChangeShapes Go.WideShapes Go.ChangeAt Go.RowKit Go.Maps
open Num Mem Words Chacha Aead Poly Quiet RowV RowS Ops EqLits Stamp

theorem WW.tight {w : World} {F : Nat → Prop} {g : Nat} {now : Int} {T : List Tm} (h : WW w F g now T) : WW w (fun i => F i ∧ i < w.heap.size) g now T := h.mono fun _ h1 h2 => ⟨h2, h1⟩
theorem ok_small {a : Int} (h0 : 0 ≤ a) (h1 : a ≤ 100) : okI a := okI_of (by omega) (by omega)
def one5 : Tm := ⟨1, 2, 5⟩
set_option maxRecDepth 100000 in
set_option maxHeartbeats 2000000 in
theorem alive_ok (w : World) : Calls Try.prog 8 #[] w fun e w' => e = .returned (.bool true) ∧ Below w.heap.size w w' := by
  have HN := Lib.hid (new_any 0 ⟨by omega, by omega⟩ w)
  go_enter Try.func8, Try.ntmps8
  go_wp2_with fail
  refine HN.out.mono ?_
  rintro e w1 ⟨g, rfl, hb1, hw1⟩
  have HB1 := Lib.hid hb1
  have HS := Lib.hid (set_ok hw1 1 2 5 (by omega) (by omega) (ok_small (by omega) (by omega)) (ok_small (by omega) (by omega)) (by omega) (by omega) ⟨by omega, by omega⟩ (by omega) (by intro _; simp))
  clear hb1 hw1 HN
  go_wp2_with fail
  refine HS.out.mono ?_
  rintro e w2 ⟨rfl, hw2, hk2⟩
  have hw2' := hw2.tight
  have HB2 := Lib.hid (show Below w.heap.size w w2 from HB1.out.trans ⟨hk2.os, hk2.tape, hk2.output, hk2.size, fun i hi => hk2.block i (Nat.lt_of_lt_of_le hi HB1.out.size) (fun h => by have h : w.heap.size ≤ i := h; omega)⟩)
  have HF2 := Lib.hid (show ∀ i, ext (fun i => w.heap.size ≤ i) w1 i ∧ i < w2.heap.size → w.heap.size ≤ i from fun i h => by rcases h.1 with h | h; exact h; exact Nat.le_trans HB1.out.size h)
  have HA := Lib.hid (advance_any hw2' (fun i h => h.2) 4 ⟨by omega, by omega⟩ (by omega))
  clear hw2 hk2 hw2' HS HB1
  go_wp2_with fail
  refine HA.out.mono ?_
  rintro e w3 ⟨E, R, A, c, rfl, hER, hE, hR, _, hw3, hk3, hn3⟩
  have hE0 : E = [] := by
    rcases E with _ | ⟨x, E⟩
    · rfl
    · have h : x = one5 := by injection hER with h _; exact h.symm
      have := hE x List.mem_cons_self
      rw [h] at this
      exact absurd this (by decide)
  subst hE0
  obtain ⟨rfl, rfl⟩ := hn3 rfl
  have hR1 : R = [one5] := hER.symm
  subst hR1
  have HB3 := Lib.hid (show Below w.heap.size w w3 from HB2.out.trans ⟨hk3.os, hk3.tape, hk3.output, hk3.size, fun i hi => hk3.block i (Nat.lt_of_lt_of_le hi HB2.out.size) (fun h => by have := HF2.out i h; omega)⟩)
  have HA2 := Lib.hid (advance_any hw3.tight (fun i h => h.2) 5 ⟨by omega, by omega⟩ (by omega))
  have HF3 := Lib.hid (show ∀ i, (ext (fun i => w.heap.size ≤ i) w1 i ∧ i < w2.heap.size) ∧ i < w3.heap.size → w.heap.size ≤ i from fun i h => HF2.out i h.1)
  clear hER hE hR hw3 hk3 hn3 HA HB2 HF2
  go_wp2_with fail
  refine HA2.out.mono ?_
  rintro e w4 ⟨E, R, A, c, rfl, hER, hE, hR, hro, hw4, hk4, _⟩
  have hE1 : E = [one5] ∧ R = [] := by
    rcases E with _ | ⟨x, E⟩
    · have h : R = [one5] := hER.symm
      subst h
      exact absurd (hR one5 List.mem_cons_self) (by decide)
    · injection hER with h1 h2
      have h3 := List.append_eq_nil_iff.1 h2.symm
      exact ⟨by rw [h3.1, ← h1], h3.2⟩
  obtain ⟨rfl, rfl⟩ := hE1
  obtain ⟨gq, rfl, hgq, hrg⟩ := RowT.at (show RowT w4 w3.heap.size A c [one5] from hro) (k := 0) (x := one5) rfl
  rw [Nat.zero_mul] at hrg
  have HRG := Lib.hid hrg
  have HB4 := Lib.hid (show Below w.heap.size w w4 from HB3.out.trans ⟨hk4.os, hk4.tape, hk4.output, hk4.size, fun i hi => hk4.block i (Nat.lt_of_lt_of_le hi HB3.out.size) (fun h => by have := HF3.out i h; omega)⟩)
  have HSB := Lib.hid (set_bad hw4 1 2 4 (.inr (.inl (by omega))))
  have HNW := Lib.hid (now_any hw4)
  have HEQ := Lib.hid (fun w => eqin_tm 9997 one5 one5 w)
  clear hER hE hR hro hw4 hk4 HA2 HB3 HF3 hgq hrg
  go_wp2_with (first | (refine Ops.wpList_load_mid_if (by rfl) 38 (.tmp 48) rfl gq 0 rfl (tmL one5) _ HRG.out rfl rfl (by kernel_rfl) ?_) | (refine Ops.wpList_value_if (by rfl) (.bool true) (Ops.run_eql_op 38 (.tmp 49) (.tmp 50) 38 rfl (tmL one5).toArray (tmL one5).toArray rfl rfl true (by kernel_rfl) (fun w => HEQ.out w) _) ?_))
  refine HSB.out.mono ?_
  rintro e w5 ⟨rfl, rfl⟩
  go_wp2_with fail
  refine HNW.out.mono ?_
  rintro e w5 ⟨rfl, rfl⟩
  go_wp2_with fail
  go_ret
  exact ⟨rfl, HB4.out⟩
end Wh
end Go.Proofs.Ytgbahkkccpcadaa
