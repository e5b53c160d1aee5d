/- The calls of package stamp, each by what it answers: Right, Write, Read, After, Later, Span. -/
import Derived.Test.YthjmbfhakccomaaStampNum
import Derived.Test.YthjmbfhakccomaaBehind
namespace Go.Proofs.Ythjmbfhakccomaa
namespace Stamp
open Go.ChangeShapes Go.WideShapes Go.ChangeAt Go.RowKit
open Num Mem Words Chacha Aead

set_option maxRecDepth 100000 in
theorem right_any (t : Int) (b : Bool) (hb : b = true ↔ right t) (w : World) : Calls Try.prog 16 #[.int .i64 t] w fun e w' => e = .returned (.bool b) ∧ w = w' := by
  by_cases h1 : 0 ≤ t
  · have d1 : decide (0 ≤ t) = true := decide_eq_true h1
    by_cases h2 : t ≤ 1099511627776
    · have d2 : decide (t ≤ 1099511627776) = true := decide_eq_true h2
      obtain rfl : b = true := hb.2 ⟨h1, h2⟩
      clear hb
      go_enter Try.func16, Try.ntmps16
      go_wp2_with fail
      go_ret
      exact ⟨rfl, rfl⟩
    · have d2 : decide (t ≤ 1099511627776) = false := decide_eq_false h2
      obtain rfl : b = false := by
        rcases b with _ | _
        · rfl
        · exact absurd (hb.1 rfl).2 h2
      clear hb
      go_enter Try.func16, Try.ntmps16
      go_wp2_with fail
      go_ret
      exact ⟨rfl, rfl⟩
  · have d1 : decide (0 ≤ t) = false := decide_eq_false h1
    obtain rfl : b = false := by
      rcases b with _ | _
      · rfl
      · exact absurd (hb.1 rfl).1 h1
    clear hb
    go_enter Try.func16, Try.ntmps16
    go_wp2_with fail
    go_ret
    exact ⟨rfl, rfl⟩

theorem zeros_built : Try.prog.built 22 [] = some (byteCells (fun _ => 0) 12).toArray := by kernel_rfl

set_option maxRecDepth 100000 in
theorem write_no (t : Int) (h : ¬ right t) (w : World) : Calls Try.prog 11 #[.int .i64 t] w fun e w' => e = .returned (.tuple #[.agg (byteCells (fun _ => 0) 12).toArray, .int .i64 1]) ∧ Below w.heap.size w w' := by
  go_enter Try.func11, Try.ntmps11
  go_wp2_with fail
  refine (right_any t false ⟨fun e => (by cases e), fun k => absurd k h⟩ _).mono ?_
  rintro e w1 ⟨rfl, rfl⟩
  go_wp2_with fail
  have hret : Whole (w.alloc (.cells (byteCells (fun _ => 0) 12).toArray 22)) w.heap.size 22 (byteCells (fun _ => 0) 12).toArray := Whole.new _ _ _
  refine bodyPost_ret (Poly.results_cell_tmp rfl _ _ w.heap.size 22 _ _ rfl hret rfl rfl (by rw [byteCells_length]; kernel_rfl)) rfl ?_
  exact ⟨rfl, below_alloc (Below.refl _ _) _⟩

set_option maxRecDepth 100000 in
theorem write_ok (t : Nat) (h : t ≤ 1099511627776) (w : World) : Calls Try.prog 11 #[.int .i64 t] w fun e w' => e = .returned (.tuple #[.agg (byteCells (label t) 12).toArray, .int .i64 0]) ∧ Below w.heap.size w w' := by
  have HZ12 := Lib.hid (show ∀ f, (byteCells f 12).toArray.size = 12 from fun f => by rw [List.size_toArray, byteCells_length])
  have HS := Lib.hid (show 4611686018427387914 + (t : Int) / 1000 = ((secs t : Nat) : Int) from by unfold secs; omega)
  have HL := Lib.hid (show (t : Int) % 1000 * 1000000 = ((left t : Nat) : Int) from by unfold left; omega)
  have ls : secs t / 2 ^ (8 * 8) = 0 := by unfold secs; omega
  have ll : left t / 2 ^ (8 * 4) = 0 := by unfold left; omega
  go_enter Try.func11, Try.ntmps11
  go_upto_region 1 with fail
  refine cut_world (fun W => Whole W w.heap.size 22 (byteCells (fun _ => 0) 12).toArray ∧ Below w.heap.size w W) ⟨whole_new _ _ rfl, below_alloc (Below.refl _ _) _⟩ ?_
  rintro W ⟨k1, kb⟩
  have K1 := Lib.hid k1
  have KB := Lib.hid kb
  have hl1 := k1.lt
  clear k1 kb
  generalize hB : w.heap.size = B at K1 KB hl1 ⊢
  go_wp2_with fail
  refine (right_any t true ⟨fun _ => ⟨by omega, by omega⟩, fun _ => rfl⟩ _).mono ?_
  rintro e w1 ⟨rfl, rfl⟩
  go_wp2_with fail
  rw [HS.out]
  refine (putBig_ok (secs t) 8 (by omega) (by omega) ls _).mono ?_
  rintro e w1 ⟨rfl, q1, hb1⟩
  have L1 := Lib.hid (K1.out.below hb1 K1.out.lt)
  have LB := Lib.hid (KB.out.trans (hb1.mono (by omega)))
  have Q1 := Lib.hid q1
  have hs1 := hb1.size
  clear q1 hb1 K1 KB
  generalize hG : W.heap.size = G at Q1 hl1 hs1 ⊢
  go_wp2_with fail
  rw [HL.out]
  refine (putBig_ok (left t) 4 (by omega) (by omega) ll _).mono ?_
  rintro e w2 ⟨rfl, q2, hb2⟩
  have K1 := Lib.hid (L1.out.below hb2 L1.out.lt)
  have KB := Lib.hid (LB.out.trans (hb2.mono (by omega)))
  have P1 := Lib.hid (Q1.out.below hb2 Q1.out.lt)
  have P2 := Lib.hid q2
  have hl2 := Q1.out.lt
  have hs2 := q2.lt
  clear q2 hb2 L1 LB Q1
  generalize hH : w1.heap.size = H at P2 hl2 hs2 ⊢
  clear hG hH
  go_upto_region 6 with fail
  refine cut_world (fun W => Whole W B 22 (byteCells (fun _ => 0) 12).toArray ∧ Whole W G 5 (byteCells (fun i => byteAt (secs t) (8 - 1 - i)) 8).toArray ∧ Whole W H 5 (byteCells (fun i => byteAt (left t) (4 - 1 - i)) 4).toArray ∧ Whole W w2.heap.size 22 (byteCells (fun _ => 0) 12).toArray ∧ Below B w W) ⟨K1.out.alloc _, P1.out.alloc _, P2.out.alloc _, whole_new _ _ rfl, KB.out.alloc (by omega) _⟩ ?_
  rintro W3 ⟨k1, k2, k3, k4, kb⟩
  have N1 := Lib.hid k1
  have N2 := Lib.hid k2
  have N3 := Lib.hid k3
  have N4 := Lib.hid k4
  have NB := Lib.hid kb
  have S2 := Lib.hid (rd_src (fun i hi => k2.bytes i hi))
  clear k1 k2 k3 k4 kb K1 KB P1 P2
  generalize w2.heap.size = L at N4 hs2 ⊢
  go_upto_region 7 with (refine wpList_copy rfl (.tmp 29) (.tmp 30) 26 26 rfl 5 rfl (by kernel_rfl) L 0 8 12 ⟨G, 0, none⟩ 8 8 rfl rfl (byteCells (fun _ => 0) 12) 22 N4.out (byteCells (fun i => byteAt (secs t) (8 - 1 - i)) 8) (by rw [byteCells_length]; rfl) S2.out (by rw [byteCells_length, byteCells_length]; omega) (bytes_each _ _) ?_; intro w8 hg8 hb8)
  have M4 := Lib.hid (show Whole w8 L 22 (byteCells (fun i => if i < 8 then byteAt (secs t) (7 - i) else 0) 12).toArray from by
    have h := hg8.out
    rw [byteCells_splice (fun _ => 0) _ (fun i => if i < 8 then byteAt (secs t) (7 - i) else 0) 12 0 8 (by omega) (fun i hi => by
      by_cases l : i < 8
      · rw [if_pos l, if_pos ⟨by omega, by omega⟩, Nat.sub_zero]
      · rw [if_neg l, if_neg (by omega)])] at h
    exact h)
  have M1 := Lib.hid (whole_grown N1.out hb8 (by omega))
  have M3 := Lib.hid (whole_grown N3.out hb8 (by omega))
  have MB := Lib.hid (below_grown NB.out hb8 (by omega) (by have := N1.out.lt; omega))
  have S3 := Lib.hid (rd_src (fun i hi => M3.out.bytes i hi))
  clear hg8 hb8 N1 N2 N3 N4 NB S2
  go_upto_region 8 with (refine wpList_copy rfl (.tmp 32) (.tmp 33) 26 26 rfl 5 rfl (by kernel_rfl) L 8 4 4 ⟨H, 0, none⟩ 4 4 rfl rfl (byteCells (fun i => if i < 8 then byteAt (secs t) (7 - i) else 0) 12) 22 M4.out (byteCells (fun i => byteAt (left t) (4 - 1 - i)) 4) (by rw [byteCells_length]; rfl) S3.out (by rw [byteCells_length, byteCells_length]; omega) (bytes_each _ _) ?_; intro w9 hg9 hb9)
  have J4 := Lib.hid (show Whole w9 L 22 (byteCells (label t) 12).toArray from by
    have h := hg9.out
    rw [byteCells_splice _ _ (label t) 12 8 4 (by omega) (fun i hi => by
      unfold label
      by_cases l : i < 8
      · rw [if_pos l, if_neg (by omega), if_pos l]
      · rw [if_neg l, if_pos ⟨by omega, by omega⟩]
        congr 1
        omega)] at h
    exact h)
  have J1 := Lib.hid (whole_grown M1.out hb9 (by omega))
  have JB := Lib.hid (below_grown MB.out hb9 (by omega) (by have := M1.out.lt; omega))
  clear hg9 hb9 M1 M3 M4 MB S3
  go_wp2_with (first | (refine wpList_load_row rfl 22 (.tmp 8) rfl L rfl 22 (byteCells (label t) 12).toArray (0, 0) _ J4.out rfl rfl (by rw [HZ12.out]; kernel_rfl) ?_) | (refine wpList_store_row rfl 22 (.tmp 2) (.tmp 35) rfl B (byteCells (label t) 12).toArray rfl rfl 22 _ J1.out (by rw [HZ12.out]; kernel_rfl) (by rw [HZ12.out, HZ12.out]) (bytes_one _ _) ?_))
  have hret : Whole (w9.setRow B (byteCells (label t) 12).toArray) B 22 (byteCells (label t) 12).toArray := setRow_heap w9 _ _ _ _ _ J1.out
  refine bodyPost_ret (Poly.results_cell_tmp rfl _ _ B 22 _ _ rfl hret rfl rfl (by rw [byteCells_length]; kernel_rfl)) rfl ?_
  exact ⟨rfl, by rw [hB]; exact below_setRow JB.out (by omega) _⟩

/-- Write, whatever the number -/
theorem write_any (t : Int) (w : World) : Calls Try.prog 11 #[.int .i64 t] w fun e w' => e = .returned (.tuple #[.agg (byteCells (wF t) 12).toArray, .int .i64 (wE t : Nat)]) ∧ Below w.heap.size w w' := by
  by_cases h : right t
  · obtain ⟨n, rfl⟩ : ∃ n : Nat, t = (n : Int) := ⟨t.toNat, by have := h.1; omega⟩
    have e1 : wF (n : Int) = label n := by
      funext i
      unfold wF
      rw [if_pos h]
      rfl
    have e2 : wE (n : Int) = 0 := by unfold wE; rw [if_pos h]
    rw [e1, e2]
    exact write_ok n (by have := h.2; omega) w
  · have e1 : wF t = fun _ => 0 := by
      funext i
      unfold wF
      rw [if_neg h]
    have e2 : wE t = 1 := by unfold wE; rw [if_neg h]
    rw [e1, e2]
    exact write_no t h w

end Stamp
end Go.Proofs.Ythjmbfhakccomaa
