/- 'aditlaw07.BlakeSizes' returns true at every input and writes nothing that was there: the walk. The condition: the tables read as the program's text lays them. -/
import Derived.Test.YtljepgddmfelpaaDoorBlakeAlive
namespace Go.Proofs.YtljepgddmfelpaaDoor
namespace BlakeSizes
open Go.ChangeShapes Go.WideShapes Go.ChangeAt Go.RowKit
open Num Mem Words State Chacha Quiet Blake

theorem nil_string (w : World) : (convert 22 9 (.slice none 0 0)).run Tryd.prog w = .ok (.string ByteArray.empty) w :=
  run_convert_bytes_nil w 22 5 Tryd.underlying22 Tryd.underlying5 0 0 9 Tryd.underlying9

set_option maxRecDepth 100000 in
set_option maxHeartbeats 1000000 in
theorem run (size : Int) (A : Option Addr) (k c : Nat) (key : Nat → Nat) (hkey : ∀ i, key i < 256) (A2 : Option Addr) (n c2 : Nat) (f : Nat → Nat) (hf : ∀ i, f i < 256) (hc2 : n ≤ c2) (w : World) (hL : Laid w) (hA : Rd w A k key) (hA2 : Rd w A2 n f) :
    Calls Tryd.prog 7 #[.int .i64 size, .slice A k c, .slice A2 n c2] w fun e w' => e = .returned (.bool true) ∧ Below w.heap.size w w' := by
  have HL := Lib.hid hL
  have HA := Lib.hid hA
  have HA2 := Lib.hid hA2
  have HF := Lib.hid hf
  have HK := Lib.hid hkey
  clear hL hA hA2 hf hkey
  by_cases h1 : 3000 < n
  · have d : decide ((3000 : Int) < (n : Int)) = true := decide_eq_true (by omega)
    go_enter Tryd.func7, Tryd.ntmps7
    go_wp2_with fail
    refine (alive_any _ HL.out).mono ?_
    rintro e w1 ⟨rfl, hb⟩
    go_wp2_with fail
    go_ret
    exact ⟨rfl, hb⟩
  have d : decide ((3000 : Int) < (n : Int)) = false := decide_eq_false (by omega)
  by_cases h2 : 100 < k
  · have d2 : decide ((100 : Int) < (k : Int)) = true := decide_eq_true (by omega)
    go_enter Tryd.func7, Tryd.ntmps7
    go_wp2_with fail
    refine (alive_any _ HL.out).mono ?_
    rintro e w1 ⟨rfl, hb⟩
    go_wp2_with fail
    go_ret
    exact ⟨rfl, hb⟩
  have d2 : decide ((100 : Int) < (k : Int)) = false := decide_eq_false (by omega)
  by_cases hr : 1 ≤ size ∧ size ≤ 32
  · obtain ⟨s, rfl⟩ : ∃ s : Nat, size = (s : Int) := ⟨size.toNat, by omega⟩
    have r1 : decide ((1 : Int) ≤ (s : Int)) = true := decide_eq_true (by omega)
    have r2 : decide ((s : Int) ≤ (32 : Int)) = true := decide_eq_true (by omega)
    have C := Lib.hid (fun (A : Option Addr) (k c : Nat) (key : Nat → Nat) (hk : k ≤ 32) (hkey : ∀ i, key i < 256) => sum_ok s A A2 k c n c2 key f (by omega) (by omega) hk hkey HF.out (by omega) hc2)
    obtain ⟨F, hFe⟩ : ∃ F, digest s (fun _ => 0) 0 f n = F := ⟨_, rfl⟩
    have HFE := Lib.hid hFe
    clear hFe
    by_cases hk : k ≤ 32
    · have dk : decide ((k : Int) ≤ (32 : Int)) = true := decide_eq_true (by omega)
      go_enter Tryd.func7, Tryd.ntmps7
      go_wp2_with fail
      refine (C.out A k c key hk HK.out w HL.out HA.out HA2.out).mono ?_
      rintro e w1 ⟨g1, rfl, _, _, hb1⟩
      have HL1 := Lib.hid (laid_below HL.out hb1)
      have HA21 := Lib.hid (HA2.out.below hb1 (Nat.le_refl _))
      have HB1 := Lib.hid hb1
      clear hb1
      go_wp2_with fail
      refine (C.out none 0 0 (fun _ => 0) (by omega) (fun _ => by omega) _ HL1.out (.inl rfl) HA21.out).mono ?_
      rintro e w2 ⟨g2, rfl, q2, _, hb2⟩
      rw [HFE.out] at q2
      have HL2 := Lib.hid (laid_below HL1.out hb2)
      have HA22 := Lib.hid (HA21.out.below hb2 (Nat.le_refl _))
      have HB2 := Lib.hid (below_trans HB1.out hb2)
      have Q2 := Lib.hid q2
      clear hb2 q2 HL1 HA21 HB1
      go_wp2_with fail
      refine (C.out (some ⟨w2.heap.size, 0, none⟩) 0 0 (fun _ => 0) (by omega) (fun _ => by omega) _ (laid_alloc HL2.out _) (.inl rfl) (HA22.out.below (below_alloc (Below.refl _ _) _) (Nat.le_refl _))).mono ?_
      rintro e w3 ⟨g3, rfl, q3, _, hb3⟩
      rw [HFE.out] at q3
      have hb3' := below_new (Below.refl w2.heap.size w2) hb3
      have HL3 := Lib.hid (laid_below HL2.out hb3')
      have HB3 := Lib.hid (below_trans HB2.out hb3')
      have Y := Lib.hid (run_string_of (P := Tryd.prog) (c := s) 22 9 5 Tryd.underlying22 Tryd.underlying5 Tryd.underlying9 (Rd.of_whole (Q2.out.below hb3' Q2.out.lt)))
      have Z := Lib.hid (run_string_of (P := Tryd.prog) (c := s) 22 9 5 Tryd.underlying22 Tryd.underlying5 Tryd.underlying9 (Rd.of_whole q3))
      clear hb3 hb3' q3 HL2 HA22 HB2 Q2
      generalize strOf F s = S at Y Z
      have y := Y.out
      have z := Z.out
      clear Y Z
      go_upto_region 9 with fail
      clear y z
      go_wp2_with fail
      refine (alive_any _ HL3.out).mono ?_
      rintro e w4 ⟨rfl, hb4⟩
      have HB4 := Lib.hid (below_trans HB3.out hb4)
      clear hb4
      go_wp2_with fail
      go_ret
      exact ⟨rfl, HB4.out⟩
    · have dk : decide ((k : Int) ≤ (32 : Int)) = false := decide_eq_false (by omega)
      go_enter Tryd.func7, Tryd.ntmps7
      go_wp2_with fail
      refine (sum_no s A A2 k c n c2 (by omega) w).mono ?_
      rintro e w1 ⟨rfl, rfl⟩
      go_wp2_with fail
      refine (C.out none 0 0 (fun _ => 0) (by omega) (fun _ => by omega) _ HL.out (.inl rfl) HA2.out).mono ?_
      rintro e w2 ⟨g2, rfl, q2, _, hb2⟩
      rw [HFE.out] at q2
      have HL2 := Lib.hid (laid_below HL.out hb2)
      have HA22 := Lib.hid (HA2.out.below hb2 (Nat.le_refl _))
      have HB2 := Lib.hid hb2
      have Q2 := Lib.hid q2
      clear hb2 q2
      go_wp2_with fail
      refine (C.out (some ⟨w2.heap.size, 0, none⟩) 0 0 (fun _ => 0) (by omega) (fun _ => by omega) _ (laid_alloc HL2.out _) (.inl rfl) (HA22.out.below (below_alloc (Below.refl _ _) _) (Nat.le_refl _))).mono ?_
      rintro e w3 ⟨g3, rfl, q3, _, hb3⟩
      rw [HFE.out] at q3
      have hb3' := below_new (Below.refl w2.heap.size w2) hb3
      have HL3 := Lib.hid (laid_below HL2.out hb3')
      have HB3 := Lib.hid (below_trans HB2.out hb3')
      have Y := Lib.hid (run_string_of (P := Tryd.prog) (c := s) 22 9 5 Tryd.underlying22 Tryd.underlying5 Tryd.underlying9 (Rd.of_whole (Q2.out.below hb3' Q2.out.lt)))
      have Z := Lib.hid (run_string_of (P := Tryd.prog) (c := s) 22 9 5 Tryd.underlying22 Tryd.underlying5 Tryd.underlying9 (Rd.of_whole q3))
      clear hb3 hb3' q3 HL2 HA22 HB2 Q2
      generalize strOf F s = S at Y Z
      have y := Y.out
      have z := Z.out
      clear Y Z
      go_upto_region 9 with fail
      clear y z
      go_wp2_with fail
      refine (alive_any _ HL3.out).mono ?_
      rintro e w4 ⟨rfl, hb4⟩
      have HB4 := Lib.hid (below_trans HB3.out hb4)
      clear hb4
      go_wp2_with fail
      go_ret
      exact ⟨rfl, HB4.out⟩
  · obtain ⟨b1, hb1⟩ : ∃ b, decide ((1 : Int) ≤ size) = b := ⟨_, rfl⟩
    have HN := Lib.hid (fun (A : Option Addr) (k c : Nat) => sum_no size A A2 k c n c2 (by omega))
    rcases b1 with _ | _
    all_goals
      try
        have hb2 : decide (size ≤ (32 : Int)) = false := decide_eq_false (by
          have := of_decide_eq_true hb1
          omega)
      go_enter Tryd.func7, Tryd.ntmps7
      go_wp2_with fail
      refine (HN.out A k c w).mono ?_
      rintro e w1 ⟨rfl, rfl⟩
      go_wp2_with fail
      refine (HN.out none 0 0 w).mono ?_
      rintro e w1 ⟨rfl, rfl⟩
      go_wp2_with fail
      refine (HN.out _ 0 0 _).mono ?_
      rintro e w1 ⟨rfl, rfl⟩
      have hbn : Below w.heap.size w (w.alloc (.cells #[] 5)) := below_alloc (Below.refl _ _) _
      have y := nil_string (w.alloc (.cells #[] 5))
      go_upto_region 9 with fail
      clear y
      go_wp2_with fail
      refine (alive_any _ (laid_below HL.out hbn)).mono ?_
      rintro e w4 ⟨rfl, hb4⟩
      have HB4 := Lib.hid (below_trans hbn hb4)
      clear hb4 hbn
      go_wp2_with fail
      go_ret
      exact ⟨rfl, HB4.out⟩

theorem walk (size : Int) (A : Option Addr) (k c : Nat) (ks : List Int) (A2 : Option Addr) (n c2 : Nat) (zs : List Int) (w : World) (hL : Laid w) (_ : (Lit.int .i64 size).wf = true) (h1 : IsRow .u8 w A k c ks) (h2 : IsRow .u8 w A2 n c2 zs) :
    Calls Tryd.prog 7 #[.int .i64 size, .slice A k c, .slice A2 n c2] w fun e w' => e = .returned (.bool true) ∧ Below w.heap.size w w' := by
  obtain ⟨key, hkey, hA, _, _⟩ := rd_of_row h1
  obtain ⟨f, hf, hA2, hc2, _⟩ := rd_of_row h2
  exact run size A k c key hkey A2 n c2 f hf hc2 w hL hA hA2

end BlakeSizes
end Go.Proofs.YtljepgddmfelpaaDoor
