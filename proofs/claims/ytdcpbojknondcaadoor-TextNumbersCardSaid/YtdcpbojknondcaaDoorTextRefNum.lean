/- The document's own Number. -/
import Derived.Test.YtdcpbojknondcaaDoorTextNum
import Derived.Test.YtdcpbojknondcaaDoorNumber
namespace Go.Proofs.YtdcpbojknondcaaDoor
namespace Text
open Go.ChangeShapes Go.WideShapes Go.ChangeAt Go.RowKit
open Num Mem Quiet Chacha

theorem numB_small (u : Nat) (h : u < 10) : numB u = ⟨#[UInt8.ofNat (48 + u)]⟩ := by
  unfold numB
  rw [Lib.decDigits, dif_pos h]
theorem numB_more (u : Nat) (h : ¬ u < 10) : numB u = numB (u / 10) ++ ⟨#[UInt8.ofNat (48 + u % 10)]⟩ := by
  unfold numB
  rw [Lib.decDigits, dif_neg h]
  apply ByteArray.ext
  simp
theorem numB_len (u : Nat) (h : u < 18446744073709551616) : (numB u).size ≤ 20 := by
  have : (numB u).size = (Lib.decDigits u).length := by simp [numB, ByteArray.size]
  rw [this, Lib.decDigits_length]
  exact Lib.nDigits_le20 u h
/-- a text of one byte -/
theorem one_byte (g c : Nat) (w : World) (T : TypeId) (h : Whole w g T #[.int .u8 (c : Nat)]) : (convert 41 9 (.slice (some ⟨g, 0, none⟩) 1 1)).run Tryd.prog w = .ok (.string ⟨#[UInt8.ofNat c]⟩) w := by
  have hr : Rd w (some ⟨g, 0, none⟩) 1 (fun _ => c) := Rd.of_whole (t := T) (f := fun _ => c) (n := 1) h
  have := run_string_of (P := Tryd.prog) (n := 1) (c := 1) (f := fun _ => c) 41 9 5 Tryd.underlying41 Tryd.underlying5 Tryd.underlying9 hr
  rw [this]
  rfl

set_option pp.maxSteps 100000 in
set_option maxRecDepth 100000 in
set_option maxHeartbeats 4000000 in
theorem refNumber_any (u : Nat) (hu : u < 18446744073709551616) : ∀ w,
    Calls Tryd.prog 10 #[.int .u64 u] w fun e w' => e = .returned (.string (numB u)) ∧ Below w.heap.size w w' := by
  induction u using Nat.strongRecOn with
  | _ u ih =>
    intro w
    by_cases h : u < 10
    · have d1 : decide ((u : Int) < 10) = true := decide_eq_true (by omega)
      have e1 : 48 + (u : Int) = ((48 + u : Nat) : Int) := by omega
      have E := Lib.hid (numB_small u h)
      obtain ⟨c, hc⟩ : ∃ c, 48 + u = c := ⟨_, rfl⟩
      rw [hc] at e1 E
      have hb := Lib.hid (Below.refl w.heap.size w |>.alloc (Nat.le_refl _) (.cells #[.int .u8 (c : Nat)] 5))
      have O := Lib.hid (one_byte w.heap.size c _ 5 (Whole.new w 5 #[.int .u8 (c : Nat)]))
      clear ih
      go_enter Tryd.func10, Tryd.ntmps10
      go_wp2
      rw [O.out]
      go_simp
      go_wp2
      go_ret
      exact ⟨by rw [E.out]; rfl, hb.out⟩
    · have d1 : decide ((u : Int) < 10) = false := decide_eq_false (by omega)
      have C := Lib.hid (ih (u / 10) (by omega) (by omega))
      obtain ⟨q, hq⟩ : ∃ q, u / 10 = q := ⟨_, rfl⟩
      obtain ⟨c, hc⟩ : ∃ c, 48 + u % 10 = c := ⟨_, rfl⟩
      have e2 : IntKind.u64.wrap ((u : Int) / 10) = (q : Int) := by rw [IntKind.wrap_u64]; omega
      have e3 : IntKind.u8.wrap (48 + IntKind.u8.wrap (Int.tmod (u : Int) 10)) = (c : Int) := by rw [IntKind.wrap_u8, IntKind.wrap_u8, Int.tmod_eq_emod_of_nonneg (by omega)]; omega
      have E := Lib.hid (numB_more u h)
      have HZ := Lib.hid (show (numB q).size ≤ 20 by rw [← hq]; exact numB_len _ (by omega))
      rw [hq, hc] at E
      rw [hq] at C
      clear ih hq hc
      go_enter Tryd.func10, Tryd.ntmps10
      go_upto_region 3 with fail
      refine region_start (fun w' => Below w.heap.size w w') (by kernel_rfl) (below_drewN (Below.refl _ _) 1) ?_
      intro w1 hS
      refine take 0 _ rfl (by kernel_rfl) (by kernel_rfl) (by kernel_rfl) (fun _ _ _ h => h) (by rfl) hS (by intro w _; go_simp; with_reducible rfl) ?_
      try simp only [Act.put, List.setIfInBounds_toArray, List.set_cons_zero, List.set_cons_succ]
      refine take 1 _ rfl (by kernel_rfl) (by kernel_rfl) (by kernel_rfl) (fun _ _ _ h => h) (by rfl) hS (by intro w _; go_simp; with_reducible rfl) ?_
      try simp only [Act.put, List.setIfInBounds_toArray, List.set_cons_zero, List.set_cons_succ]
      refine take 3 _ rfl (by kernel_rfl) (by kernel_rfl) (by kernel_rfl) (fun _ _ _ h => h) (by rfl) hS (by intro w _; go_simp; with_reducible rfl) ?_
      try simp only [Act.put, List.setIfInBounds_toArray, List.set_cons_zero, List.set_cons_succ]
      refine take 4 _ rfl (by kernel_rfl) (by kernel_rfl) (by kernel_rfl) (fun _ _ _ h => h) (by rfl) hS (by intro w _; go_simp; with_reducible rfl) ?_
      try simp only [Act.put, List.setIfInBounds_toArray, List.set_cons_zero, List.set_cons_succ]
      refine take 5 _ rfl (by kernel_rfl) (by kernel_rfl) (by kernel_rfl) (fun _ _ _ h => h) (by rfl) hS (by intro w _; go_simp; with_reducible rfl) ?_
      try simp only [Act.put, List.setIfInBounds_toArray, List.set_cons_zero, List.set_cons_succ]
      refine take 6 _ rfl (by kernel_rfl) (by kernel_rfl) (by kernel_rfl) (fun _ _ _ h => h) (by rfl) hS (by intro w _; go_simp; with_reducible rfl) ?_
      try simp only [Act.put, List.setIfInBounds_toArray, List.set_cons_zero, List.set_cons_succ]
      try rw [e3]
      refine ready_two 2 7 rfl rfl (by kernel_rfl) (by rfl) (by rfl) ?_ ?_
      · intro K hK
        go_simp
        refine (C.out _).mono ?_
        rintro e w2 ⟨rfl, hb⟩
        go_simp
        replace hS := below_trans hS hb
        refine hK.out _ _ hS ?_
        clear hK hb K
        try simp only [Act.put, List.setIfInBounds_toArray, List.set_cons_zero, List.set_cons_succ]
        refine alone 7 rfl (by kernel_rfl) (by rfl) ?_
        intro K hK
        go_simp
        refine hK.out _ _ (hS.alloc hS.size _) ?_
        clear hK K
        try simp only [Act.put, List.setIfInBounds_toArray, List.set_cons_zero, List.set_cons_succ]
        refine cut_any (fun X => Whole X w2.heap.size 5 #[.int .u8 (c : Nat)] ∧ Below w.heap.size w X) ⟨Whole.new _ _ _, hS.alloc hS.size _⟩ ?_
        rintro w3 ⟨hnew, hS'⟩
        clear hS
        have hS := hS'
        clear hS'
        generalize w2.heap.size = g at hnew ⊢
        have HW := Lib.hid hnew
        clear hnew
        refine alone_run 8 _ rfl (by kernel_rfl) (by rfl) hS (run_string_op 41 9 5 _ rfl rfl Tryd.underlying41 Tryd.underlying5 Tryd.underlying9 (Rd.of_whole (n := 1) (f := fun _ => c) HW.out)) ?_
        try simp only [Act.put, List.setIfInBounds_toArray, List.set_cons_zero, List.set_cons_succ]
        have h1 := HZ.out
        have hlen : ((numB q).size : Int) + 1 ≤ 9223372036854775807 := by omega
        have hs1 : (strOf (fun _ => c) 1).size = 1 := strOf_size _ _
        refine alone 9 rfl (by kernel_rfl) (by rfl) ?_
        intro K hK
        go_simp
        rw [if_neg (by omega : ¬ 9223372036854775807 < (numB q).size + 1)]
        go_simp
        refine hK.out _ _ hS ?_
        clear hK K
        try simp only [Act.put, List.setIfInBounds_toArray, List.set_cons_zero, List.set_cons_succ]
        refine alone 10 rfl (by kernel_rfl) (by rfl) ?_
        intro K hK
        go_simp
        refine hK.out _ _ hS ?_
        clear hK K
        try simp only [Act.put, List.setIfInBounds_toArray, List.set_cons_zero, List.set_cons_succ]
        refine region_end (by kernel_rfl) ?_
        have HS := Lib.hid hS
        clear hS
        go_wp2
        go_ret
        exact ⟨by rw [E.out]; rfl, HS.out⟩
      · intro K hK
        go_simp
        refine hK.out _ _ (hS.alloc hS.size _) ?_
        clear hK K
        try simp only [Act.put, List.setIfInBounds_toArray, List.set_cons_zero, List.set_cons_succ]
        refine cut_any (fun X => Whole X w1.heap.size 5 #[.int .u8 (c : Nat)] ∧ Below w.heap.size w X) ⟨Whole.new _ _ _, hS.alloc hS.size _⟩ ?_
        rintro w2 ⟨hnew, hS'⟩
        clear hS
        have hS := hS'
        clear hS'
        generalize w1.heap.size = g at hnew ⊢
        have HW := Lib.hid hnew
        clear hnew
        refine ready_two 2 8 rfl rfl (by kernel_rfl) (by rfl) (by rfl) ?_ ?_
        · intro K hK
          go_simp
          refine (C.out _).mono ?_
          rintro e w3 ⟨rfl, hb⟩
          go_simp
          replace HW := Lib.hid (HW.out.below hb HW.out.lt)
          replace hS := below_trans hS hb
          refine hK.out _ _ hS ?_
          clear hK hb K
          try simp only [Act.put, List.setIfInBounds_toArray, List.set_cons_zero, List.set_cons_succ]
          refine alone_run 8 _ rfl (by kernel_rfl) (by rfl) hS (run_string_op 41 9 5 _ rfl rfl Tryd.underlying41 Tryd.underlying5 Tryd.underlying9 (Rd.of_whole (n := 1) (f := fun _ => c) HW.out)) ?_
          try simp only [Act.put, List.setIfInBounds_toArray, List.set_cons_zero, List.set_cons_succ]
          have h1 := HZ.out
          have hlen : ((numB q).size : Int) + 1 ≤ 9223372036854775807 := by omega
          have hs1 : (strOf (fun _ => c) 1).size = 1 := strOf_size _ _
          refine alone 9 rfl (by kernel_rfl) (by rfl) ?_
          intro K hK
          go_simp
          rw [if_neg (by omega : ¬ 9223372036854775807 < (numB q).size + 1)]
          go_simp
          refine hK.out _ _ hS ?_
          clear hK K
          try simp only [Act.put, List.setIfInBounds_toArray, List.set_cons_zero, List.set_cons_succ]
          refine alone 10 rfl (by kernel_rfl) (by rfl) ?_
          intro K hK
          go_simp
          refine hK.out _ _ hS ?_
          clear hK K
          try simp only [Act.put, List.setIfInBounds_toArray, List.set_cons_zero, List.set_cons_succ]
          refine region_end (by kernel_rfl) ?_
          have HS := Lib.hid hS
          clear hS
          go_wp2
          go_ret
          exact ⟨by rw [E.out]; rfl, HS.out⟩
        · intro K hK
          have hr := (run_string_of (P := Tryd.prog) (c := 1) 41 9 5 Tryd.underlying41 Tryd.underlying5 Tryd.underlying9 (Rd.of_whole (n := 1) (f := fun _ => c) HW.out))
          go_simp
          refine hK.out _ _ hS ?_
          clear hK K
          try simp only [Act.put, List.setIfInBounds_toArray, List.set_cons_zero, List.set_cons_succ]
          refine alone 2 rfl (by kernel_rfl) (by rfl) ?_
          intro K hK
          go_simp
          refine (C.out _).mono ?_
          rintro e w3 ⟨rfl, hb⟩
          go_simp
          replace hS := below_trans hS hb
          refine hK.out _ _ hS ?_
          clear hK hb K
          try simp only [Act.put, List.setIfInBounds_toArray, List.set_cons_zero, List.set_cons_succ]
          have h1 := HZ.out
          have hlen : ((numB q).size : Int) + 1 ≤ 9223372036854775807 := by omega
          have hs1 : (strOf (fun _ => c) 1).size = 1 := strOf_size _ _
          refine alone 9 rfl (by kernel_rfl) (by rfl) ?_
          intro K hK
          go_simp
          rw [if_neg (by omega : ¬ 9223372036854775807 < (numB q).size + 1)]
          go_simp
          refine hK.out _ _ hS ?_
          clear hK K
          try simp only [Act.put, List.setIfInBounds_toArray, List.set_cons_zero, List.set_cons_succ]
          refine alone 10 rfl (by kernel_rfl) (by rfl) ?_
          intro K hK
          go_simp
          refine hK.out _ _ hS ?_
          clear hK K
          try simp only [Act.put, List.setIfInBounds_toArray, List.set_cons_zero, List.set_cons_succ]
          refine region_end (by kernel_rfl) ?_
          have HS := Lib.hid hS
          clear hS
          go_wp2
          go_ret
          exact ⟨by rw [E.out]; rfl, HS.out⟩

end Text
end Go.Proofs.YtdcpbojknondcaaDoor
