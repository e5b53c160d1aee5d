/- 'aditlaw03.PolyParts' returns true at every input and writes nothing that was there: the walk. No condition. -/
import Derived.Test.YtdffbjlbhjppeaaRefBoth
import Derived.Test.YtdffbjlbhjppeaaAliveThree
namespace Go.Proofs.Ytdffbjlbhjppeaa
namespace PolyParts
open Go.ChangeShapes Go.WideShapes Go.ChangeAt Go.RowKit
open Num Mem Words PolyN Chacha Quiet Poly Ref

theorem parts_below {p : Parts} {w x : World} {P : Option Addr} {K : Nat} (h : p.In w P K) (hb : Below w.heap.size w x) : p.In x P K := by
  obtain ⟨h1, h2, h3⟩ := h
  refine ⟨fun i hi => ⟨(h1 i hi).1.below hb (Nat.le_refl _), (h1 i hi).2⟩, h2, ?_⟩
  rcases h3 with h3 | ⟨b, off, e, hlt, hc⟩
  · exact .inl h3
  · exact .inr ⟨b, off, e, Nat.lt_of_lt_of_le hlt hb.size, fun i hi => (hb.cell (p := ⟨b, off + i, none⟩) hlt).trans (hc i hi)⟩

set_option maxRecDepth 100000 in
theorem many (key : Nat → Nat) (P : Option Addr) (K c : Nat) (h : 12 < K) (hm : K ≤ 9223372036854775807) (w : World) :
    Calls Try.prog 4 #[.agg (byteCells key 32).toArray, .slice P K c] w fun e w' => e = .returned (.bool true) ∧ Below w.heap.size w w' := by
  have hd : decide ((12 : Int) < (K : Int)) = true := decide_eq_true (by omega)
  have hd0 : decide ((0 : Int) < (K : Int)) = true := decide_eq_true (by omega)
  have hk0 : 0 < K := by omega
  rw [byteCells_lit32]
  go_enter Try.func4, Try.ntmps4
  go_wp2_with fail
  refine wp_loop_rounds 1 ?_
  rw [rounds_succ]
  go_wp2_with fail
  refine (alive_any _).mono ?_
  rintro e w1 ⟨rfl, hb1⟩
  have HB := Lib.hid (below_trans (below_alloc (Below.refl w.heap.size w) _) hb1)
  clear hb1
  go_wp2_with fail
  go_ret
  exact ⟨rfl, HB.out⟩

set_option maxRecDepth 100000 in
set_option maxHeartbeats 2000000 in
theorem few (key : Nat → Nat) (hk : ∀ i, key i < 256) (P : Option Addr) (K c : Nat) (p : Parts) (hK : K ≤ 12) (w : World) (hP : Arr.IsSlices w P K c p.A p.n p.c p.f) :
    Calls Try.prog 4 #[.agg (byteCells key 32).toArray, .slice P K c] w fun e w' => e = .returned (.bool true) ∧ Below w.heap.size w w' := by
  have hd : decide ((12 : Int) < (K : Int)) = false := decide_eq_false (by omega)
  have HK := Lib.hid hk
  have HP := Lib.hid hP
  clear hk hP
  rw [byteCells_lit32]
  go_enter Try.func4, Try.ntmps4
  go_upto_region 1 with fail
  refine cut_world (fun W => Whole W w.heap.size 22 (byteCells key 32).toArray ∧ Below w.heap.size w W) ⟨?_, below_alloc (Below.refl _ _) _⟩ ?_
  · rw [byteCells_lit32]
    exact whole_new _ _ rfl
  rintro W ⟨k1, kb⟩
  have K1 := Lib.hid k1
  have KB := Lib.hid kb
  have hl1 := k1.lt
  clear k1 kb
  generalize hB : w.heap.size = B at K1 KB hl1 ⊢
  go_wp2_with fail
  go_loopw [5, 6] (fun s i wr => ∃ (k x : Nat), k ≤ K ∧ i = .int .i64 k ∧ s = .int .i64 (x : Nat) ∧ x ≤ 100 * k ∧ (∀ i, i < k → p.n i ≤ 100) ∧ W = wr) (fun _ i _ => K - (intOf i).toNat)
  case atStart => exact ⟨0, 0, Nat.zero_le _, rfl, rfl, Nat.zero_le _, fun i hi => by omega, rfl⟩
  case round =>
    obtain ⟨k, x, hkK, rfl, rfl, hx, hall, rfl⟩ := hrel
    have HALL := Lib.hid hall
    clear hall
    by_cases hlt : k < K
    · obtain ⟨pb, po, rfl, hpb, hpc⟩ : ∃ b off, P = some ⟨b, off, none⟩ ∧ b < w.heap.size ∧ ∀ i, i < K → w.cell? ⟨b, off + i, none⟩ = some (.slice (p.A i) (p.n i) (p.c i)) := by
        rcases HP.out.2.2.2.2 with h | h
        · omega
        · exact h
      have hcell := (KB.out.cell (p := ⟨pb, po + k, none⟩) (by show pb < B; omega)).trans (hpc k hlt)
      have hn6 : p.n k ≤ 9223372036854775807 := by have h := HP.out.2.2.2.1 k hlt; omega
      have HNE := Lib.hid (show p.n k ≤ 100 → ∀ i, i < k + 1 → p.n i ≤ 100 from fun h i hi => by
        rcases Nat.lt_or_ge i k with h1 | h1
        · exact HALL.out i h1
        · rw [show i = k by omega]
          exact h)
      obtain ⟨A0, hA0⟩ : ∃ x, p.A k = x := ⟨_, rfl⟩
      obtain ⟨n0, hn0⟩ : ∃ x, p.n k = x := ⟨_, rfl⟩
      obtain ⟨c0, hc0⟩ : ∃ x, p.c k = x := ⟨_, rfl⟩
      rw [hA0, hn0, hc0] at hcell
      rw [hn0] at hn6 HNE
      clear hA0 hn0 hc0 hpc
      by_cases h100 : 100 < n0
      · have hd2 : decide ((100 : Int) < (n0 : Int)) = true := decide_eq_true (by omega)
        go_wp2_with fail
        refine (alive_any _).mono ?_
        rintro e w1 ⟨rfl, hb1⟩
        have HB := Lib.hid (KB.out.trans (hb1.mono (by omega)))
        clear hb1
        go_wp2_with fail
        go_ret
        exact ⟨rfl, by rw [hB]; exact HB.out⟩
      · have hd2 : decide ((100 : Int) < (n0 : Int)) = false := decide_eq_false (by omega)
        have HX := Lib.hid (show (x : Int) + (n0 : Int) = ((x + n0 : Nat) : Int) by omega)
        go_wp2_with fail
        go_roundw
        case rel => exact ⟨k + 1, x + n0, by omega, by go_num, by rw [HX.out], by omega, HNE.out (by omega), by first | trivial | rfl⟩
        case measure => simp [intOf]; omega
    · obtain rfl : k = K := by omega
      have HN := Lib.hid (show Nils p k from fun i hi => ⟨(HP.out.2.2.2.1 i hi).2.2.2, by have := HALL.out i hi; omega⟩)
      have hin : p.In w P k := ⟨fun i hi => ⟨(HP.out.2.2.2.1 i hi).1, (HP.out.2.2.2.1 i hi).2.1, by have := HALL.out i hi; omega⟩, HP.out.2.2.1, HP.out.2.2.2.2⟩
      have HPX := Lib.hid (show ∀ x, Below w.heap.size w x → p.In x P k from fun x hx => parts_below hin hx)
      clear hin
      obtain ⟨S, hSe⟩ : ∃ S, tag (macs (rk key) p k) key = S := ⟨_, rfl⟩
      have HSE := Lib.hid hSe
      have HBO := Lib.hid (show ∀ x, p.In x P k → Calls Try.prog 19 #[.agg (byteCells key 32).toArray, .slice P k c] x fun e w' => e = .returned (.agg (byteCells S 16).toArray) ∧ Below x.heap.size x w' from fun x hx => by
        rw [← hSe]
        exact both_any key HK.out P k c p (by omega) x hx)
      have hx12 : (x : Int) ≤ 1200 := by omega
      have HZ16 := Lib.hid (show ∀ f, (byteCells f 16).toArray.size = 16 from fun f => by rw [List.size_toArray, byteCells_length])
      clear hSe HALL
      go_wp2_with (refine wpList_load_row rfl 22 (.tmp 2) rfl B rfl 22 (byteCells key 32).toArray (0, 0) _ K1.out rfl rfl (by kernel_rfl) ?_)
      refine (HBO.out _ (HPX.out _ (by rw [hB]; exact KB.out))).mono ?_
      rintro e w1 ⟨rfl, hb1⟩
      have L1 := Lib.hid (K1.out.below hb1 K1.out.lt)
      have LB := Lib.hid (KB.out.trans (hb1.mono (by omega)))
      have hl2 := hb1.size
      clear hb1 K1 KB HBO
      go_upto_region 9 with (refine wpList_store_row rfl 25 (.tmp 7) (.tmp 35) rfl w1.heap.size (byteCells S 16).toArray rfl rfl 25 _ (Whole.new _ _ _) (by rw [HZ16.out]; kernel_rfl) (by rw [HZ16.out]; rfl) (bytes_one _ _) ?_)
      try simp only [Act.put]
      refine cut_world (fun X => Whole X B 22 (byteCells key 32).toArray ∧ Whole X w1.heap.size 25 (byteCells S 16).toArray ∧ Below B w X) ⟨Whole.farRow (L1.out.alloc _) (by omega) _, setRow_heap _ _ _ _ _ _ (Whole.new _ _ _), below_setRow (LB.out.alloc (by omega) _) (by omega) _⟩ ?_
      rintro W2 ⟨q1, q2, qb⟩
      have RK := Lib.hid (Rd.of_whole q1)
      have RG := Lib.hid (Rd.of_whole q2)
      have LW := Lib.hid (show Below w.heap.size w W2 by rw [hB]; exact qb)
      have hlc : w.heap.size ≤ W2.heap.size := by have := q1.lt; omega
      clear q1 q2 qb L1 LB
      generalize w1.heap.size = g at RG ⊢
      refine region_drew (fun x => Below W2.heap.size W2 x) (by kernel_rfl) (Below.drew (Below.refl _ _)) ?_
      intro hS
      refine alone 0 rfl (by kernel_rfl) (by rfl) ?_
      intro K hK
      go_simp
      refine (alive_any _).mono ?_
      rintro e v1 ⟨rfl, hb⟩
      go_simp
      replace hS := below_trans hS hb
      refine hK.out _ _ hS ?_
      clear hK hb K
      try simp only [Act.put, List.setIfInBounds_toArray, List.set_cons_zero, List.set_cons_succ]
      refine take 1 _ rfl (by kernel_rfl) (by kernel_rfl) (by kernel_rfl) (fun _ _ _ h => h) (by rfl) hS (by intro w _; go_simp; with_reducible rfl) ?_
      try simp only [Act.put, List.setIfInBounds_toArray, List.set_cons_zero, List.set_cons_succ]
      refine take 2 _ rfl (by kernel_rfl) (by kernel_rfl) (by kernel_rfl) (fun _ _ _ h => h) (by rfl) hS (by intro w _; go_simp; with_reducible rfl) ?_
      try simp only [Act.put, List.setIfInBounds_toArray, List.set_cons_zero, List.set_cons_succ]
      refine take 3 _ rfl (by kernel_rfl) (by kernel_rfl) (by kernel_rfl) (fun _ _ _ h => h) (by rfl) hS (by intro w _; go_simp; with_reducible rfl) ?_
      try simp only [Act.put, List.setIfInBounds_toArray, List.set_cons_zero, List.set_cons_succ]
      refine take 4 _ rfl (by kernel_rfl) (by kernel_rfl) (by kernel_rfl) (fun _ _ _ h => h) (by rfl) hS (by intro w _; go_simp; with_reducible rfl) ?_
      try simp only [Act.put, List.setIfInBounds_toArray, List.set_cons_zero, List.set_cons_succ]
      refine take 5 _ rfl (by kernel_rfl) (by kernel_rfl) (by kernel_rfl) (fun _ _ _ h => h) (by rfl) hS (by intro w _; go_simp; with_reducible rfl) ?_
      try simp only [Act.put, List.setIfInBounds_toArray, List.set_cons_zero, List.set_cons_succ]
      refine take 6 _ rfl (by kernel_rfl) (by kernel_rfl) (by kernel_rfl) (fun _ _ _ h => h) (by rfl) hS (by intro w _; go_simp; with_reducible rfl) ?_
      try simp only [Act.put, List.setIfInBounds_toArray, List.set_cons_zero, List.set_cons_succ]
      refine take 7 _ rfl (by kernel_rfl) (by kernel_rfl) (by kernel_rfl) (fun _ _ _ h => h) (by rfl) hS (fun w hw => run_string_op 23 9 5 _ rfl rfl Try.underlying23 Try.underlying5 Try.underlying9 (RG.out.below hw (Nat.le_refl _))) ?_
      try simp only [Act.put, List.setIfInBounds_toArray, List.set_cons_zero, List.set_cons_succ]
      refine take 8 _ rfl (by kernel_rfl) (by kernel_rfl) (by kernel_rfl) (fun _ _ _ h => h) (by rfl) hS (by intro w _; go_simp; with_reducible rfl) ?_
      try simp only [Act.put, List.setIfInBounds_toArray, List.set_cons_zero, List.set_cons_succ]
      refine take 9 _ rfl (by kernel_rfl) (by kernel_rfl) (by kernel_rfl) (fun _ _ _ h => h) (by rfl) hS (by intro w _; go_simp; with_reducible rfl) ?_
      try simp only [Act.put, List.setIfInBounds_toArray, List.set_cons_zero, List.set_cons_succ]
      refine alone 10 rfl (by kernel_rfl) (by rfl) ?_
      intro K hK
      go_simp
      refine (both_ref (some ⟨B, 0, none⟩) 32 32 key HK.out (by omega) (by omega) (by omega) (by omega) P k c p (by omega) _ (RK.out.below hS (Nat.le_refl _)) (HPX.out _ (LW.out.trans (hS.mono hlc))) HN.out).mono ?_
      rintro e v2 ⟨AS, cs, rfl, rs, _, hb⟩
      rw [HSE.out] at rs
      have RS := Lib.hid rs
      clear rs
      go_simp
      replace hS := below_trans hS hb
      refine hK.out _ _ hS ?_
      clear hK hb K
      try simp only [Act.put, List.setIfInBounds_toArray, List.set_cons_zero, List.set_cons_succ]
      refine alone_run 11 _ rfl (by kernel_rfl) (by rfl) hS (run_string_op 23 9 5 _ rfl rfl Try.underlying23 Try.underlying5 Try.underlying9 (RS.out)) ?_
      try simp only [Act.put, List.setIfInBounds_toArray, List.set_cons_zero, List.set_cons_succ]
      refine take 12 _ rfl (by kernel_rfl) (by kernel_rfl) (by kernel_rfl) (fun _ _ _ h => h) (by rfl) hS (by intro w _; go_simp; with_reducible rfl) ?_
      try simp only [Act.put, List.setIfInBounds_toArray, List.set_cons_zero, List.set_cons_succ]
      refine take 13 _ rfl (by kernel_rfl) (by kernel_rfl) (by kernel_rfl) (fun _ _ _ h => h) (by rfl) hS (by intro w _; go_simp; with_reducible rfl) ?_
      try simp only [Act.put, List.setIfInBounds_toArray, List.set_cons_zero, List.set_cons_succ]
      refine take 14 _ rfl (by kernel_rfl) (by kernel_rfl) (by kernel_rfl) (fun _ _ _ h => h) (by rfl) hS (by intro w _; go_simp; with_reducible rfl) ?_
      try simp only [Act.put, List.setIfInBounds_toArray, List.set_cons_zero, List.set_cons_succ]
      refine region_end (by kernel_rfl) ?_
      have HB9 := Lib.hid (LW.out.trans (hS.mono hlc))
      clear hS
      go_wp2_with fail
      go_ret
      exact ⟨rfl, HB9.out⟩

theorem walk (key : Nat → Nat) (a1 : Option Addr) (len1 cap1 : Nat) (A : Nat → Option Addr) (N C : Nat → Nat) (F : Nat → Nat → Nat) (w : World) (w0 : ∀ i, key i < 256) (w1 : Arr.IsSlices w a1 len1 cap1 A N C F) :
    Calls Try.prog 4 #[.agg (byteCells key 32).toArray, .slice a1 len1 cap1] w fun e w' => e = .returned (.bool true) ∧ Below w.heap.size w w' := by
  by_cases h : 12 < len1
  · have h2 := w1.1
    have h3 := w1.2.1
    exact many key a1 len1 cap1 h (by simp only [maxLen] at h3; omega) w
  · exact few key w0 a1 len1 cap1 { A := A, n := N, c := C, f := F } (by omega) w w1

end PolyParts
end Go.Proofs.Ytdffbjlbhjppeaa
