/- The document's own Read of wire, where it reads a message. -/
import Derived.Test.YtfbkppabgogdgaaWireRefRead
import Derived.Test.YtfbkppabgogdgaaWireNum
import Derived.Test.YtfbkppabgogdgaaPieces2
namespace Go.Proofs.Ytfbkppabgogdgaa
namespace RefW
open Go.ChangeShapes Go.WideShapes Go.ChangeAt Go.RowKit
open Num Mem Words Ref Cuts Chacha Quiet Wire

def numsL (f : Nat → Nat) (j : Nat) : List Value := (List.range j).map fun i => Value.int .u32 (le f (4 + 4 * i) 4 : Nat)
theorem numsL_snoc (f : Nat → Nat) (j : Nat) : numsL f j ++ [Value.int .u32 (le f (4 + 4 * j) 4 : Nat)] = numsL f (j + 1) := by
  unfold numsL
  rw [List.range_succ, List.map_append]
  rfl
theorem info_u32 : (Try.prog.info? 22).map (fun i => (i.zero, i.size, i.bytes)) = some (some (.int .u32 0), 1, 4) := by kernel_rfl
theorem wpList_push32 {ops : Array Oper} {rest : List Oper} {o : Oper} {a : Act} {Q : Exit → Act → World → Prop} {W w : World} {B k c : Nat} {A : Option Addr} {f : Nat → Nat} {b : Int} (hgd : o.guard = none) (s x : Operand)
    (ho : o.op = .call { callee := .builtin .append, args := #[s, x], argTypes := #[44, 44] })
    (hs : a.eval s = .slice A k c) (hx : a.eval x = .slice (some ⟨w.heap.size, 0, none⟩) 1 1)
    (own : w.ownsRow B 22 1 (.slice A k c) k (numsL f k)) (bel : Below B W w) (hB : B ≤ w.heap.size) (hb : b = (le f (4 + 4 * k) 4 : Nat)) (hk : k < 1000000)
    (h : ∀ A' c' w', w'.ownsRow B 22 1 (.slice A' (k + 1) c') (k + 1) (numsL f (k + 1)) → Below B W w' → B ≤ w'.heap.size → wpList Try.prog ops Q rest (a.put o.dst (.slice A' (k + 1) c')) w') :
    wpList Try.prog ops Q (o :: rest) a (w.alloc (.cells #[.int .u32 b] 22)) := by
  obtain ⟨i0, hi, hz0, hz1, hz2⟩ := info_parts info_u32
  refine wpList_append_own _ hgd s x 44 ho B 22 i0 (.int .u32 0) 1 4 Try.underlying44 hi hz0 hz1 hz2 rfl (by decide) (.slice A k c) k (numsL f k) hs (World.ownsRow.alloc own _) ⟨w.heap.size, 0, none⟩ 1 1 [.int .u32 b] hx rfl (one_at _ _ _)
    (by intro u hu; simp at hu; subst hu; rfl) (by simp only [maxLen]; omega) (by omega) (by simp; omega) ?_
  intro v' w' h1 h2 _
  rw [hb, numsL_snoc] at h1
  rcases h1.2 with ⟨_, h0⟩ | ⟨g, cap, cur, rfl, r⟩
  · omega
  · exact h _ _ w' h1 (keeps_row (World.ownsRow.alloc own _) (bel.alloc hB _) h2 (Nat.le_trans hB (by simp))) (Nat.le_trans (by simp; omega) h2.size)

theorem _root_.Go.World.ownsRow.below' {w w' : World} {B : Nat} {e : TypeId} {v : Value} {n : Nat} {xs : List Value} (h : w.ownsRow B e 1 v n xs) (hb : Below w.heap.size w w') : w'.ownsRow B e 1 v n xs := by
  refine ⟨h.1, ?_⟩
  rcases h.2 with k | ⟨b, cap, cur, e, hg, hh, r⟩
  · exact .inl k
  · refine .inr ⟨b, cap, cur, e, hg, ?_, r⟩
    have hlt : b < w.heap.size := by
      rcases Nat.lt_or_ge b w.heap.size with k | k
      · exact k
      · rw [Array.getElem?_eq_none k] at hh
        cases hh
    exact (hb.block b hlt).trans hh

set_option maxRecDepth 100000 in
set_option maxHeartbeats 4000000 in
theorem read_ok (b off n c : Nat) (f : Nat → Nat) (hf : ∀ i, f i < 256) (hn : n ≤ 9223372036854775807) (hnc : n ≤ c) (hcm : c ≤ 9223372036854775807) (k m : Nat) (hm1 : 1 ≤ m) (hm2 : m ≤ 2) (h32 : 32 ≤ n) (hE : openE f n k = 0) (w : World) (hb : b < w.heap.size) (hr : Rd w (some ⟨b, off, none⟩) n f) :
    Calls Try.prog 63 #[.slice (some ⟨b, off, none⟩) n c, .int .i64 k, .int .i64 m] w fun e w' => ∃ A' c', e = .returned (.tuple #[.slice A' m c', .slice (some ⟨b, off + (4 + 4 * m), none⟩) (n - (4 + 4 * m)) (c - (4 + 4 * m)), .int .i64 0]) ∧ w'.ownsRow w.heap.size 22 1 (.slice A' m c') m (numsL f m) ∧ Below w.heap.size w w' := by
  have C := Lib.hid (RefW.kind_any (some ⟨b, off, none⟩) n c f hf hn w hr)
  have HO : kindE f n = 0 ∧ kindV f n = k := by
    unfold openE at hE
    split at hE
    · rename_i h0
      split at hE
      · exact ⟨h0, ‹_›⟩
      · cases hE
    · exact absurd hE ‹_›
  rw [HO.1, HO.2] at C
  clear HO hE
  have HF := Lib.hid hf
  have HR := Lib.hid hr
  clear hf hr
  have hmI : (m : Int) ≤ 2 := by omega
  have hmJ : (1 : Int) ≤ (m : Int) := by omega
  go_enter Try.func63, Try.ntmps63
  go_wp2_with (go_at_call 26; refine C.out.mono ?_; rintro e w' ⟨rfl, rfl⟩)
  go_loopw [11, 12] (fun o i wr => ∃ (j : Nat) (A : Option Addr) (c' : Nat), j ≤ m ∧ i = .int .i64 j ∧ o = .slice A j c' ∧ wr.ownsRow w'.heap.size 22 1 (.slice A j c') j (numsL f j) ∧ Below w'.heap.size w' wr) (fun _ i _ => m - (intOf i).toNat)
  case atStart => exact ⟨0, none, 0, Nat.zero_le _, by simp, rfl, ⟨rfl, .inl ⟨rfl, rfl⟩⟩, Below.refl _ _⟩
  case round =>
    obtain ⟨j, A, c', hj, rfl, rfl, hown, hbel⟩ := hrel
    by_cases hlt : j < m
    · have hlt2 : (j : Int) < (m : Int) := by omega
      have hsz := hbel.size
      have HO := Lib.hid hown
      have HL := Lib.hid hbel
      have HRW := Lib.hid (HR.out.below hbel (Nat.le_refl _))
      clear hown hbel
      have CL := Lib.hid (show ∀ (q : Nat) (c2 : Nat), q + 4 ≤ n → Calls Try.prog 64 #[.slice (some ⟨b, off + q, none⟩) 4 c2] wr fun e w' => e = .returned (.int .u64 (le f q 4 : Nat)) ∧ wr = w' by
        intro q c2 hq
        have := least_any (some ⟨b, off + q, none⟩) 4 c2 (fun i => f (q + i)) (fun i => HF.out _) (by omega) wr (show Rd wr (some ⟨b, off + q, none⟩) 4 (fun i => f (q + i)) from .inr ⟨b, off + q, rfl, Nat.lt_of_lt_of_le hb hsz, fun i hi => by
          rcases HRW.out with h | ⟨b', off', e1, _, h3⟩
          · omega
          · injection e1 with e1
            injection e1 with e1 e2 _
            subst e1 e2
            rw [Nat.add_assoc]
            exact h3 (q + i) (by omega)⟩)
        rw [show le (fun i => f (q + i)) 0 4 = le f q 4 from le_congr 4 fun i _ => by show f (q + (0 + i)) = f (q + i); rw [Nat.zero_add]] at this
        exact this)
      have hle4 := le_lt HF.out (4 + 4 * j) 4
      have hw32 : IntKind.u32.wrap (le f (4 + 4 * j) 4 : Nat) = (le f (4 + 4 * j) 4 : Nat) := by rw [IntKind.wrap_u32]; omega
      have hj01 : j = 0 ∨ j = 1 := by omega
      have n12 : (12 : Int) ≤ (c : Int) := by omega
      have n8 : (8 : Int) ≤ (c : Int) := by omega
      have hc4 : ¬ (c = 4) := by omega
      have hc8 : ¬ (c = 8) := by omega
      rcases hj01 with rfl | rfl
      · have C4 := Lib.hid (fun c2 => CL.out 4 c2 (by omega))
        clear CL HRW
        go_wp2_with (first
          | (go_at_call 64; refine (C4.out _).mono ?_; rintro e w' ⟨rfl, rfl⟩)
          | (at_builtin; refine wpList_push32 rfl _ _ rfl rfl rfl HO.out HL.out hsz (by first | rfl | exact hw32 | simp) (by omega) ?_; intro A' c' w1 hown1 hbel1 hsz1; have HO1 := Lib.hid hown1; have HL1 := Lib.hid hbel1; clear hown1 hbel1))
        exact ⟨⟨1, A', c', by omega, rfl, rfl, HO1.out, HL1.out⟩, by simp [intOf]; omega⟩
      · have C8 := Lib.hid (fun c2 => CL.out 8 c2 (by omega))
        clear CL HRW
        go_wp2_with (first
          | (go_at_call 64; refine (C8.out _).mono ?_; rintro e w' ⟨rfl, rfl⟩)
          | (at_builtin; refine wpList_push32 rfl _ _ rfl rfl rfl HO.out HL.out hsz (by first | rfl | exact hw32 | simp) (by omega) ?_; intro A' c' w1 hown1 hbel1 hsz1; have HO1 := Lib.hid hown1; have HL1 := Lib.hid hbel1; clear hown1 hbel1))
        exact ⟨⟨2, A', c', by omega, rfl, rfl, HO1.out, HL1.out⟩, by simp [intOf]; omega⟩
    · obtain rfl : j = m := by omega
      have hj12 : j = 1 ∨ j = 2 := by omega
      rcases hj12 with rfl | rfl
      · have HO := Lib.hid hown
        have HL := Lib.hid hbel
        have h12 : (12 : Int) ≤ (n : Int) := by omega
        have h8 : (8 : Int) ≤ (n : Int) := by omega
        have hncI : (n : Int) ≤ (c : Int) := by omega
        have hc8 : ¬ (c = 8) := by omega
        clear hown hbel
        go_upto_region 11 with fail
        refine q_start (by kernel_rfl) (by kernel_rfl) ?_
        refine q_take _ (by rfl) (by intro w _; go_simp; try with_reducible rfl) ?_
        try simp only [Act.put, List.setIfInBounds_toArray, List.set_cons_zero, List.set_cons_succ]
        refine q_take _ (by rfl) (by intro w _; go_simp; try with_reducible rfl) ?_
        try simp only [Act.put, List.setIfInBounds_toArray, List.set_cons_zero, List.set_cons_succ]
        refine q_take _ (by rfl) (by intro w _; go_simp; try with_reducible rfl) ?_
        try simp only [Act.put, List.setIfInBounds_toArray, List.set_cons_zero, List.set_cons_succ]
        refine q_take (.int .i64 4) (by rfl) (by intro w _; go_simp; try rfl) ?_
        try simp only [Act.put, List.setIfInBounds_toArray, List.set_cons_zero, List.set_cons_succ]
        refine q_take (.int .i64 8) (by rfl) (by intro w _; go_simp; try rfl) ?_
        try simp only [Act.put, List.setIfInBounds_toArray, List.set_cons_zero, List.set_cons_succ]
        refine q_take (.slice (some ⟨b, off + 8, none⟩) (n - 8) (c - 8)) (by rfl) (by intro w _; go_simp; try with_reducible rfl) ?_
        try simp only [Act.put, List.setIfInBounds_toArray, List.set_cons_zero, List.set_cons_succ]
        refine q_take _ (by rfl) (by intro w _; go_simp; try with_reducible rfl) ?_
        try simp only [Act.put, List.setIfInBounds_toArray, List.set_cons_zero, List.set_cons_succ]
        refine q_take _ (by rfl) (by intro w _; go_simp; try with_reducible rfl) ?_
        try simp only [Act.put, List.setIfInBounds_toArray, List.set_cons_zero, List.set_cons_succ]
        refine q_take _ (by rfl) (by intro w _; go_simp; try with_reducible rfl) ?_
        try simp only [Act.put, List.setIfInBounds_toArray, List.set_cons_zero, List.set_cons_succ]
        refine q_take _ (by rfl) (by intro w _; go_simp; try with_reducible rfl) ?_
        try simp only [Act.put, List.setIfInBounds_toArray, List.set_cons_zero, List.set_cons_succ]
        refine wpQuiet_nil ?_
        intro W7 hb7
        have KB := Lib.hid (below_trans HL.out hb7)
        have KO := Lib.hid (World.ownsRow.below' HO.out hb7)
        go_wp2_with fail
        go_ret3
        exact ⟨A, c', rfl, KO.out, KB.out⟩
      · have HO := Lib.hid hown
        have HL := Lib.hid hbel
        have h12 : (12 : Int) ≤ (n : Int) := by omega
        have h8 : (8 : Int) ≤ (n : Int) := by omega
        have hncI : (n : Int) ≤ (c : Int) := by omega
        have hc12 : ¬ (c = 12) := by omega
        clear hown hbel
        go_upto_region 11 with fail
        refine q_start (by kernel_rfl) (by kernel_rfl) ?_
        refine q_take _ (by rfl) (by intro w _; go_simp; try with_reducible rfl) ?_
        try simp only [Act.put, List.setIfInBounds_toArray, List.set_cons_zero, List.set_cons_succ]
        refine q_take _ (by rfl) (by intro w _; go_simp; try with_reducible rfl) ?_
        try simp only [Act.put, List.setIfInBounds_toArray, List.set_cons_zero, List.set_cons_succ]
        refine q_take _ (by rfl) (by intro w _; go_simp; try with_reducible rfl) ?_
        try simp only [Act.put, List.setIfInBounds_toArray, List.set_cons_zero, List.set_cons_succ]
        refine q_take (.int .i64 8) (by rfl) (by intro w _; go_simp; try rfl) ?_
        try simp only [Act.put, List.setIfInBounds_toArray, List.set_cons_zero, List.set_cons_succ]
        refine q_take (.int .i64 12) (by rfl) (by intro w _; go_simp; try rfl) ?_
        try simp only [Act.put, List.setIfInBounds_toArray, List.set_cons_zero, List.set_cons_succ]
        refine q_take (.slice (some ⟨b, off + 12, none⟩) (n - 12) (c - 12)) (by rfl) (by intro w _; go_simp; try with_reducible rfl) ?_
        try simp only [Act.put, List.setIfInBounds_toArray, List.set_cons_zero, List.set_cons_succ]
        refine q_take _ (by rfl) (by intro w _; go_simp; try with_reducible rfl) ?_
        try simp only [Act.put, List.setIfInBounds_toArray, List.set_cons_zero, List.set_cons_succ]
        refine q_take _ (by rfl) (by intro w _; go_simp; try with_reducible rfl) ?_
        try simp only [Act.put, List.setIfInBounds_toArray, List.set_cons_zero, List.set_cons_succ]
        refine q_take _ (by rfl) (by intro w _; go_simp; try with_reducible rfl) ?_
        try simp only [Act.put, List.setIfInBounds_toArray, List.set_cons_zero, List.set_cons_succ]
        refine q_take _ (by rfl) (by intro w _; go_simp; try with_reducible rfl) ?_
        try simp only [Act.put, List.setIfInBounds_toArray, List.set_cons_zero, List.set_cons_succ]
        refine wpQuiet_nil ?_
        intro W7 hb7
        have KB := Lib.hid (below_trans HL.out hb7)
        have KO := Lib.hid (World.ownsRow.below' HO.out hb7)
        go_wp2_with fail
        go_ret3
        exact ⟨A, c', rfl, KO.out, KB.out⟩

end RefW
end Go.Proofs.Ytfbkppabgogdgaa
