/- 'aditlaw15.WindowLives' returns true at every input and writes nothing that was there: the walk. No condition. -/
import Derived.Test.YtijmbjnmfkiklaaWinPlayed
import Derived.Test.YtijmbjnmfkiklaaWinRef
import Derived.Test.YtijmbjnmfkiklaaWinEq
import Derived.Test.YtijmbjnmfkiklaaRowA
import Derived.Test.YtijmbjnmfkiklaaOps
namespace Go.Proofs.Ytijmbjnmfkiklaa
namespace WindowLives
open Go.ChangeShapes Go.WideShapes Go.ChangeAt Go.RowKit
open Num Mem Words Chacha Aead Poly Quiet WinT RowV RowA Win Ops

/-- the world of a round -/
structure Rnd (W : World) (B : Nat) (p : St × List Nat) (A : Option Addr) (c : Nat) (wr : World) : Prop where
  row : wr.ownsRow (B + 1) 23 1 (.slice A p.2.length c) p.2.length (p.2.map u64V)
  win : Lies wr B p.1.n p.1.a p.1.b
  bel : Below B W wr

set_option maxRecDepth 100000 in
set_option maxHeartbeats 8000000 in
theorem walk (A0 : Option Addr) (n c0 : Nat) (l : List Nat) (ask : Int) (w : World) (h0 : IsNums .u64 (2 ^ 64) w A0 n l) (hA : (Lit.int .u64 ask).wf = true) :
    Calls Try.prog 3 #[.slice A0 n c0, .int .u64 ask] w fun e w' => e = .returned (.bool true) ∧ Below w.heap.size w w' := by
  obtain ⟨q, rfl, hq⟩ := nat_u64 hA
  obtain ⟨hl, hn, _, hr⟩ := h0
  have HR := Lib.hid hr
  have HN := Lib.hid hl
  clear hr hl hA
  go_enter Try.func3, Try.ntmps3
  go_upto_region 2 with fail
  refine cut_world (fun W => Rnd w w.heap.size (⟨0, 0, 0⟩, []) none 0 W) ⟨⟨rfl, .inl ⟨rfl, rfl⟩⟩, lies_new _ _ _ _, below_alloc (Below.refl _ _) _⟩ ?_
  rintro W hW0
  obtain ⟨B, hB⟩ : ∃ B, w.heap.size = B := ⟨_, rfl⟩
  rw [hB] at hW0 ⊢
  have HB := Lib.hid hB
  have HW := Lib.hid hW0
  clear hB hW0
  go_wp2_with fail
  go_loopw [6, 7] (fun o i wr => ∃ (k : Nat) (A : Option Addr) (c : Nat), k ≤ n ∧ k ≤ 300 ∧ i = .int .i64 k ∧ o = .slice A (playL (l.take k)).2.length c ∧ Rnd w B (playL (l.take k)) A c wr) (fun _ i _ => 300 - (intOf i).toNat)
  case atStart => exact ⟨0, none, 0, Nat.zero_le _, Nat.zero_le _, by simp, rfl, HW.out⟩
  case round =>
    obtain ⟨k, A, c, hk, hk3, rfl, rfl, hrnd⟩ := hrel
    have hlk : (playL (l.take k)).2.length ≤ k := Nat.le_trans (play_len _) (List.length_take_le _ _)
    have his := play_is (l.take k)
    by_cases hlt : k < n ∧ k < 300
    · have hkl : k < l.length := by rw [HN.out]; exact hlt.1
      have HS := Lib.hid (play_take l k hkl)
      obtain ⟨m, hm⟩ : ∃ m, l[k] = m := ⟨_, rfl⟩
      rw [hm] at HS
      obtain ⟨b, off, rfl, hbl, hc⟩ : ∃ b off, A0 = some ⟨b, off, none⟩ ∧ b < B ∧ wr.cell? ⟨b, off + k, none⟩ = some (.int .u64 (m : Nat)) := by
        rcases HR.out with h | ⟨b, off, e, hb, hx⟩
        · have := congrArg List.length h
          rw [List.length_map, List.length_nil] at this
          omega
        · refine ⟨b, off, e, by rw [← HB.out]; exact hb, ?_⟩
          have := hx k (u64V m) (by rw [List.getElem?_map, List.getElem?_eq_getElem hkl, hm]; rfl)
          exact (hrnd.bel.cell (p := ⟨b, off + k, none⟩) (by rw [← HB.out]; exact hb)).trans this
      have HC := Lib.hid hc
      obtain ⟨hk1, hk2⟩ := hlt
      clear hc hm hkl
      generalize hp : playL (l.take k) = p at *
      obtain ⟨s, out⟩ := p
      simp only at his hlk hrnd
      have hok := his.ok
      have HT := Lib.hid (take_at s hok m)
      have HI := Lib.hid his
      have hxr : RdV wr A (out.map fun v => .int .u64 (v : Nat)) := rdv_own hrnd.row
      have hlm : out.length ≤ 9223372036854775807 := by omega
      have CK := Lib.hid (show ∀ (j : Nat) (X : World), Below wr.heap.size wr X → Calls Try.prog 16 #[.agg #[.int .u64 s.n, .int .u64 s.a, .int .u64 s.b], .int .u64 j] X fun e w' => e = .returned (.int .i64 (check s j : Nat)) ∧ Below wr.heap.size wr w' from fun j X hx => (checkW_any s hok j X).mono fun e w' ⟨he, hb⟩ => ⟨he, below_trans hx hb⟩)
      have CH := Lib.hid (show ∀ (j : Nat) (X : World), Below wr.heap.size wr X → Calls Try.prog 18 #[.agg #[.int .u64 s.n, .int .u64 s.a, .int .u64 s.b], .int .u64 j] X fun e w' => e = .returned (.bool (has0 s j)) ∧ Below wr.heap.size wr w' from fun j X hx => (hasW_any s hok j X).mono fun e w' ⟨he, hb⟩ => ⟨he, below_trans hx hb⟩)
      have CR := Lib.hid (show ∀ (j : Nat) (X : World), Below wr.heap.size wr X → Calls Try.prog 17 #[.slice A out.length c, .int .u64 j] X fun e w' => e = .returned (.int .i64 (check s j : Nat)) ∧ X = w' from fun j X hx => refcheck_any A _ c out rfl hlm s his j X (hxr.below hx (Nat.le_refl _)))
      have CS := Lib.hid (show ∀ (j : Nat) (X : World), Below wr.heap.size wr X → Calls Try.prog 19 #[.slice A out.length c, .int .u64 j] X fun e w' => e = .returned (.bool (has0 s j)) ∧ Below wr.heap.size wr w' from fun j X hx => (refhas2_any A _ c out rfl hlm s his j X (hxr.below hx (Nat.le_refl _))).mono fun e w' ⟨he, hw⟩ => ⟨he, hw ▸ hx⟩)
      have HD := Lib.hid (show (stepW (s, out) m) = if check s m = 0 then (put s m, out ++ [m]) else (s, out) from rfl)
      have HEQ := Lib.hid (fun w => win_eq s hok w)
      have KR := Lib.hid hrnd.row
      have KL := Lib.hid hrnd.win
      have KB := Lib.hid hrnd.bel
      have hsz := hrnd.win.lt
      clear hrnd his hxr
      obtain ⟨E, hE⟩ : ∃ E, check s m = E := ⟨_, rfl⟩
      obtain ⟨t, ht⟩ : ∃ t, take s m = t := ⟨_, rfl⟩
      have HTT := Lib.hid ht
      have HEE := Lib.hid hE
      simp only [ht, hE] at HT
      have CK1 := Lib.hid (CK.out m)
      have CR1 := Lib.hid (CR.out m)
      rw [hE] at CK1 CR1
      have CK2 := Lib.hid (CK.out q)
      have CR2 := Lib.hid (CR.out q)
      have CH2 := Lib.hid (CH.out q)
      have CS2 := Lib.hid (CS.out q)
      generalize check s q = E2 at CK2 CR2
      generalize has0 s q = r2 at CH2 CS2
      clear ht hE hok CK CR CH CS
      go_upto_region 6 with fail
      refine q_start (by kernel_rfl) (by kernel_rfl) ?_
      refine q_take _ (by rfl) (by intro x hx; have k0 := (KL.out.below hx).c0; have k1 := (KL.out.below hx).c1; have k2 := (KL.out.below hx).c2; have hcc := (hx.cell (p := ⟨b, off + k, none⟩) (by show b < _; omega)).trans HC.out; go_simp; try with_reducible rfl) ?_
      try simp only [Act.put, List.setIfInBounds_toArray, List.set_cons_zero, List.set_cons_succ]
      refine q_take _ (by rfl) (by intro x hx; go_simp; try with_reducible rfl) ?_
      try simp only [Act.put, List.setIfInBounds_toArray, List.set_cons_zero, List.set_cons_succ]
      refine q_take _ (by rfl) (by intro x hx; go_simp; try with_reducible rfl) ?_
      try simp only [Act.put, List.setIfInBounds_toArray, List.set_cons_zero, List.set_cons_succ]
      refine q_take _ (by rfl) (by intro x hx; go_simp; try with_reducible rfl) ?_
      try simp only [Act.put, List.setIfInBounds_toArray, List.set_cons_zero, List.set_cons_succ]
      refine q_take _ (by rfl) (by intro x hx; have k0 := (KL.out.below hx).c0; have k1 := (KL.out.below hx).c1; have k2 := (KL.out.below hx).c2; have hcc := (hx.cell (p := ⟨b, off + k, none⟩) (by show b < _; omega)).trans HC.out; go_simp; try with_reducible rfl) ?_
      try simp only [Act.put, List.setIfInBounds_toArray, List.set_cons_zero, List.set_cons_succ]
      refine q_call (.int .i64 E) 16 (#[.agg #[.int .u64 s.n, .int .u64 s.a, .int .u64 s.b], .int .u64 m]) (by rfl) (by intro w; go_simp; try with_reducible rfl) (fun x hx => CK1.out x hx) ?_
      try simp only [Act.put, List.setIfInBounds_toArray, List.set_cons_zero, List.set_cons_succ]
      refine q_take _ (by rfl) (by intro x hx; go_simp; try with_reducible rfl) ?_
      try simp only [Act.put, List.setIfInBounds_toArray, List.set_cons_zero, List.set_cons_succ]
      refine q_take _ (by rfl) (by intro x hx; go_simp; try with_reducible rfl) ?_
      try simp only [Act.put, List.setIfInBounds_toArray, List.set_cons_zero, List.set_cons_succ]
      refine q_take _ (by rfl) (by intro x hx; go_simp; try with_reducible rfl) ?_
      try simp only [Act.put, List.setIfInBounds_toArray, List.set_cons_zero, List.set_cons_succ]
      refine q_take _ (by rfl) (by intro x hx; go_simp; try with_reducible rfl) ?_
      try simp only [Act.put, List.setIfInBounds_toArray, List.set_cons_zero, List.set_cons_succ]
      refine q_take _ (by rfl) (by intro x hx; have k0 := (KL.out.below hx).c0; have k1 := (KL.out.below hx).c1; have k2 := (KL.out.below hx).c2; have hcc := (hx.cell (p := ⟨b, off + k, none⟩) (by show b < _; omega)).trans HC.out; go_simp; try with_reducible rfl) ?_
      try simp only [Act.put, List.setIfInBounds_toArray, List.set_cons_zero, List.set_cons_succ]
      refine q_call (.int .i64 E) 17 (#[.slice A out.length c, .int .u64 m]) (by rfl) (by intro w; go_simp; try with_reducible rfl) (fun x hx => (CR1.out x hx).mono fun e w' ⟨he, hw⟩ => ⟨he, hw ▸ hx⟩) ?_
      try simp only [Act.put, List.setIfInBounds_toArray, List.set_cons_zero, List.set_cons_succ]
      refine q_take (.bool false) (by rfl) (by intro x hx; go_simp; try with_reducible rfl) ?_
      try simp only [Act.put, List.setIfInBounds_toArray, List.set_cons_zero, List.set_cons_succ]
      refine q_take _ (by rfl) (by intro x hx; go_simp; try with_reducible rfl) ?_
      try simp only [Act.put, List.setIfInBounds_toArray, List.set_cons_zero, List.set_cons_succ]
      refine q_take _ (by rfl) (by intro x hx; have k0 := (KL.out.below hx).c0; have k1 := (KL.out.below hx).c1; have k2 := (KL.out.below hx).c2; have hcc := (hx.cell (p := ⟨b, off + k, none⟩) (by show b < _; omega)).trans HC.out; go_simp; try with_reducible rfl) ?_
      try simp only [Act.put, List.setIfInBounds_toArray, List.set_cons_zero, List.set_cons_succ]
      refine q_take _ (by rfl) (by intro x hx; go_simp; try with_reducible rfl) ?_
      try simp only [Act.put, List.setIfInBounds_toArray, List.set_cons_zero, List.set_cons_succ]
      refine q_call (.int .i64 E2) 16 (#[.agg #[.int .u64 s.n, .int .u64 s.a, .int .u64 s.b], .int .u64 q]) (by rfl) (by intro w; go_simp; try with_reducible rfl) (fun x hx => CK2.out x hx) ?_
      try simp only [Act.put, List.setIfInBounds_toArray, List.set_cons_zero, List.set_cons_succ]
      refine q_take _ (by rfl) (by intro x hx; go_simp; try with_reducible rfl) ?_
      try simp only [Act.put, List.setIfInBounds_toArray, List.set_cons_zero, List.set_cons_succ]
      refine q_take _ (by rfl) (by intro x hx; go_simp; try with_reducible rfl) ?_
      try simp only [Act.put, List.setIfInBounds_toArray, List.set_cons_zero, List.set_cons_succ]
      refine q_call (.int .i64 E2) 17 (#[.slice A out.length c, .int .u64 q]) (by rfl) (by intro w; go_simp; try with_reducible rfl) (fun x hx => (CR2.out x hx).mono fun e w' ⟨he, hw⟩ => ⟨he, hw ▸ hx⟩) ?_
      try simp only [Act.put, List.setIfInBounds_toArray, List.set_cons_zero, List.set_cons_succ]
      refine q_take (.bool false) (by rfl) (by intro x hx; go_simp; try with_reducible rfl) ?_
      try simp only [Act.put, List.setIfInBounds_toArray, List.set_cons_zero, List.set_cons_succ]
      refine q_take _ (by rfl) (by intro x hx; go_simp; try with_reducible rfl) ?_
      try simp only [Act.put, List.setIfInBounds_toArray, List.set_cons_zero, List.set_cons_succ]
      refine q_take _ (by rfl) (by intro x hx; go_simp; try with_reducible rfl) ?_
      try simp only [Act.put, List.setIfInBounds_toArray, List.set_cons_zero, List.set_cons_succ]
      refine q_take _ (by rfl) (by intro x hx; have k0 := (KL.out.below hx).c0; have k1 := (KL.out.below hx).c1; have k2 := (KL.out.below hx).c2; have hcc := (hx.cell (p := ⟨b, off + k, none⟩) (by show b < _; omega)).trans HC.out; go_simp; try with_reducible rfl) ?_
      try simp only [Act.put, List.setIfInBounds_toArray, List.set_cons_zero, List.set_cons_succ]
      refine q_take _ (by rfl) (by intro x hx; go_simp; try with_reducible rfl) ?_
      try simp only [Act.put, List.setIfInBounds_toArray, List.set_cons_zero, List.set_cons_succ]
      refine q_call (.bool r2) 18 (#[.agg #[.int .u64 s.n, .int .u64 s.a, .int .u64 s.b], .int .u64 q]) (by rfl) (by intro w; go_simp; try with_reducible rfl) (fun x hx => CH2.out x hx) ?_
      try simp only [Act.put, List.setIfInBounds_toArray, List.set_cons_zero, List.set_cons_succ]
      refine q_take _ (by rfl) (by intro x hx; go_simp; try with_reducible rfl) ?_
      try simp only [Act.put, List.setIfInBounds_toArray, List.set_cons_zero, List.set_cons_succ]
      refine q_take _ (by rfl) (by intro x hx; go_simp; try with_reducible rfl) ?_
      try simp only [Act.put, List.setIfInBounds_toArray, List.set_cons_zero, List.set_cons_succ]
      refine q_call (.bool r2) 19 (#[.slice A out.length c, .int .u64 q]) (by rfl) (by intro w; go_simp; try with_reducible rfl) (fun x hx => CS2.out x hx) ?_
      try simp only [Act.put, List.setIfInBounds_toArray, List.set_cons_zero, List.set_cons_succ]
      refine q_take (.bool false) (by rfl) (by intro x hx; go_simp; try with_reducible rfl) ?_
      try simp only [Act.put, List.setIfInBounds_toArray, List.set_cons_zero, List.set_cons_succ]
      refine q_take _ (by rfl) (by intro x hx; go_simp; try with_reducible rfl) ?_
      try simp only [Act.put, List.setIfInBounds_toArray, List.set_cons_zero, List.set_cons_succ]
      refine wpQuiet_nil ?_
      intro w3 hb
      replace KR := Lib.hid (ownsRow_below KR.out hb (Nat.le_refl _))
      replace KL := Lib.hid (KL.out.below hb)
      replace KB := Lib.hid (KB.out.trans (hb.mono (by omega)))
      replace HC := Lib.hid ((hb.cell (p := ⟨b, off + k, none⟩) (by show b < _; omega)).trans HC.out)
      replace hsz := KL.out.lt
      have HX := Lib.hid hb
      have hw3 := hb.size
      clear hb CK1 CK2 CR2 CH2 CS2
      go_upto_region 8 with fail
      refine region_drew (fun _ => True) (by kernel_rfl) trivial (fun _ => ?_)
      have hS : Below w3.heap.size w3 w3.drew := Below.drew (Below.refl _ _)
      refine Float.float_one (W := w3) [(0, 52, .is (.agg #[.int .u64 s.n, .int .u64 s.a, .int .u64 s.b])), (1, 53, .is (.slice (some ⟨b, off, none⟩) n c0)), (2, 54, .is (.int .i64 k)), (3, 55, .is (.pointer (some ⟨b, off + k, none⟩))), (4, 56, .is (.int .u64 m)), (5, 57, .is (.tuple #[.agg #[.int .u64 t.n, .int .u64 t.a, .int .u64 t.b], .int .i64 E])), (6, 51, .is (.tuple #[.agg #[.int .u64 t.n, .int .u64 t.a, .int .u64 t.b], .int .i64 E])), (7, 58, .is (.agg #[.int .u64 t.n, .int .u64 t.a, .int .u64 t.b])), (8, 59, .is (.int .i64 E)), (9, 8, .row 27 #[.int .u64 0, .int .u64 0, .int .u64 0])] [0, 1, 2, 3, 4, 5, 6, 7, 8, 9] 8 2 rfl (by rfl) (by kernel_rfl) (by kernel_rfl) (by kernel_rfl) (by kernel_rfl) (by kernel_rfl) (fun γ => rfl) rfl (.int .i64 E) rfl (by kernel_rfl) (by kernel_rfl) (by kernel_rfl) (fun _ _ _ h => h) hS (fun _ _ => trivial) ?_ ?_ ?_
      · intro γ w
        simp only [Float.puts, Act.put, List.setIfInBounds_toArray, List.set_cons_zero, List.set_cons_succ]
        go_simp
        try with_reducible rfl
      · intro γ
        simp only [Float.puts, Act.put, List.setIfInBounds_toArray, List.set_cons_zero, List.set_cons_succ]
        refine ⟨?_, ?_, ?_, ?_, ?_, ?_, ?_, ?_, ?_, ?_, trivial⟩
        · exact ⟨_, _, rfl, Float.does_take (fun w hw => by have c0 := (KL.out.below hw).c0; have c1 := (KL.out.below hw).c1; have c2 := (KL.out.below hw).c2; go_simp; try with_reducible rfl)⟩
        · exact ⟨_, _, rfl, Float.does_take (by intro w _; go_simp; try with_reducible rfl)⟩
        · exact ⟨_, _, rfl, Float.does_take (by intro w _; go_simp; try with_reducible rfl)⟩
        · exact ⟨_, _, rfl, Float.does_take (by intro w _; go_simp; try with_reducible rfl)⟩
        · exact ⟨_, _, rfl, Float.does_take (fun w hw => by have c0 := (hw.cell (p := ⟨b, off + k, none⟩) (by show b < _; omega)).trans HC.out; go_simp; try with_reducible rfl)⟩
        · exact ⟨_, _, rfl, Float.does_call 20 (#[.agg #[.int .u64 s.n, .int .u64 s.a, .int .u64 s.b], .int .u64 m]) (by intro w; go_simp; try with_reducible rfl) (fun w hw => HT.out w)⟩
        · exact ⟨_, _, rfl, Float.does_take (by intro w _; go_simp; try with_reducible rfl)⟩
        · exact ⟨_, _, rfl, Float.does_take (by intro w _; go_simp; try with_reducible rfl)⟩
        · exact ⟨_, _, rfl, Float.does_take (by intro w _; go_simp; try with_reducible rfl)⟩
        · exact ⟨_, _, rfl, fun w => by go_simp; try rfl⟩
      · intro γ v hS hrows hne
        simp only [Float.puts, Act.put, List.setIfInBounds_toArray, List.set_cons_zero, List.set_cons_succ]
        obtain ⟨⟨hge8, hg8⟩, -⟩ := hrows
        clear hne
        generalize γ 9 = b8 at *
        have Hg8 := Lib.hid hg8
        clear hg8
        clear γ
        have HOB := Lib.hid (fun g hg => Nat.lt_of_lt_of_le (own_lt KR.out g hg) hge8)
        have A3 : Lies v b8 0 0 0 := Hg8.out
        have a0 := A3.c0
        have a1 := A3.c1
        have a2 := A3.c2
        have f0 := A3.free 0
        have f1 := A3.free 1
        have f2 := A3.free 2
        refine alone 10 rfl (by kernel_rfl) (by rfl) ?_
        intro K hK
        go_simp
        refine hK.out _ _ trivial ?_
        clear hK K
        try simp only [Act.put]
        refine alone 11 rfl (by kernel_rfl) (by rfl) ?_
        intro K hK
        go_simp
        refine hK.out _ _ trivial ?_
        clear hK K
        try simp only [Act.put]
        refine region_end (by kernel_rfl) ?_
        refine cut_post (F := Exit.then _ _) (fun X => Lies X b8 t.n t.a t.b ∧ Below w3.heap.size w3 X) ⟨A3.set0.set1.set2, ((hS.setCell hge8 _).setCell hge8 _).setCell hge8 _⟩ ?_
        clear a0 a1 a2 f0 f1 f2 A3 Hg8 hS
        rintro X ⟨kx, hb⟩
        have KX := Lib.hid kx
        have hx := kx.lt
        replace KR := Lib.hid (ownsRow_below KR.out hb (Nat.le_refl _))
        replace KL := Lib.hid (KL.out.below hb)
        replace KB := Lib.hid (KB.out.trans (hb.mono (by omega)))
        replace HC := Lib.hid ((hb.cell (p := ⟨b, off + k, none⟩) (by show b < _; omega)).trans HC.out)
        replace hsz := KL.out.lt
        have hzb := hb.size
        replace HX := Lib.hid (HX.out.trans (hb.mono (by omega)))
        clear hb kx
        have a0 := KX.out.c0
        have a1 := KX.out.c1
        have a2 := KX.out.c2
        have d0 := KL.out.c0
        have d1 := KL.out.c1
        have d2 := KL.out.c2
        have hc := HC.out
        go_wp2_with fail
        refine (CR1.out _ HX.out).mono ?_
        rintro e w4 ⟨rfl, rfl⟩
        have hne : ((E : Int) != (E : Int)) = false := bne_self_eq_false _
        by_cases hz : E = 0
        · have hE1 : ((E : Int) == 0) = true := by rw [hz]; rfl
          have hE3 : ((E : Int) != 0) = false := by rw [hz]; rfl
          have hE4 : ((E : Int) = 0) = True := eq_true (by omega)
          have hc0 := HEE.out.trans hz
          have hE2 : take s m = put s m ∧ stepW (s, out) m = (put s m, out ++ [m]) := ⟨if_pos hc0, if_pos hc0⟩
          have hput := put_is HI.out hc0
          have htt := HTT.out
          rw [hE2.1] at htt
          rw [htt] at hput hE2
          have HE2 := Lib.hid hE2.2
          have HPI := Lib.hid hput
          clear hE2 hz hput htt hc0
          go_upto_region 13 with (at_builtin; refine wpList_pushG (.int .u64 (m : Nat)) rfl (.tmp 79) (.tmp 84) 22 23 (.int .u64 0) 8 Try.underlying22 info_u64 rfl rfl rfl rfl KR.out (by omega) rfl (by omega) (by omega) ?_; intro A' c' Z hown hbl hzs hgr)
          have HO := Lib.hid (show Z.ownsRow (B + 1) 23 1 (.slice A' (out.length + 1) c') (out.length + 1) ((out ++ [m]).map u64V) by rw [List.map_append]; exact hown)
          have ZX := Lib.hid (show Lies Z b8 t.n t.a t.b from whole_pushed hgr KX.out (fun i hi => by have := HOB.out i hi; omega))
          have ZL := Lib.hid (show Lies Z B s.n s.a s.b from KL.out.below' hbl (by omega))
          have ZB := Lib.hid (KB.out.trans (hbl.mono (by omega)))
          clear hown hbl hgr KR KX KL KB a0 a1 a2 d0 d1 d2 hc HC
          have a0 := ZX.out.c0
          have a1 := ZX.out.c1
          have a2 := ZX.out.c2
          have d0 := ZL.out.c0
          have d1 := ZL.out.c1
          have d2 := ZL.out.c2
          have f0 := ZL.out.free 0
          have f1 := ZL.out.free 1
          have f2 := ZL.out.free 2
          go_upto_region 14 with fail
          refine cut_world (fun Y => Y.ownsRow (B + 1) 23 1 (.slice A' (out.length + 1) c') (out.length + 1) ((out ++ [m]).map u64V) ∧ Lies Y B t.n t.a t.b ∧ Below B w Y) ⟨?_, ZL.out.set0.set1.set2, ((ZB.out.setCell (Nat.le_refl _) _).setCell (Nat.le_refl _) _).setCell (Nat.le_refl _) _⟩ ?_
          · refine ownsRow_set (ownsRow_set (ownsRow_set ?_ (by show B < B + 1; omega) _) (by show B < B + 1; omega) _) (by show B < B + 1; omega) _
            exact HO.out
          clear a0 a1 a2 d0 d1 d2 f0 f1 f2 ZX ZL ZB HO
          rintro Y ⟨hy1, hy2, hy3⟩
          have hY : Rnd w B (t, out ++ [m]) A' c' Y := ⟨by rw [show ((t, out ++ [m]) : St × List Nat).2 = out ++ [m] from rfl, List.length_append]; exact hy1, hy2, hy3⟩
          clear hy1 hy2 hy3
          have HY := Lib.hid hY
          have d0 := hY.win.c0
          have d1 := hY.win.c1
          have d2 := hY.win.c2
          clear hY
          simp only at d0 d1 d2
          go_wp2_with fail
          refine (next_any t _).mono ?_
          rintro e w5 ⟨rfl, hb⟩
          have HY5 := Lib.hid (show Rnd w B (t, out ++ [m]) A' c' w5 from ⟨ownsRow_below HY.out.row hb (Nat.le_refl _), HY.out.win.below hb, HY.out.bel.trans (hb.mono (by have := HY.out.win.lt; omega))⟩)
          clear d0 d1 d2 HY hb
          have HG := Lib.hid (show Calls Try.prog 22 #[.slice A' (out.length + 1) c'] w5 fun e w' => e = .returned (.int .u64 t.n) ∧ w5 = w' from by
            have h := refgr_any A' (out.length + 1) c' (out ++ [m]) (by simp) (by omega) (fun v hv => Nat.lt_of_lt_of_le (HPI.out.le v hv) (by have := HPI.out.ok.1; omega)) w5 (by have h := HY5.out.row; rw [show ((t, out ++ [m]) : St × List Nat).2 = out ++ [m] from rfl] at h; exact rdv_own h)
            rw [grl_is HPI.out] at h
            exact h)
          go_wp2_with fail
          refine HG.out.mono ?_
          rintro e w6 ⟨rfl, rfl⟩
          have hnn : ((t.n : Int) != (t.n : Int)) = false := bne_self_eq_false _
          go_wp2_with fail
          go_roundw
          case rel =>
            have h1 := HS.out
            refine ⟨k + 1, A', c', by omega, by omega, by go_num, ?_, ?_⟩
            · rw [h1, HE2.out]; simp
            · rw [h1, HE2.out]; exact HY5.out
          case measure => simp [intOf]; omega
        · have hE1 : ((E : Int) == 0) = false := by rw [beq_eq_false_iff_ne]; omega
          have hE3 : ((E : Int) != 0) = true := by rw [bne_iff_ne]; omega
          have hE4 : ((E : Int) = 0) = False := eq_false (by omega)
          have hcn : ¬ check s m = 0 := fun h => hz (HEE.out.symm.trans h)
          have hE2 : take s m = s ∧ stepW (s, out) m = (s, out) := ⟨if_neg hcn, if_neg hcn⟩
          have htt := HTT.out
          rw [hE2.1] at htt
          have HE2 := Lib.hid hE2.2
          subst htt
          clear hE2 hz hcn
          have f0 := KL.out.free 0
          have f1 := KL.out.free 1
          have f2 := KL.out.free 2
          have HO := Lib.hid (show RdV X A (out.map fun v => .int .u64 (v : Nat)) from rdv_own KR.out)
          go_upto_region 14 with (refine wpList_value_if (by rfl) (.bool false) (run_neq_op 27 (.tmp 72) (.tmp 73) _ rfl _ _ rfl rfl true false rfl (by kernel_rfl) HEQ.out _) ?_)
          refine cut_world (fun Y => Rnd w B (s, out) A c Y) ⟨ownsRow_set (ownsRow_set (ownsRow_set KR.out (by show B < B + 1; omega) _) (by show B < B + 1; omega) _) (by show B < B + 1; omega) _, KL.out.set0.set1.set2, ((KB.out.setCell (Nat.le_refl _) _).setCell (Nat.le_refl _) _).setCell (Nat.le_refl _) _⟩ ?_
          clear a0 a1 a2 d0 d1 d2 f0 f1 f2 hc KX KL KB KR HC HO
          rintro Y hY
          have HY := Lib.hid hY
          have d0 := hY.win.c0
          have d1 := hY.win.c1
          have d2 := hY.win.c2
          clear hY
          simp only at d0 d1 d2
          go_wp2_with fail
          refine (next_any s _).mono ?_
          rintro e w5 ⟨rfl, hb⟩
          have HY5 := Lib.hid (show Rnd w B (s, out) A c w5 from ⟨ownsRow_below HY.out.row hb (Nat.le_refl _), HY.out.win.below hb, HY.out.bel.trans (hb.mono (by have := HY.out.win.lt; omega))⟩)
          clear d0 d1 d2 HY hb
          have HG := Lib.hid (show Calls Try.prog 22 #[.slice A out.length c] w5 fun e w' => e = .returned (.int .u64 s.n) ∧ w5 = w' from by
            have h := refgr_any A out.length c out rfl (by omega) (fun v hv => Nat.lt_of_lt_of_le (HI.out.le v hv) (by have := HI.out.ok.1; omega)) w5 (rdv_own HY5.out.row)
            rw [grl_is HI.out] at h
            exact h)
          go_wp2_with fail
          refine HG.out.mono ?_
          rintro e w6 ⟨rfl, rfl⟩
          have hnn : ((s.n : Int) != (s.n : Int)) = false := bne_self_eq_false _
          go_wp2_with fail
          go_roundw
          case rel =>
            have h1 := HS.out
            refine ⟨k + 1, A, c, by omega, by omega, by go_num, ?_, ?_⟩
            · rw [h1, HE2.out]
            · rw [h1, HE2.out]; exact HY5.out
          case measure => simp [intOf]; omega
    · have HRN := Lib.hid hrnd.bel
      clear hrnd his
      have hnot : decide (k < n) = false ∨ (k < n ∧ decide ((k : Int) < 300) = false) := by
        by_cases h : k < n
        · exact .inr ⟨h, decide_eq_false (by omega)⟩
        · exact .inl (decide_eq_false h)
      rcases hnot with h | ⟨h, h3⟩
      all_goals
        go_wp2_with fail
        refine (alive_any _).mono ?_
        rintro e w3 ⟨rfl, hb⟩
        have K3 := Lib.hid (HRN.out.trans (hb.mono (by have := HRN.out.size; have := HB.out; omega)))
        clear hb
        go_wp2_with fail
        go_ret
        exact ⟨rfl, by rw [HB.out]; exact K3.out⟩
end WindowLives
end Go.Proofs.Ytijmbjnmfkiklaa
