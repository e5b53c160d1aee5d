/- Layer 15 (window): 'played', a window behind numbers and those that it took. -/
import Derived.Test.YtijmbjnmfkiklaaWinAlive
import Derived.Test.YtijmbjnmfkiklaaWinPlay
import Derived.Test.YtijmbjnmfkiklaaRowV
import Derived.Test.YtijmbjnmfkiklaaFloatK
namespace Go.Proofs.Ytijmbjnmfkiklaa
namespace Win
open Go.ChangeShapes Go.WideShapes Go.ChangeAt Go.RowKit
open Num Mem Words Chacha Aead Poly Quiet WinT RowV

def u64V (v : Nat) : Value := .int .u64 (v : Nat)
theorem info_u64 : (Try.prog.info? 23).map (fun i => (i.zero, i.size, i.bytes)) = some (some (.int .u64 0), 1, 8) := by kernel_rfl
/-- what a window is asked, in whatever world -/
theorem take_at (s : St) (hs : s.ok) (m : Nat) (w : World) : Calls Try.prog 20 #[.agg #[.int .u64 s.n, .int .u64 s.a, .int .u64 s.b], .int .u64 m] w fun e w' => e = .returned (.tuple #[.agg #[.int .u64 (take s m).n, .int .u64 (take s m).a, .int .u64 (take s m).b], .int .i64 (check s m : Nat)]) ∧ Below w.heap.size w w' := take_any s hs m w

theorem Lies.below' {W x : World} {B C n a b : Nat} (h : Lies W B n a b) (hb : Below C W x) (hC : B < C) : Lies x B n a b := Whole.below h hb hC
/-- the world of a round -/
structure Rnd (W : World) (B : Nat) (p : St × List Nat) (A : Option Addr) (c : Nat) (wr : World) : Prop where
  row : wr.ownsRow (B + 2) 23 1 (.slice A p.2.length c) p.2.length (p.2.map u64V)
  res : Lies wr B 0 0 0
  win : Lies wr (B + 1) p.1.n p.1.a p.1.b
  bel : Below B W wr

set_option maxRecDepth 100000 in
set_option maxHeartbeats 4000000 in
theorem played_any (A0 : Option Addr) (c0 : Nat) (l : List Nat) (hl : l.length ≤ 9223372036854775807) (w : World) (hr : RdV w A0 (l.map u64V)) :
    Calls Try.prog 24 #[.slice A0 l.length c0] w fun e w' => ∃ A c, e = .returned (.tuple #[winV (playL (l.take 300)).1, .slice A (playL (l.take 300)).2.length c]) ∧ w'.ownsRow w.heap.size 23 1 (.slice A (playL (l.take 300)).2.length c) (playL (l.take 300)).2.length ((playL (l.take 300)).2.map u64V) ∧ Below w.heap.size w w' := by
  have HR := Lib.hid hr
  clear hr
  obtain ⟨n, hn⟩ : ∃ n, l.length = n := ⟨_, rfl⟩
  rw [hn] at hl ⊢
  have HN := Lib.hid hn
  clear hn
  go_enter Try.func24, Try.ntmps24
  go_upto_region 2 with fail
  refine cut_world (fun W => Rnd w w.heap.size (⟨0, 0, 0⟩, []) none 0 W) ⟨⟨rfl, .inl ⟨rfl, rfl⟩⟩, (lies_new _ _ _ _).alloc _, whole_new _ _ (by simp), below_alloc (below_alloc (Below.refl _ _) _) _⟩ ?_
  rintro W hW0
  obtain ⟨B, hB⟩ : ∃ B, w.heap.size = B := ⟨_, rfl⟩
  rw [hB] at hW0 ⊢
  have HB := Lib.hid hB
  have HW := Lib.hid hW0
  clear hB hW0
  go_wp2_with fail
  go_loopw [5, 6] (fun o i wr => ∃ (k : Nat) (A : Option Addr) (c : Nat), k ≤ n ∧ k ≤ 300 ∧ i = .int .i64 k ∧ o = .slice A (playL (l.take k)).2.length c ∧ Rnd w B (playL (l.take k)) A c wr) (fun _ i _ => 300 - (intOf i).toNat)
  case atStart => exact ⟨0, none, 0, Nat.zero_le _, Nat.zero_le _, by simp, rfl, HW.out⟩
  case round =>
    obtain ⟨k, A, c, hk, hk3, rfl, rfl, hrnd⟩ := hrel
    have hlk : (playL (l.take k)).2.length ≤ k := Nat.le_trans (play_len _) (List.length_take_le _ _)
    have hok := (play_is (l.take k)).ok
    by_cases hlt : k < n ∧ k < 300
    · have hkl : k < l.length := by rw [HN.out]; exact hlt.1
      have HS := Lib.hid (play_take l k hkl)
      have HRk := HR.out.below hrnd.bel (Nat.le_of_eq HB.out)
      obtain ⟨m, hm⟩ : ∃ m, l[k] = m := ⟨_, rfl⟩
      rw [hm] at HS
      obtain ⟨b, off, rfl, hbl, hc⟩ : ∃ b off, A0 = some ⟨b, off, none⟩ ∧ b < B ∧ wr.cell? ⟨b, off + k, none⟩ = some (.int .u64 (m : Nat)) := by
        rcases HR.out with h | ⟨b, off, e, hb, hx⟩
        · have := congrArg List.length h
          rw [List.length_map, List.length_nil] at this
          omega
        · refine ⟨b, off, e, by rw [← HB.out]; exact hb, ?_⟩
          have := hx k (u64V m) (by rw [List.getElem?_map, List.getElem?_eq_getElem hkl, hm]; rfl)
          exact (hrnd.bel.cell (p := ⟨b, off + k, none⟩) (by rw [← HB.out]; exact hb)).trans this
      have HC := Lib.hid hc
      have HT := Lib.hid (take_at (playL (l.take k)).1 hok m)
      have HTdef : (stepW (playL (l.take k)) m) = if check (playL (l.take k)).1 m = 0 then (put (playL (l.take k)).1 m, (playL (l.take k)).2 ++ [m]) else playL (l.take k) := rfl
      have HD := Lib.hid HTdef
      obtain ⟨hk1, hk2⟩ := hlt
      clear HTdef hc hm hkl HRk
      generalize hp : playL (l.take k) = p at *
      have HP := Lib.hid hp
      clear hp
      obtain ⟨s, out⟩ := p
      have KR := Lib.hid hrnd.row
      have KZ := Lib.hid hrnd.res
      have KL := Lib.hid hrnd.win
      have KB := Lib.hid hrnd.bel
      have hsz := hrnd.win.lt
      clear hrnd
      obtain ⟨E, hE⟩ : ∃ E, check s m = E := ⟨_, rfl⟩
      obtain ⟨t, ht⟩ : ∃ t, take s m = t := ⟨_, rfl⟩
      have HTT := Lib.hid ht
      have HEE := Lib.hid hE
      simp only [ht, hE] at HT
      clear ht hE hok
      simp only at hlk KR KL HT
      go_upto_region 6 with fail
      refine region_drew (fun _ => True) (by kernel_rfl) trivial (fun _ => ?_)
      have hS : Below wr.heap.size wr wr.drew := Below.drew (Below.refl _ _)
      refine Float.float_one (W := wr) [(0, 20, .is (.agg #[.int .u64 s.n, .int .u64 s.a, .int .u64 s.b])), (1, 21, .is (.slice (some ⟨b, off, none⟩) n c0)), (2, 22, .is (.int .i64 k)), (3, 23, .is (.pointer (some ⟨b, off + k, none⟩))), (4, 24, .is (.int .u64 m)), (5, 25, .is (.tuple #[.agg #[.int .u64 t.n, .int .u64 t.a, .int .u64 t.b], .int .i64 E])), (6, 19, .is (.tuple #[.agg #[.int .u64 t.n, .int .u64 t.a, .int .u64 t.b], .int .i64 E])), (7, 26, .is (.agg #[.int .u64 t.n, .int .u64 t.a, .int .u64 t.b])), (8, 27, .is (.int .i64 E)), (9, 7, .row 27 #[.int .u64 0, .int .u64 0, .int .u64 0])] [0, 1, 2, 3, 4, 5, 6, 7, 8, 9] 8 2 rfl (by rfl) (by kernel_rfl) (by kernel_rfl) (by kernel_rfl) (by kernel_rfl) (by kernel_rfl) (fun γ => rfl) rfl (.int .i64 E) rfl (by kernel_rfl) (by kernel_rfl) (by kernel_rfl) (fun _ _ _ h => h) hS (fun _ _ => trivial) ?_ ?_ ?_
      · intro γ w
        simp only [Float.puts, Act.put, List.setIfInBounds_toArray, List.set_cons_zero, List.set_cons_succ]
        go_simp
        try with_reducible rfl
      · intro γ
        simp only [Float.puts, Act.put, List.setIfInBounds_toArray, List.set_cons_zero, List.set_cons_succ]
        refine ⟨?_, ?_, ?_, ?_, ?_, ?_, ?_, ?_, ?_, ?_, trivial⟩
        · exact ⟨_, _, rfl, Float.does_take (fun w hw => by have c0 := (KL.out.below hw).c0; have c1 := (KL.out.below hw).c1; have c2 := (KL.out.below hw).c2; go_simp; try with_reducible rfl)⟩
        · exact ⟨_, _, rfl, Float.does_take (by intro w _; go_simp; try with_reducible rfl)⟩
        · exact ⟨_, _, rfl, Float.does_take (by intro w _; go_simp; try with_reducible rfl)⟩
        · exact ⟨_, _, rfl, Float.does_take (by intro w _; go_simp; try with_reducible rfl)⟩
        · exact ⟨_, _, rfl, Float.does_take (fun w hw => by have c0 := (hw.cell (p := ⟨b, off + k, none⟩) (by show b < _; omega)).trans HC.out; go_simp; try with_reducible rfl)⟩
        · exact ⟨_, _, rfl, Float.does_call 20 (#[.agg #[.int .u64 s.n, .int .u64 s.a, .int .u64 s.b], .int .u64 m]) (by intro w; go_simp; try with_reducible rfl) (fun w hw => HT.out w)⟩
        · exact ⟨_, _, rfl, Float.does_take (by intro w _; go_simp; try with_reducible rfl)⟩
        · exact ⟨_, _, rfl, Float.does_take (by intro w _; go_simp; try with_reducible rfl)⟩
        · exact ⟨_, _, rfl, Float.does_take (by intro w _; go_simp; try with_reducible rfl)⟩
        · exact ⟨_, _, rfl, fun w => by go_simp; try rfl⟩
      · intro γ v hS hrows hne
        simp only [Float.puts, Act.put, List.setIfInBounds_toArray, List.set_cons_zero, List.set_cons_succ]
        obtain ⟨⟨hge7, hg7⟩, -⟩ := hrows
        clear hne
        generalize γ 9 = b7 at *
        have Hg7 := Lib.hid hg7
        clear hg7
        clear γ
        have A3 : Lies v b7 0 0 0 := Hg7.out
        have a0 := A3.c0
        have a1 := A3.c1
        have a2 := A3.c2
        have f0 := A3.free 0
        have f1 := A3.free 1
        have f2 := A3.free 2
        refine alone 10 rfl (by kernel_rfl) (by rfl) ?_
        intro K hK
        go_simp
        refine hK.out _ _ trivial ?_
        clear hK K
        try simp only [Act.put]
        refine alone 11 rfl (by kernel_rfl) (by rfl) ?_
        intro K hK
        go_simp
        refine hK.out _ _ trivial ?_
        clear hK K
        try simp only [Act.put]
        refine region_end (by kernel_rfl) ?_
        refine cut_post (F := Exit.then _ _) (fun X => Lies X b7 t.n t.a t.b ∧ Below wr.heap.size wr X) ⟨A3.set0.set1.set2, ((hS.setCell hge7 _).setCell hge7 _).setCell hge7 _⟩ ?_
        clear a0 a1 a2 f0 f1 f2 A3 Hg7 hS
        rintro X ⟨kx, hb⟩
        have KX := Lib.hid kx
        have hx := kx.lt
        replace KR := Lib.hid (ownsRow_below KR.out hb (Nat.le_refl _))
        replace KZ := Lib.hid (KZ.out.below hb)
        replace KL := Lib.hid (KL.out.below hb)
        replace KB := Lib.hid (KB.out.trans (hb.mono (by omega)))
        replace HC := Lib.hid ((hb.cell (p := ⟨b, off + k, none⟩) (by show b < _; omega)).trans HC.out)
        replace hsz := KL.out.lt
        have hzb := hb.size
        clear hb kx
        have a0 := KX.out.c0
        have a1 := KX.out.c1
        have a2 := KX.out.c2
        by_cases hz : E = 0
        · have hE1 : ((E : Int) == 0) = true := by rw [hz]; rfl
          have hE2 : take s m = put s m ∧ stepW (s, out) m = (put s m, out ++ [m]) := by
            have := HEE.out
            exact ⟨if_pos (this.trans hz), if_pos (this.trans hz)⟩
          have HE2 := Lib.hid hE2
          clear hE2 hz
          have d0 := KL.out.c0
          have d1 := KL.out.c1
          have d2 := KL.out.c2
          have f0 := KL.out.free 0
          have f1 := KL.out.free 1
          have f2 := KL.out.free 2
          have hc := HC.out
          go_upto_region 9 with fail
          refine cut_world (fun Y => Rnd w B (t, out) A c Y ∧ Y.cell? ⟨b, off + k, none⟩ = some (.int .u64 (m : Nat))) ⟨⟨ownsRow_set (ownsRow_set (ownsRow_set KR.out (by show B + 1 < B + 2; omega) _) (by show B + 1 < B + 2; omega) _) (by show B + 1 < B + 2; omega) _, ((KZ.out.far (by show B ≠ B + 1; omega)).far (by show B ≠ B + 1; omega)).far (by show B ≠ B + 1; omega), KL.out.set0.set1.set2, ((KB.out.setCell (by show B ≤ B + 1; omega) _).setCell (by show B ≤ B + 1; omega) _).setCell (by show B ≤ B + 1; omega) _⟩, by go_simp⟩ ?_
          clear KX HC KR KZ KL KB a0 a1 a2 d0 d1 d2 f0 f1 f2 hc hx hsz hzb
          rintro Y ⟨hY, hc⟩
          have hsz := hY.win.lt
          have HY := Lib.hid hY
          clear hY
          go_wp2_with (at_builtin; refine wpList_push (.int .u64 (m : Nat)) rfl (.tmp 31) (.tmp 36) 22 23 (.int .u64 0) 8 Try.underlying22 info_u64 rfl rfl rfl rfl HY.out.row (by omega) rfl (by omega) (by omega) ?_; intro A' c' Z hown hbl hzs)
          have HO := Lib.hid hown
          have HY2 := Lib.hid (show Rnd w B (t, out ++ [m]) A' c' Z from by
            refine ⟨?_, HY.out.res.below' hbl (by omega), HY.out.win.below' hbl (by omega), HY.out.bel.trans (hbl.mono (by omega))⟩
            rw [show ((t, out ++ [m]) : St × List Nat).2 = out ++ [m] from rfl, List.map_append, List.length_append]
            exact HO.out)
          clear hown hbl HO
          go_wp2_with fail
          go_roundw
          case rel =>
            have h1 := HS.out
            have h2 := HE2.out.2
            rw [← HTT.out, HE2.out.1] at HY2
            refine ⟨k + 1, A', c', by omega, by omega, by go_num, ?_, ?_⟩
            · rw [h1, h2]; simp
            · rw [h1, h2]; exact HY2.out
          case measure => simp [intOf]; omega
        · have hE1 : ((E : Int) == 0) = false := by rw [beq_eq_false_iff_ne]; omega
          have hE2 : stepW (s, out) m = (s, out) := if_neg (fun h => hz (HEE.out.symm.trans h))
          have HE2 := Lib.hid hE2
          clear hE2 hz
          have HY := Lib.hid (show Rnd w B (s, out) A c X from ⟨KR.out, KZ.out, KL.out, KB.out⟩)
          clear KR KZ KL KB
          go_wp2_with fail
          go_roundw
          case rel =>
            have h1 := HS.out
            refine ⟨k + 1, A, c, by omega, by omega, by go_num, ?_, ?_⟩
            · rw [h1, HE2.out]
            · rw [h1, HE2.out]; exact HY.out
          case measure => simp [intOf]; omega
    · have hke : l.take k = l.take 300 := by
        by_cases h : k < n
        · rw [show k = 300 by omega]
        · rw [List.take_of_length_le (by rw [HN.out]; omega), List.take_of_length_le (by rw [HN.out]; omega)]
      rw [hke] at hrnd
      obtain ⟨p, hp⟩ : ∃ p, playL (l.take 300) = p := ⟨_, rfl⟩
      have HPP := Lib.hid hp
      rw [hke, hp]
      rw [hp] at hrnd
      clear hp
      have HK := Lib.hid hrnd
      have hsz := hrnd.win.lt
      clear hke hrnd hlk hok
      have hnot : decide (k < n) = false ∨ (k < n ∧ decide ((k : Int) < 300) = false) := by
        by_cases h : k < n
        · exact .inr ⟨h, decide_eq_false (by omega)⟩
        · exact .inl (decide_eq_false h)
      rcases hnot with h | ⟨h, h3⟩
      all_goals
        have d0 := HK.out.win.c0
        have d1 := HK.out.win.c1
        have d2 := HK.out.win.c2
        go_wp2_with (refine wpList_store_row rfl 27 (.tmp 2) (.tmp 38) rfl B #[.int .u64 p.1.n, .int .u64 p.1.a, .int .u64 p.1.b] rfl rfl 27 _ HK.out.res (by kernel_rfl) rfl (by simp [Value.oneCell']) ?_)
        refine bodyPost_ret (Poly.results_cell_tmp rfl _ _ B 27 [.int .u64 p.1.n, .int .u64 p.1.a, .int .u64 p.1.b] _ rfl (setRow_heap _ _ _ _ _ _ HK.out.res) rfl rfl (by kernel_rfl)) rfl ⟨A, c, ?_, ?_, ?_⟩
        · rw [HPP.out]; rfl
        · rw [HPP.out]; exact owns_more (ownsRow_far HK.out.row (by omega) _) (by have := HB.out; omega)
        · rw [HB.out]; exact below_setRow HK.out.bel (Nat.le_refl _) _

end Win
end Go.Proofs.Ytijmbjnmfkiklaa
