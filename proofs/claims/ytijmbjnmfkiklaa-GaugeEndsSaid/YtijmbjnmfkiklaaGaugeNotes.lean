/- 'aditlaw16.GaugeNotes' returns true at every input and writes nothing that was there: the walk. No condition. -/
import Derived.Test.YtijmbjnmfkiklaaGaugeAlive
import Derived.Test.YtijmbjnmfkiklaaRowA
namespace Go.Proofs.Ytijmbjnmfkiklaa
namespace Fl
def notes (l : List Nat) : G := l.foldl note ⟨0, 0, 0, 0, 0⟩
theorem notes_take (l : List Nat) (k : Nat) (h : k < l.length) : notes (l.take (k + 1)) = note (notes (l.take k)) l[k] := by
  unfold notes
  rw [List.take_succ_eq_append_getElem h, List.foldl_append]
  rfl
theorem note_few (g : G) (x : Nat) : (note g x).c ≤ g.c + 1 ∧ (note g x).b ≤ g.b + 1 := by
  unfold note
  split
  · split
    · exact ⟨by show 1 ≤ _; omega, by show g.b ≤ _; omega⟩
    · exact ⟨Nat.le_refl _, by show g.b ≤ _; omega⟩
  · exact ⟨by show g.c ≤ _; omega, Nat.le_refl _⟩
theorem foldl_few (l : List Nat) : ∀ g : G, (l.foldl note g).c ≤ g.c + l.length ∧ (l.foldl note g).b ≤ g.b + l.length := by
  induction l with
  | nil => intro g; simp
  | cons x l ih =>
    intro g
    have h1 := ih (note g x)
    have h2 := note_few g x
    rw [List.foldl_cons, List.length_cons]
    omega
theorem notes_few (l : List Nat) : (notes l).c ≤ l.length ∧ (notes l).b ≤ l.length := by
  have h := foldl_few l ⟨0, 0, 0, 0, 0⟩
  simp only [Nat.zero_add] at h
  exact h
theorem foldl_ok (l : List Nat) : ∀ g : G, g.ok → (∀ v ∈ l, v < 18446744073709551616) → (l.foldl note g).ok := by
  induction l with
  | nil => intro g h _; exact h
  | cons x l ih => intro g h hl; exact ih _ (note_ok h (hl x (by simp))) (fun v hv => hl v (by simp [hv]))
theorem notes_ok (l : List Nat) (hl : ∀ v ∈ l, v < 18446744073709551616) : (notes l).ok := foldl_ok l _ ⟨⟨by decide, by decide⟩, ⟨by decide, by decide⟩, ⟨by decide, by decide⟩⟩ hl
end Fl
namespace GaugeNotes
open Go.ChangeShapes Go.WideShapes Go.ChangeAt Go.RowKit
open Num Mem Words Chacha Aead Poly Quiet Fl Gauge RowV RowA

theorem flt_cell {w : World} {A : Option Addr} {l : List Nat} (h : RdV w A (l.map fun v => .float .f64 v)) {k : Nat} (hk : k < l.length) : ∃ b off, A = some ⟨b, off, none⟩ ∧ b < w.heap.size ∧ w.cell? ⟨b, off + k, none⟩ = some (.float .f64 l[k]) := by
  rcases h with h | ⟨b, off, e, hb, hx⟩
  · have := congrArg List.length h
    rw [List.length_map, List.length_nil] at this
    omega
  · exact ⟨b, off, e, hb, hx k _ (by rw [List.getElem?_map, List.getElem?_eq_getElem hk]; rfl)⟩

set_option maxRecDepth 100000 in
set_option maxHeartbeats 8000000 in
theorem walk (A0 : Option Addr) (n c0 : Nat) (l : List Nat) (w : World) (h0 : IsFlts w A0 n l) :
    Calls Try.prog 10 #[.slice A0 n c0] w fun e w' => e = .returned (.bool true) ∧ Below w.heap.size w w' := by
  obtain ⟨hl, hn, hb, hr⟩ := h0
  have HR := Lib.hid hr
  have HN := Lib.hid hl
  have HBD := Lib.hid hb
  clear hr hl hb
  go_enter Try.func10, Try.ntmps10
  go_upto_region 3 with fail
  refine cut_world (fun W => GLies 54 W w.heap.size 0 0 0 0 0 ∧ GLies 55 W (w.heap.size + 1) 0 0 0 0 0 ∧ Below w.heap.size w W) ⟨Whole.alloc (glies_new _ _ _ _ _ _ _) _, whole_new _ _ (by simp), below_alloc (below_alloc (Below.refl _ _) _) _⟩ ?_
  rintro W ⟨h1, h2, h3⟩
  have H1 := Lib.hid h1
  have H2 := Lib.hid h2
  have H3 := Lib.hid h3
  clear h1 h2 h3
  obtain ⟨B, hB⟩ : ∃ B, w.heap.size = B := ⟨_, rfl⟩
  rw [hB] at H1 H2 H3 ⊢
  have HB := Lib.hid hB
  clear hB
  go_wp2_with fail
  go_loopw [5] (fun i wr => ∃ (k : Nat), k ≤ n ∧ k ≤ 200 ∧ i = .int .i64 k ∧ GLies 54 wr B (notes (l.take k)).c (notes (l.take k)).b (notes (l.take k)).lo (notes (l.take k)).hi (notes (l.take k)).sm ∧ GLies 55 wr (B + 1) (notes (l.take k)).c (notes (l.take k)).b (notes (l.take k)).lo (notes (l.take k)).hi (notes (l.take k)).sm ∧ Below B w wr) (fun i _ => 200 - (intOf i).toNat)
  case atStart => exact ⟨0, Nat.zero_le _, Nat.zero_le _, rfl, H1.out, H2.out, H3.out⟩
  case round =>
    obtain ⟨k, hk, hk3, rfl, h1, h2, h3⟩ := hrel
    have K1 := Lib.hid h1
    have K2 := Lib.hid h2
    have KB := Lib.hid h3
    have hsz := h2.lt
    clear h1 h2 h3 H1 H2 H3
    by_cases hlt : k < n ∧ k < 200
    · have hkl : k < l.length := by rw [HN.out]; exact hlt.1
      have hs := notes_take l k hkl
      have hok := notes_ok (l.take k) (fun v hv => HBD.out v (List.mem_of_mem_take hv))
      have hfew := notes_few (l.take k)
      have hx2 := HBD.out _ (List.getElem_mem hkl)
      have hlen : (l.take k).length ≤ 200 := by rw [List.length_take]; omega
      obtain ⟨b, off, rfl, hbl, hc⟩ := flt_cell (HR.out.below KB.out (Nat.le_of_eq HB.out)) hkl
      have hbl2 : b < B := by
        rcases HR.out with h | ⟨b', off', e, hb, _⟩
        · have := congrArg List.length h
          rw [List.length_map, List.length_nil] at this
          omega
        · injection e with e
          injection e with e1 e2
          rw [e1, ← HB.out]
          exact hb
      have HC := Lib.hid hc
      obtain ⟨hk1, hk2⟩ := hlt
      generalize l[k] = x at *
      generalize notes (l.take k) = g at *
      have C1 := Lib.hid (note_any g hok (by omega) (by omega) x hx2)
      have C2 := Lib.hid (rnote_any g hok (by omega) (by omega) x hx2)
      have hok1 := note_ok hok hx2
      have HS := Lib.hid hs
      clear hs hc hkl hfew hlen
      generalize note g x = g1 at *
      have S1 := rsame_any g1.lo g1.lo hok1.lo.2 hok1.lo.2
      have S2 := rsame_any g1.hi g1.hi hok1.hi.2 hok1.hi.2
      have S3 := rsame_any g1.sm g1.sm hok1.sm.2 hok1.sm.2
      rw [decide_eq_true rfl] at S1 S2 S3
      have T1 := Lib.hid S1
      have T2 := Lib.hid S2
      have T3 := Lib.hid S3
      clear S1 S2 S3 hok hok1 hx2 hbl
      unfold gV at C1 C2
      go_upto_region 6 with fail
      refine region_drew (fun _ => True) (by kernel_rfl) trivial (fun _ => ?_)
      have hS : Below wr.heap.size wr wr.drew := Below.drew (Below.refl _ _)
      refine Float.float (W := wr) [(0, 16, .is (.agg #[.int .u64 g.c, .int .u64 g.b, .float .f64 g.lo, .float .f64 g.hi, .float .f64 g.sm])), (1, 17, .is (.slice (some ⟨b, off, none⟩) n c0)), (2, 18, .is (.int .i64 k)), (3, 19, .is (.pointer (some ⟨b, off + k, none⟩))), (4, 20, .is (.float .f64 x)), (5, 21, .is (.agg #[.int .u64 g1.c, .int .u64 g1.b, .float .f64 g1.lo, .float .f64 g1.hi, .float .f64 g1.sm])), (6, 22, .is (.agg #[.int .u64 g.c, .int .u64 g.b, .float .f64 g.lo, .float .f64 g.hi, .float .f64 g.sm])), (7, 23, .is (.slice (some ⟨b, off, none⟩) n c0)), (8, 24, .is (.int .i64 k)), (9, 25, .is (.pointer (some ⟨b, off + k, none⟩))), (10, 26, .is (.float .f64 x)), (11, 27, .is (.agg #[.int .u64 g1.c, .int .u64 g1.b, .float .f64 g1.lo, .float .f64 g1.hi, .float .f64 g1.sm]))] [0, 1, 2, 3, 4, 5, 6, 7, 8, 9, 10, 11] 2 rfl (by rfl) (by kernel_rfl) (by kernel_rfl) (by kernel_rfl) (by kernel_rfl) (by kernel_rfl) (fun γ => rfl) hS (fun _ _ => trivial) ?_ ?_
      · intro γ
        simp only [Float.puts, Act.put, List.setIfInBounds_toArray, List.set_cons_zero, List.set_cons_succ]
        refine ⟨?_, ?_, ?_, ?_, ?_, ?_, ?_, ?_, ?_, ?_, ?_, ?_, trivial⟩
        · exact ⟨_, _, rfl, Float.does_take (fun w hw => by have k0 := (K1.out.below hw).c0; have k1 := (K1.out.below hw).c1; have k2 := (K1.out.below hw).c2; have k3 := (K1.out.below hw).c3; have k4 := (K1.out.below hw).c4; go_simp; try with_reducible rfl)⟩
        · exact ⟨_, _, rfl, Float.does_take (by intro w _; go_simp; try with_reducible rfl)⟩
        · exact ⟨_, _, rfl, Float.does_take (by intro w _; go_simp; try with_reducible rfl)⟩
        · exact ⟨_, _, rfl, Float.does_take (by intro w _; go_simp; try with_reducible rfl)⟩
        · exact ⟨_, _, rfl, Float.does_take (fun w hw => by have c0 := (hw.cell (p := ⟨b, off + k, none⟩) (by show b < _; omega)).trans HC.out; go_simp; try with_reducible rfl)⟩
        · exact ⟨_, _, rfl, Float.does_call 37 (#[.agg #[.int .u64 g.c, .int .u64 g.b, .float .f64 g.lo, .float .f64 g.hi, .float .f64 g.sm], .float .f64 x]) (by intro w; go_simp; try with_reducible rfl) (fun w hw => C1.out w)⟩
        · exact ⟨_, _, rfl, Float.does_take (fun w hw => by have k0 := (K2.out.below hw).c0; have k1 := (K2.out.below hw).c1; have k2 := (K2.out.below hw).c2; have k3 := (K2.out.below hw).c3; have k4 := (K2.out.below hw).c4; go_simp; try with_reducible rfl)⟩
        · exact ⟨_, _, rfl, Float.does_take (by intro w _; go_simp; try with_reducible rfl)⟩
        · exact ⟨_, _, rfl, Float.does_take (by intro w _; go_simp; try with_reducible rfl)⟩
        · exact ⟨_, _, rfl, Float.does_take (by intro w _; go_simp; try with_reducible rfl)⟩
        · exact ⟨_, _, rfl, Float.does_take (fun w hw => by have c0 := (hw.cell (p := ⟨b, off + k, none⟩) (by show b < _; omega)).trans HC.out; go_simp; try with_reducible rfl)⟩
        · exact ⟨_, _, rfl, Float.does_call 38 (#[.agg #[.int .u64 g.c, .int .u64 g.b, .float .f64 g.lo, .float .f64 g.hi, .float .f64 g.sm], .float .f64 x]) (by intro w; go_simp; try with_reducible rfl) (fun w hw => C2.out w)⟩
      · intro γ v hS hrows hne
        simp only [Float.puts, Act.put, List.setIfInBounds_toArray, List.set_cons_zero, List.set_cons_succ]
        clear hne hrows
        clear γ
        replace K1 := Lib.hid (K1.out.below hS)
        replace K2 := Lib.hid (K2.out.below hS)
        replace KB := Lib.hid (KB.out.trans (hS.mono (by omega)))
        replace hsz := K2.out.lt
        clear hS HC
        have a0 := K1.out.c0
        have a1 := K1.out.c1
        have a2 := K1.out.c2
        have a3 := K1.out.c3
        have a4 := K1.out.c4
        have f0 := K1.out.free 0
        have f1 := K1.out.free 1
        have f2 := K1.out.free 2
        have f3 := K1.out.free 3
        have f4 := K1.out.free 4
        have d0 := K2.out.c0
        have d1 := K2.out.c1
        have d2 := K2.out.c2
        have d3 := K2.out.c3
        have d4 := K2.out.c4
        have e0 := K2.out.free 0
        have e1 := K2.out.free 1
        have e2 := K2.out.free 2
        have e3 := K2.out.free 3
        have e4 := K2.out.free 4
        have hst := fun (p : Addr) (z : Nat) (V : World) => run_store Try.prog V p (.float .f64 z) .plain rfl
        refine alone 12 rfl (by kernel_rfl) (by rfl) ?_
        intro K hK
        go_simp
        refine hK.out _ _ trivial ?_
        clear hK K
        try simp only [Act.put]
        refine alone 13 rfl (by kernel_rfl) (by rfl) ?_
        intro K hK
        go_simp
        refine hK.out _ _ trivial ?_
        clear hK K
        try simp only [Act.put]
        clear hst
        refine region_end (by kernel_rfl) ?_
        refine cut_post (F := Exit.then _ _) (fun U => GLies 54 U B g1.c g1.b g1.lo g1.hi g1.sm ∧ GLies 55 U (B + 1) g1.c g1.b g1.lo g1.hi g1.sm ∧ Below B w U) ⟨(GLies.far (GLies.far (GLies.far (GLies.far (GLies.far K1.out.set0.set1.set2.set3.set4 (by show B ≠ B + 1; omega)) (by show B ≠ B + 1; omega)) (by show B ≠ B + 1; omega)) (by show B ≠ B + 1; omega)) (by show B ≠ B + 1; omega)), (GLies.far (GLies.far (GLies.far (GLies.far (GLies.far K2.out (by show B + 1 ≠ B; omega)) (by show B + 1 ≠ B; omega)) (by show B + 1 ≠ B; omega)) (by show B + 1 ≠ B; omega)) (by show B + 1 ≠ B; omega)).set0.set1.set2.set3.set4, (Below.setCell (Below.setCell (Below.setCell (Below.setCell (Below.setCell (Below.setCell (Below.setCell (Below.setCell (Below.setCell (Below.setCell KB.out (by show B ≤ B; omega) _) (by show B ≤ B; omega) _) (by show B ≤ B; omega) _) (by show B ≤ B; omega) _) (by show B ≤ B; omega) _) (by show B ≤ B + 1; omega) _) (by show B ≤ B + 1; omega) _) (by show B ≤ B + 1; omega) _) (by show B ≤ B + 1; omega) _) (by show B ≤ B + 1; omega) _)⟩ ?_
        clear a0 a1 a2 a3 a4 f0 f1 f2 f3 f4 d0 d1 d2 d3 d4 e0 e1 e2 e3 e4 K1 K2 KB hsz
        rintro U ⟨h1, h2, h3⟩
        have K1 := Lib.hid h1
        have K2 := Lib.hid h2
        have KB := Lib.hid h3
        clear h1 h2 h3
        have a0 := K1.out.c0
        have a1 := K1.out.c1
        have a2 := K1.out.c2
        have a3 := K1.out.c3
        have a4 := K1.out.c4
        have d0 := K2.out.c0
        have d1 := K2.out.c1
        have d2 := K2.out.c2
        have d3 := K2.out.c3
        have d4 := K2.out.c4
        have n1 : ((g1.c : Int) != g1.c) = false := by simp
        have n2 : ((g1.b : Int) != g1.b) = false := by simp
        go_wp2_with fail
        refine (T1.out _).mono ?_
        rintro e w' ⟨rfl, rfl⟩
        go_wp2_with fail
        refine (T2.out _).mono ?_
        rintro e w' ⟨rfl, rfl⟩
        go_wp2_with fail
        refine (T3.out _).mono ?_
        rintro e w' ⟨rfl, rfl⟩
        go_wp2_with fail
        go_roundw
        case rel => exact ⟨k + 1, by omega, by omega, by go_num, by rw [HS.out]; exact K1.out, by rw [HS.out]; exact K2.out, KB.out⟩
        case measure => simp [intOf]; omega
    · have hnot : decide (k < n) = false ∨ (k < n ∧ decide ((k : Int) < 200) = false) := by
        by_cases h : k < n
        · exact .inr ⟨h, decide_eq_false (by omega)⟩
        · exact .inl (decide_eq_false h)
      rcases hnot with h | ⟨h, h3⟩
      all_goals
        go_wp2_with fail
        refine (alive_any _).mono ?_
        rintro e w3 ⟨rfl, hb⟩
        have K3 := Lib.hid (KB.out.trans (hb.mono (by have := KB.out.size; have := HB.out; omega)))
        clear hb
        go_wp2_with fail
        go_ret
        exact ⟨rfl, by rw [HB.out]; exact K3.out⟩
end GaugeNotes
end Go.Proofs.Ytijmbjnmfkiklaa
