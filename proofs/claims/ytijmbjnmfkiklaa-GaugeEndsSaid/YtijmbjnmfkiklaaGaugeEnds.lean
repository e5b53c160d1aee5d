/- 'aditlaw16.GaugeEnds' returns true at every input and writes nothing that was there: the walk. No condition. -/
import Derived.Test.YtijmbjnmfkiklaaGaugeEndsNum
namespace Go.Proofs.Ytijmbjnmfkiklaa
namespace Fl
theorem notes_snoc (l : List Nat) (x : Nat) : notes (l ++ [x]) = note (notes l) x := by
  unfold notes
  rw [List.foldl_append]
  rfl
theorem turned_mem {l : List Nat} {t k v : Nat} (hl : 0 < l.length) (h : v ∈ turned l t k) : v ∈ l := by
  obtain ⟨i, _, rfl⟩ := List.mem_map.1 h
  have hj := Nat.mod_lt (i + t) hl
  generalize (i + t) % l.length = j at *
  simp [List.getD, hj]
end Fl
namespace GaugeEnds
open Go.ChangeShapes Go.WideShapes Go.ChangeAt Go.RowKit
open Num Mem Words Chacha Aead Poly Quiet Fl Gauge RowV RowA GaugeNotes Ops

theorem and1023 (n : Int) : bits .and .i64 n 1023 = n % 1024 := by
  have h : (BitVec.ofInt 64 n &&& BitVec.ofInt 64 1023).toNat = (n % 1024).toNat := by
    rw [BitVec.toNat_and, show (BitVec.ofInt 64 1023).toNat = 2 ^ 10 - 1 from rfl, Nat.and_two_pow_sub_one_eq_mod]
    rw [BitVec.toNat_ofInt]
    omega
  show IntKind.i64.wrap ((BitVec.ofInt 64 n &&& BitVec.ofInt 64 1023).toNat : Int) = _
  rw [h]
  simp [IntKind.wrap, IntKind.bits, IntKind.signed]
  omega
set_option maxRecDepth 100000 in
theorem easy (t : Int) (A : Option Addr) (n c : Nat) (h : 200 < n ∨ n = 0) (w : World) :
    Calls Try.prog 13 #[.slice A n c, .int .i64 t] w fun e w' => e = .returned (.bool true) ∧ Below w.heap.size w w' := by
  have h1 : (decide (200 < n) = true ∧ 200 < n) ∨ (decide (200 < n) = false ∧ n = 0) := by
    by_cases b : 200 < n
    · exact .inl ⟨decide_eq_true b, b⟩
    · exact .inr ⟨decide_eq_false b, by omega⟩
  clear h
  rcases h1 with ⟨h2, h3⟩ | ⟨h2, rfl⟩
  all_goals
    go_enter Try.func13, Try.ntmps13
    go_wp2_with fail
    refine (alive_any _).mono ?_
    rintro e w1 ⟨rfl, hb⟩
    have KB := Lib.hid hb
    clear hb
    go_wp2_with fail
    go_ret
    exact ⟨rfl, KB.out⟩

set_option maxRecDepth 100000 in
set_option maxHeartbeats 8000000 in
theorem hard (t : Int) (b off n c : Nat) (l : List Nat) (hl : l.length = n) (hbd : ∀ v ∈ l, v < 18446744073709551616) (hn : 0 < n) (hn6 : n ≤ 200) (w : World) (hbl : b < w.heap.size) (hr : ∀ i v, l[i]? = some v → w.cell? ⟨b, off + i, none⟩ = some (.float .f64 v)) :
    Calls Try.prog 13 #[.slice (some ⟨b, off, none⟩) n c, .int .i64 t] w fun e w' => e = .returned (.bool true) ∧ Below w.heap.size w w' := by
  have HR := Lib.hid hr
  have HN := Lib.hid hl
  have HBD := Lib.hid hbd
  have ht1 := Int.emod_nonneg t (show (1024 : Int) ≠ 0 by omega)
  have ht2 := Int.emod_lt_of_pos t (show (0 : Int) < 1024 by omega)
  have HA := Lib.hid (and1023 t)
  obtain ⟨T, hT⟩ : ∃ T : Nat, t % 1024 = (T : Int) := ⟨(t % 1024).toNat, by omega⟩
  rw [hT] at HA
  have hT2 : T < 1024 := by omega
  have hne : n ≠ 0 := by omega
  have HNE := Lib.hid hne
  have hz2 : decide (200 < n) = false := decide_eq_false (by omega)
  have hz3 : ((n : Int) == 0) = false := by rw [beq_eq_false_iff_ne]; omega
  have hz4 : ((n : Int) = 0) = False := eq_false (by omega)
  clear hr hl hbd ht1 ht2 hT hne
  go_enter Try.func13, Try.ntmps13
  go_upto_region 4 with fail
  refine cut_world (fun W => GLies 54 W w.heap.size 0 0 0 0 0 ∧ GLies 54 W (w.heap.size + 1) 0 0 0 0 0 ∧ Below w.heap.size w W) ⟨Whole.alloc (glies_new _ _ _ _ _ _ _) _, whole_new _ _ (by simp), below_alloc (below_alloc (Below.refl _ _) _) _⟩ ?_
  rintro W ⟨h1, h2, h3⟩
  have H1 := Lib.hid h1
  have H2 := Lib.hid h2
  have H3 := Lib.hid h3
  clear h1 h2 h3
  obtain ⟨B, hB⟩ : ∃ B, w.heap.size = B := ⟨_, rfl⟩
  rw [hB] at H1 H2 H3 hbl ⊢
  have HB := Lib.hid hB
  clear hB
  go_wp2_with fail
  go_loopw [7] (fun i wr => ∃ (k : Nat), k ≤ n ∧ i = .int .i64 k ∧ GLies 54 wr B (notes (l.take k)).c (notes (l.take k)).b (notes (l.take k)).lo (notes (l.take k)).hi (notes (l.take k)).sm ∧ GLies 54 wr (B + 1) (notes (turned l T k)).c (notes (turned l T k)).b (notes (turned l T k)).lo (notes (turned l T k)).hi (notes (turned l T k)).sm ∧ Below B w wr) (fun i _ => n - (intOf i).toNat)
  case atStart => exact ⟨0, Nat.zero_le _, rfl, H1.out, H2.out, H3.out⟩
  case round =>
    obtain ⟨k, hk, rfl, h1, h2, h3⟩ := hrel
    have K1 := Lib.hid h1
    have K2 := Lib.hid h2
    have KB := Lib.hid h3
    have hsz := h2.lt
    clear h1 h2 h3 H1 H2 H3
    by_cases hlt : k < n
    · have hkl : k < l.length := by rw [HN.out]; exact hlt
      have hs1 := notes_take l k hkl
      have hj : (k + T) % n < n := Nat.mod_lt _ hn
      obtain ⟨j, hjj⟩ : ∃ j, (k + T) % n = j := ⟨_, rfl⟩
      have hjl : j < l.length := by rw [HN.out, ← hjj]; exact hj
      have hs2 : notes (turned l T (k + 1)) = note (notes (turned l T k)) l[j] := by
        rw [turned_snoc, notes_snoc, HN.out, hjj]
        simp [List.getD, hjl]
      have hjI : ((k : Int) + (T : Int)).tmod (n : Int) = (j : Int) := by rw [← hjj, Int.natCast_emod, Int.natCast_add]; exact Int.tmod_eq_emod_of_nonneg (by omega)
      have hok1 := notes_ok (l.take k) (fun v hv => HBD.out v (List.mem_of_mem_take hv))
      have hok2 := notes_ok (turned l T k) (fun v hv => HBD.out v (turned_mem (by rw [HN.out]; exact hn) hv))
      have hf1 := notes_few (l.take k)
      have hf2 := notes_few (turned l T k)
      have hl1 : (l.take k).length ≤ 200 := by rw [List.length_take]; omega
      have hl2 : (turned l T k).length ≤ 200 := by unfold turned; rw [List.length_map, List.length_range]; omega
      have hx2 := HBD.out _ (List.getElem_mem hkl)
      have hy2 := HBD.out _ (List.getElem_mem hjl)
      have hv1 := (KB.out.cell (p := ⟨b, off + k, none⟩) hbl).trans (HR.out k l[k] (List.getElem?_eq_getElem hkl))
      have hv2 := (KB.out.cell (p := ⟨b, off + j, none⟩) hbl).trans (HR.out j l[j] (List.getElem?_eq_getElem hjl))
      have V1 := Lib.hid hv1
      have V2 := Lib.hid hv2
      generalize l[k] = x at *
      generalize l[j] = y at *
      generalize notes (l.take k) = s at *
      generalize notes (turned l T k) = r at *
      have C1 := Lib.hid (note_any s hok1 (by omega) (by omega) x hx2)
      have C2 := Lib.hid (note_any r hok2 (by omega) (by omega) y hy2)
      have HS1 := Lib.hid hs1
      have HS2 := Lib.hid hs2
      have HJ := Lib.hid hjI
      have w5 : IntKind.i64.wrap ((k : Int) + T) = (k : Int) + T := by rw [IntKind.wrap_i64]; omega
      have W5 := Lib.hid w5
      have hjn : j < n := by omega
      clear hs1 hs2 hjI hok1 hok2 hf1 hf2 hl1 hl2 hx2 hy2 hv1 hv2 hkl hjl hj hjj w5
      generalize note s x = s1 at *
      generalize note r y = r1 at *
      unfold gV at C1 C2
      go_upto_region 7 with fail
      refine region_drew (fun _ => True) (by kernel_rfl) trivial (fun _ => ?_)
      have hS : Below wr.heap.size wr wr.drew := Below.drew (Below.refl _ _)
      refine Float.float (W := wr) [(0, 24, .is (.agg #[.int .u64 s.c, .int .u64 s.b, .float .f64 s.lo, .float .f64 s.hi, .float .f64 s.sm])), (1, 25, .is (.slice (some ⟨b, off, none⟩) n c)), (2, 26, .is (.int .i64 k)), (3, 27, .is (.pointer (some ⟨b, off + k, none⟩))), (4, 28, .is (.float .f64 x)), (5, 29, .is (.agg #[.int .u64 s1.c, .int .u64 s1.b, .float .f64 s1.lo, .float .f64 s1.hi, .float .f64 s1.sm])), (6, 30, .is (.agg #[.int .u64 r.c, .int .u64 r.b, .float .f64 r.lo, .float .f64 r.hi, .float .f64 r.sm])), (7, 31, .is (.slice (some ⟨b, off, none⟩) n c)), (8, 32, .is (.int .i64 k)), (9, 33, .is (.int .i64 t)), (10, 34, .is (.int .i64 T)), (11, 35, .is (.int .i64 ((k : Int) + T))), (12, 36, .is (.slice (some ⟨b, off, none⟩) n c)), (13, 37, .is (.int .i64 n)), (14, 38, .is (.int .i64 j)), (15, 39, .is (.pointer (some ⟨b, off + j, none⟩))), (16, 40, .is (.float .f64 y)), (17, 41, .is (.agg #[.int .u64 r1.c, .int .u64 r1.b, .float .f64 r1.lo, .float .f64 r1.hi, .float .f64 r1.sm]))] [0, 1, 2, 3, 4, 5, 6, 7, 8, 9, 10, 11, 12, 13, 14, 15, 16, 17] 2 rfl (by rfl) (by kernel_rfl) (by kernel_rfl) (by kernel_rfl) (by kernel_rfl) (by kernel_rfl) (fun γ => rfl) hS (fun _ _ => trivial) ?_ ?_
      · intro γ
        simp only [Float.puts, Act.put, List.setIfInBounds_toArray, List.set_cons_zero, List.set_cons_succ]
        refine ⟨?_, ?_, ?_, ?_, ?_, ?_, ?_, ?_, ?_, ?_, ?_, ?_, ?_, ?_, ?_, ?_, ?_, ?_, trivial⟩
        · exact ⟨_, _, rfl, Float.does_take (fun w hw => by have k0 := (K1.out.below hw).c0; have k1 := (K1.out.below hw).c1; have k2 := (K1.out.below hw).c2; have k3 := (K1.out.below hw).c3; have k4 := (K1.out.below hw).c4; go_simp; try with_reducible rfl)⟩
        · exact ⟨_, _, rfl, Float.does_take (by intro w _; go_simp; try with_reducible rfl)⟩
        · exact ⟨_, _, rfl, Float.does_take (by intro w _; go_simp; try with_reducible rfl)⟩
        · exact ⟨_, _, rfl, Float.does_take (by intro w _; go_simp; try with_reducible rfl)⟩
        · exact ⟨_, _, rfl, Float.does_take (fun w hw => by have c0 := (hw.cell (p := ⟨b, off + k, none⟩) (by show b < _; omega)).trans V1.out; go_simp; try with_reducible rfl)⟩
        · exact ⟨_, _, rfl, Float.does_call 37 (#[.agg #[.int .u64 s.c, .int .u64 s.b, .float .f64 s.lo, .float .f64 s.hi, .float .f64 s.sm], .float .f64 x]) (by intro w; go_simp; try with_reducible rfl) (fun w hw => C1.out w)⟩
        · exact ⟨_, _, rfl, Float.does_take (fun w hw => by have k0 := (K2.out.below hw).c0; have k1 := (K2.out.below hw).c1; have k2 := (K2.out.below hw).c2; have k3 := (K2.out.below hw).c3; have k4 := (K2.out.below hw).c4; go_simp; try with_reducible rfl)⟩
        · exact ⟨_, _, rfl, Float.does_take (by intro w _; go_simp; try with_reducible rfl)⟩
        · exact ⟨_, _, rfl, Float.does_take (by intro w _; go_simp; try with_reducible rfl)⟩
        · exact ⟨_, _, rfl, Float.does_take (by intro w _; go_simp; try with_reducible rfl)⟩
        · exact ⟨_, _, rfl, Float.does_take (by intro w _; go_simp; rw [HA.out]; try with_reducible rfl)⟩
        · exact ⟨_, _, rfl, Float.does_take (by intro w _; go_simp; try rw [W5.out]; try with_reducible rfl)⟩
        · exact ⟨_, _, rfl, Float.does_take (by intro w _; go_simp; try with_reducible rfl)⟩
        · exact ⟨_, _, rfl, Float.does_take (by intro w _; go_simp; try with_reducible rfl)⟩
        · exact ⟨_, _, rfl, Float.does_take (by intro w _; go_simp; rw [HJ.out, if_neg HNE.out])⟩
        · exact ⟨_, _, rfl, Float.does_take (by intro w _; go_simp; try with_reducible rfl)⟩
        · exact ⟨_, _, rfl, Float.does_take (fun w hw => by have c0 := (hw.cell (p := ⟨b, off + j, none⟩) (by show b < _; omega)).trans V2.out; go_simp; try with_reducible rfl)⟩
        · exact ⟨_, _, rfl, Float.does_call 37 (#[.agg #[.int .u64 r.c, .int .u64 r.b, .float .f64 r.lo, .float .f64 r.hi, .float .f64 r.sm], .float .f64 y]) (by intro w; go_simp; try with_reducible rfl) (fun w hw => C2.out w)⟩
      · intro γ v hS hrows hne
        simp only [Float.puts, Act.put, List.setIfInBounds_toArray, List.set_cons_zero, List.set_cons_succ]
        clear hne hrows
        clear γ
        replace K1 := Lib.hid (K1.out.below hS)
        replace K2 := Lib.hid (K2.out.below hS)
        replace KB := Lib.hid (KB.out.trans (hS.mono (by omega)))
        replace hsz := K2.out.lt
        clear hS V1 V2
        have a0 := K1.out.c0
        have a1 := K1.out.c1
        have a2 := K1.out.c2
        have a3 := K1.out.c3
        have a4 := K1.out.c4
        have f0 := K1.out.free 0
        have f1 := K1.out.free 1
        have f2 := K1.out.free 2
        have f3 := K1.out.free 3
        have f4 := K1.out.free 4
        have d0 := K2.out.c0
        have d1 := K2.out.c1
        have d2 := K2.out.c2
        have d3 := K2.out.c3
        have d4 := K2.out.c4
        have e0 := K2.out.free 0
        have e1 := K2.out.free 1
        have e2 := K2.out.free 2
        have e3 := K2.out.free 3
        have e4 := K2.out.free 4
        have hst := fun (p : Addr) (z : Nat) (V : World) => run_store Try.prog V p (.float .f64 z) .plain rfl
        refine alone 18 rfl (by kernel_rfl) (by rfl) ?_
        intro K hK
        go_simp
        refine hK.out _ _ trivial ?_
        clear hK K
        try simp only [Act.put]
        refine alone 19 rfl (by kernel_rfl) (by rfl) ?_
        intro K hK
        go_simp
        refine hK.out _ _ trivial ?_
        clear hK K
        try simp only [Act.put]
        clear hst
        refine region_end (by kernel_rfl) ?_
        refine cut_post (F := Exit.inBlock _ _) (fun U => GLies 54 U B s1.c s1.b s1.lo s1.hi s1.sm ∧ GLies 54 U (B + 1) r1.c r1.b r1.lo r1.hi r1.sm ∧ Below B w U) ⟨(GLies.far (GLies.far (GLies.far (GLies.far (GLies.far K1.out.set0.set1.set2.set3.set4 (by show B ≠ B + 1; omega)) (by show B ≠ B + 1; omega)) (by show B ≠ B + 1; omega)) (by show B ≠ B + 1; omega)) (by show B ≠ B + 1; omega)), (GLies.far (GLies.far (GLies.far (GLies.far (GLies.far K2.out (by show B + 1 ≠ B; omega)) (by show B + 1 ≠ B; omega)) (by show B + 1 ≠ B; omega)) (by show B + 1 ≠ B; omega)) (by show B + 1 ≠ B; omega)).set0.set1.set2.set3.set4, (Below.setCell (Below.setCell (Below.setCell (Below.setCell (Below.setCell (Below.setCell (Below.setCell (Below.setCell (Below.setCell (Below.setCell KB.out (by show B ≤ B; omega) _) (by show B ≤ B; omega) _) (by show B ≤ B; omega) _) (by show B ≤ B; omega) _) (by show B ≤ B; omega) _) (by show B ≤ B + 1; omega) _) (by show B ≤ B + 1; omega) _) (by show B ≤ B + 1; omega) _) (by show B ≤ B + 1; omega) _) (by show B ≤ B + 1; omega) _)⟩ ?_
        clear a0 a1 a2 a3 a4 f0 f1 f2 f3 f4 d0 d1 d2 d3 d4 e0 e1 e2 e3 e4 K1 K2 KB hsz
        rintro U ⟨h1, h2, h3⟩
        have K1 := Lib.hid h1
        have K2 := Lib.hid h2
        have KB := Lib.hid h3
        clear h1 h2 h3
        go_wp2_with fail
        go_roundw
        case rel => exact ⟨k + 1, by omega, by go_num, by rw [HS1.out]; exact K1.out, by rw [HS2.out]; exact K2.out, KB.out⟩
        case measure => simp [intOf]; omega
    · have hkn : k = n := by omega
      subst hkn
      have htk : l.take k = l := List.take_of_length_le (by rw [HN.out]; omega)
      rw [htk] at K1
      have E1 := notes_ends l HBD.out
      have E2 := notes_ends (turned l T k) (fun v hv => HBD.out v (turned_mem (by rw [HN.out]; exact hn) hv))
      have hp := turned_perm l T
      rw [HN.out] at hp
      have q := ends_perm E2 E1 hp
      have hsum := ends_sum E1
      rw [HN.out] at hsum
      rw [q.1, q.2.1, q.2.2.1, q.2.2.2] at K2
      have HE := Lib.hid E1
      clear q E2 E1 hp htk
      generalize notes l = g at *
      generalize (notes (turned l T k)).sm = z at *
      have S1 := same_any g.lo g.lo HE.out.ok.lo.2 HE.out.ok.lo.2
      have S2 := same_any g.hi g.hi HE.out.ok.hi.2 HE.out.ok.hi.2
      rw [decide_eq_true rfl] at S1 S2
      have T1 := Lib.hid S1
      have T2 := Lib.hid S2
      clear S1 S2
      have n1 : ((g.c : Int) != g.c) = false := by simp
      have n2 : ((g.b : Int) != g.b) = false := by simp
      have n3 : ((k : Int) != k) = false := by simp
      have n4 : (g.c : Int) + g.b = k := by omega
      have n5 : IntKind.u64.wrap (k : Int) = k := by rw [IntKind.wrap_u64]; omega
      have a0 := K1.out.c0
      have a1 := K1.out.c1
      have a2 := K1.out.c2
      have a3 := K1.out.c3
      have a4 := K1.out.c4
      have d0 := K2.out.c0
      have d1 := K2.out.c1
      have d2 := K2.out.c2
      have d3 := K2.out.c3
      have d4 := K2.out.c4
      go_wp2_with fail
      refine (T1.out _).mono ?_
      rintro e w' ⟨rfl, rfl⟩
      go_wp2_with fail
      refine (T2.out _).mono ?_
      rintro e w' ⟨rfl, rfl⟩
      clear a0 a1 a2 a3 a4 d0 d1 d2 d3 d4
      have a0 := K1.out.c0
      have a1 := K1.out.c1
      go_upto_region 10 with fail
      clear a0 a1 n1 n2 n3 n4 n5 T1 T2 K2 hsum
      go_wp2_with fail
      go_loopw [8] (fun i wq => ∃ (m : Nat), m ≤ k ∧ i = .int .i64 m ∧ GLies 54 wq B g.c g.b g.lo g.hi g.sm ∧ Below B w wq) (fun i _ => k - (intOf i).toNat)
      case atStart => exact ⟨0, Nat.zero_le _, rfl, K1.out, KB.out⟩
      case round =>
        obtain ⟨m, hm, rfl, h1, h3⟩ := hrel
        replace K1 := Lib.hid h1
        replace KB := Lib.hid h3
        have hsz := h1.lt
        clear h1 h3
        by_cases hlt : m < k
        · have hml : m < l.length := by rw [HN.out]; exact hlt
          have hx2 := HBD.out _ (List.getElem_mem hml)
          have hv1 := (KB.out.cell (p := ⟨b, off + m, none⟩) hbl).trans (HR.out m l[m] (List.getElem?_eq_getElem hml))
          have V1 := Lib.hid hv1
          have hmem := List.getElem_mem hml
          clear hv1
          generalize l[m] = x at *
          have CC := Lib.hid (counts_any x hx2)
          rcases hc : counts x with _ | _
          · rw [hc] at CC
            clear hc hmem hx2
            go_upto_region 13 with fail
            refine q_start (by kernel_rfl) (by kernel_rfl) ?_
            refine wq_in ?_
            refine wq_take _ (by rfl) (by intro x hx; go_simp; try with_reducible rfl) ?_
            try simp only [Act.put, List.setIfInBounds_toArray, List.set_cons_zero, List.set_cons_succ]
            refine wq_take _ (by rfl) (by intro x hx; go_simp; try with_reducible rfl) ?_
            try simp only [Act.put, List.setIfInBounds_toArray, List.set_cons_zero, List.set_cons_succ]
            refine wq_take _ (by rfl) (by intro x hx; go_simp; try with_reducible rfl) ?_
            try simp only [Act.put, List.setIfInBounds_toArray, List.set_cons_zero, List.set_cons_succ]
            refine wq_take _ (by rfl) (by intro x hx; have k2 := (K1.out.below hx).c2; have k3 := (K1.out.below hx).c3; have hcc := (hx.cell (p := ⟨b, off + m, none⟩) (by show b < _; omega)).trans V1.out; go_simp; try with_reducible rfl) ?_
            try simp only [Act.put, List.setIfInBounds_toArray, List.set_cons_zero, List.set_cons_succ]
            refine wq_call (.bool false) 29 (#[.float .f64 x]) (by rfl) (by intro w; go_simp; try with_reducible rfl) (fun x hx => (CC.out x).mono fun e w' ⟨he, hw⟩ => ⟨he, hw ▸ hx⟩) ?_
            try simp only [Act.put, List.setIfInBounds_toArray, List.set_cons_zero, List.set_cons_succ]
            refine wq_take _ (by rfl) (by intro x hx; go_simp; try with_reducible rfl) ?_
            try simp only [Act.put, List.setIfInBounds_toArray, List.set_cons_zero, List.set_cons_succ]
            refine wq_pass (by rfl) ?_
            try simp only [Act.put, List.setIfInBounds_toArray, List.set_cons_zero, List.set_cons_succ]
            refine wq_pass (by rfl) ?_
            try simp only [Act.put, List.setIfInBounds_toArray, List.set_cons_zero, List.set_cons_succ]
            refine wq_pass (by rfl) ?_
            try simp only [Act.put, List.setIfInBounds_toArray, List.set_cons_zero, List.set_cons_succ]
            refine wq_pass (by rfl) ?_
            try simp only [Act.put, List.setIfInBounds_toArray, List.set_cons_zero, List.set_cons_succ]
            refine wq_pass (by rfl) ?_
            try simp only [Act.put, List.setIfInBounds_toArray, List.set_cons_zero, List.set_cons_succ]
            refine wq_pass (by rfl) ?_
            try simp only [Act.put, List.setIfInBounds_toArray, List.set_cons_zero, List.set_cons_succ]
            refine wq_pass (by rfl) ?_
            try simp only [Act.put, List.setIfInBounds_toArray, List.set_cons_zero, List.set_cons_succ]
            refine wq_pass (by rfl) ?_
            try simp only [Act.put, List.setIfInBounds_toArray, List.set_cons_zero, List.set_cons_succ]
            refine wq_pass (by rfl) ?_
            try simp only [Act.put, List.setIfInBounds_toArray, List.set_cons_zero, List.set_cons_succ]
            refine wq_pass (by rfl) ?_
            try simp only [Act.put, List.setIfInBounds_toArray, List.set_cons_zero, List.set_cons_succ]
            refine wq_pass (by rfl) ?_
            try simp only [Act.put, List.setIfInBounds_toArray, List.set_cons_zero, List.set_cons_succ]
            refine wq_pass (by rfl) ?_
            try simp only [Act.put, List.setIfInBounds_toArray, List.set_cons_zero, List.set_cons_succ]
            refine wq_pass (by rfl) ?_
            try simp only [Act.put, List.setIfInBounds_toArray, List.set_cons_zero, List.set_cons_succ]
            refine wq_pass (by rfl) ?_
            try simp only [Act.put, List.setIfInBounds_toArray, List.set_cons_zero, List.set_cons_succ]
            refine wq_pass (by rfl) ?_
            try simp only [Act.put, List.setIfInBounds_toArray, List.set_cons_zero, List.set_cons_succ]
            refine wq_pass (by rfl) ?_
            try simp only [Act.put, List.setIfInBounds_toArray, List.set_cons_zero, List.set_cons_succ]
            refine wq_pass (by rfl) ?_
            try simp only [Act.put, List.setIfInBounds_toArray, List.set_cons_zero, List.set_cons_succ]
            refine wq_pass (by rfl) ?_
            try simp only [Act.put, List.setIfInBounds_toArray, List.set_cons_zero, List.set_cons_succ]
            refine wq_take _ (by rfl) (by intro x hx; go_simp; try with_reducible rfl) ?_
            try simp only [Act.put, List.setIfInBounds_toArray, List.set_cons_zero, List.set_cons_succ]
            refine wq_end ?_
            intro w3 hb
            replace K1 := Lib.hid (K1.out.below hb)
            replace KB := Lib.hid (KB.out.trans (hb.mono (by omega)))
            clear hb
            go_wp2_with fail
            go_roundw
            case rel => exact ⟨m + 1, by omega, by go_num, K1.out, KB.out⟩
            case measure => simp [intOf]; omega
          · rw [hc] at CC
            have h0 : g.c ≠ 0 := by
              have := List.countP_pos_iff.2 ⟨x, hmem, hc⟩
              have := HE.out.c
              omega
            have p1 := (HE.out.lo h0).2 x hmem hc
            have p2 := (HE.out.hi h0).2 x hmem hc
            have O1 := order_any g.lo x HE.out.ok.lo.2 hx2
            have O2 := order_any g.hi x HE.out.ok.hi.2 hx2
            have b1 : ordI g.lo x ≤ 0 := by rcases ordI_cases g.lo x with ⟨_, e⟩ | ⟨_, e⟩ | ⟨_, e⟩ <;> omega
            have b2 : 0 ≤ ordI g.hi x := by rcases ordI_cases g.hi x with ⟨_, e⟩ | ⟨_, e⟩ | ⟨_, e⟩ <;> omega
            generalize ordI g.lo x = v at *
            generalize ordI g.hi x = u at *
            have P1 := Lib.hid O1
            have P2 := Lib.hid O2
            have c1 : decide (0 < v) = false := decide_eq_false (by omega)
            have c2 : decide (u < 0) = false := decide_eq_false (by omega)
            have c3 : ¬ 0 < v := by omega
            have c4 : ¬ u < 0 := by omega
            clear O1 O2 p1 p2 h0 hc hmem hx2
            go_upto_region 13 with fail
            refine q_start (by kernel_rfl) (by kernel_rfl) ?_
            refine q_take _ (by rfl) (by intro x hx; go_simp; try with_reducible rfl) ?_
            try simp only [Act.put, List.setIfInBounds_toArray, List.set_cons_zero, List.set_cons_succ]
            refine q_take _ (by rfl) (by intro x hx; go_simp; try with_reducible rfl) ?_
            try simp only [Act.put, List.setIfInBounds_toArray, List.set_cons_zero, List.set_cons_succ]
            refine q_take _ (by rfl) (by intro x hx; go_simp; try with_reducible rfl) ?_
            try simp only [Act.put, List.setIfInBounds_toArray, List.set_cons_zero, List.set_cons_succ]
            refine q_take _ (by rfl) (by intro x hx; have k2 := (K1.out.below hx).c2; have k3 := (K1.out.below hx).c3; have hcc := (hx.cell (p := ⟨b, off + m, none⟩) (by show b < _; omega)).trans V1.out; go_simp; try with_reducible rfl) ?_
            try simp only [Act.put, List.setIfInBounds_toArray, List.set_cons_zero, List.set_cons_succ]
            refine q_call (.bool true) 29 (#[.float .f64 x]) (by rfl) (by intro w; go_simp; try with_reducible rfl) (fun x hx => (CC.out x).mono fun e w' ⟨he, hw⟩ => ⟨he, hw ▸ hx⟩) ?_
            try simp only [Act.put, List.setIfInBounds_toArray, List.set_cons_zero, List.set_cons_succ]
            refine q_take _ (by rfl) (by intro x hx; go_simp; try with_reducible rfl) ?_
            try simp only [Act.put, List.setIfInBounds_toArray, List.set_cons_zero, List.set_cons_succ]
            refine q_take _ (by rfl) (by intro x hx; go_simp; try with_reducible rfl) ?_
            try simp only [Act.put, List.setIfInBounds_toArray, List.set_cons_zero, List.set_cons_succ]
            refine q_take _ (by rfl) (by intro x hx; have k2 := (K1.out.below hx).c2; have k3 := (K1.out.below hx).c3; have hcc := (hx.cell (p := ⟨b, off + m, none⟩) (by show b < _; omega)).trans V1.out; go_simp; try with_reducible rfl) ?_
            try simp only [Act.put, List.setIfInBounds_toArray, List.set_cons_zero, List.set_cons_succ]
            refine q_take _ (by rfl) (by intro x hx; go_simp; try with_reducible rfl) ?_
            try simp only [Act.put, List.setIfInBounds_toArray, List.set_cons_zero, List.set_cons_succ]
            refine q_take _ (by rfl) (by intro x hx; go_simp; try with_reducible rfl) ?_
            try simp only [Act.put, List.setIfInBounds_toArray, List.set_cons_zero, List.set_cons_succ]
            refine q_take _ (by rfl) (by intro x hx; go_simp; try with_reducible rfl) ?_
            try simp only [Act.put, List.setIfInBounds_toArray, List.set_cons_zero, List.set_cons_succ]
            refine q_take _ (by rfl) (by intro x hx; have k2 := (K1.out.below hx).c2; have k3 := (K1.out.below hx).c3; have hcc := (hx.cell (p := ⟨b, off + m, none⟩) (by show b < _; omega)).trans V1.out; go_simp; try with_reducible rfl) ?_
            try simp only [Act.put, List.setIfInBounds_toArray, List.set_cons_zero, List.set_cons_succ]
            refine q_call (.int .i64 v) 26 (#[.float .f64 g.lo, .float .f64 x]) (by rfl) (by intro w; go_simp; try with_reducible rfl) (fun x hx => (P1.out x).mono fun e w' ⟨he, hw⟩ => ⟨he, hw ▸ hx⟩) ?_
            try simp only [Act.put, List.setIfInBounds_toArray, List.set_cons_zero, List.set_cons_succ]
            refine q_take _ (by rfl) (by intro x hx; go_simp; try with_reducible rfl) ?_
            try simp only [Act.put, List.setIfInBounds_toArray, List.set_cons_zero, List.set_cons_succ]
            refine q_take _ (by rfl) (by intro x hx; go_simp; try with_reducible rfl) ?_
            try simp only [Act.put, List.setIfInBounds_toArray, List.set_cons_zero, List.set_cons_succ]
            refine q_take _ (by rfl) (by intro x hx; go_simp; try with_reducible rfl) ?_
            try simp only [Act.put, List.setIfInBounds_toArray, List.set_cons_zero, List.set_cons_succ]
            refine q_take _ (by rfl) (by intro x hx; have k2 := (K1.out.below hx).c2; have k3 := (K1.out.below hx).c3; have hcc := (hx.cell (p := ⟨b, off + m, none⟩) (by show b < _; omega)).trans V1.out; go_simp; try with_reducible rfl) ?_
            try simp only [Act.put, List.setIfInBounds_toArray, List.set_cons_zero, List.set_cons_succ]
            refine q_take _ (by rfl) (by intro x hx; go_simp; try with_reducible rfl) ?_
            try simp only [Act.put, List.setIfInBounds_toArray, List.set_cons_zero, List.set_cons_succ]
            refine q_take _ (by rfl) (by intro x hx; go_simp; try with_reducible rfl) ?_
            try simp only [Act.put, List.setIfInBounds_toArray, List.set_cons_zero, List.set_cons_succ]
            refine q_take _ (by rfl) (by intro x hx; go_simp; try with_reducible rfl) ?_
            try simp only [Act.put, List.setIfInBounds_toArray, List.set_cons_zero, List.set_cons_succ]
            refine q_take _ (by rfl) (by intro x hx; have k2 := (K1.out.below hx).c2; have k3 := (K1.out.below hx).c3; have hcc := (hx.cell (p := ⟨b, off + m, none⟩) (by show b < _; omega)).trans V1.out; go_simp; try with_reducible rfl) ?_
            try simp only [Act.put, List.setIfInBounds_toArray, List.set_cons_zero, List.set_cons_succ]
            refine q_call (.int .i64 u) 26 (#[.float .f64 g.hi, .float .f64 x]) (by rfl) (by intro w; go_simp; try with_reducible rfl) (fun x hx => (P2.out x).mono fun e w' ⟨he, hw⟩ => ⟨he, hw ▸ hx⟩) ?_
            try simp only [Act.put, List.setIfInBounds_toArray, List.set_cons_zero, List.set_cons_succ]
            refine q_take _ (by rfl) (by intro x hx; go_simp; try with_reducible rfl) ?_
            try simp only [Act.put, List.setIfInBounds_toArray, List.set_cons_zero, List.set_cons_succ]
            refine q_take _ (by rfl) (by intro x hx; go_simp; try with_reducible rfl) ?_
            try simp only [Act.put, List.setIfInBounds_toArray, List.set_cons_zero, List.set_cons_succ]
            refine q_take _ (by rfl) (by intro x hx; go_simp; try with_reducible rfl) ?_
            try simp only [Act.put, List.setIfInBounds_toArray, List.set_cons_zero, List.set_cons_succ]
            refine wpQuiet_nil ?_
            intro w3 hb
            replace K1 := Lib.hid (K1.out.below hb)
            replace KB := Lib.hid (KB.out.trans (hb.mono (by omega)))
            clear hb
            go_wp2_with fail
            go_roundw
            case rel => exact ⟨m + 1, by omega, by go_num, K1.out, KB.out⟩
            case measure => simp [intOf]; omega
        · have l1 := leq_val HE.out.ok.lo.1 HE.out.ok.sm.1 HE.out.mid.1
          have l2 := leq_val HE.out.ok.sm.1 HE.out.ok.hi.1 HE.out.mid.2
          have l3 : (FloatKind.f64.format.order g.lo g.sm == some .lt || FloatKind.f64.format.order g.lo g.sm == some .eq) = true := l1
          have l4 : (FloatKind.f64.format.order g.sm g.hi == some .lt || FloatKind.f64.format.order g.sm g.hi == some .eq) = true := l2
          have L3 := Lib.hid l3
          have L4 := Lib.hid l4
          clear l1 l2 l3 l4
          go_wp2_with fail
          refine (alive_any _).mono ?_
          rintro e w3 ⟨rfl, hb⟩
          replace K1 := Lib.hid (K1.out.below hb)
          replace KB := Lib.hid (KB.out.trans (hb.mono (by omega)))
          clear hb
          have a2 := K1.out.c2
          have a3 := K1.out.c3
          have a4 := K1.out.c4
          have l3 := L3.out
          have l4 := L4.out
          go_wp2_with fail
          go_ret
          exact ⟨rfl, by rw [HB.out]; exact KB.out⟩
theorem walk (A0 : Option Addr) (n c0 : Nat) (l : List Nat) (t : Int) (w : World) (h0 : IsFlts w A0 n l) (_ : (Lit.int .i64 t).wf = true) :
    Calls Try.prog 13 #[.slice A0 n c0, .int .i64 t] w fun e w' => e = .returned (.bool true) ∧ Below w.heap.size w w' := by
  obtain ⟨hl, _, hb, hr⟩ := h0
  by_cases h : 0 < n ∧ n ≤ 200
  · rcases hr with h0 | ⟨b, off, rfl, hbl, hc⟩
    · have := congrArg List.length h0
      rw [List.length_map, List.length_nil] at this
      omega
    · exact hard t b off n c0 l hl hb h.1 h.2 w hbl (fun i v hv => hc i _ (by rw [List.getElem?_map, hv]; rfl))
  · exact easy t A0 n c0 (by omega) w
end GaugeEnds
end Go.Proofs.Ytijmbjnmfkiklaa
