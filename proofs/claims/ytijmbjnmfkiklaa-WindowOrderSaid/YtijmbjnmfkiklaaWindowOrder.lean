/- 'aditlaw15.WindowOrder' returns true at every input and writes nothing that was there: the walk. No condition. -/
import Derived.Test.YtijmbjnmfkiklaaWinAlive
import Derived.Test.YtijmbjnmfkiklaaWinNear
import Derived.Test.YtijmbjnmfkiklaaWinEq
import Derived.Test.YtijmbjnmfkiklaaFloatK
import Derived.Test.YtijmbjnmfkiklaaOps
import Derived.RegionTactic
import Derived.ChangeAlike
namespace Go.Proofs.Ytijmbjnmfkiklaa
namespace WindowOrder
open Go.ChangeShapes Go.WideShapes Go.ChangeAt Go.RowKit
open Num Mem Words Chacha Aead Poly Quiet WinT Win Ops

theorem and127 (v : Nat) : bits .and .u8 (v : Int) 127 = ((v % 128 : Nat) : Int) := by
  have h : (BitVec.ofInt 8 (v : Int) &&& BitVec.ofInt 8 127).toNat = v % 128 := by
    rw [BitVec.toNat_and, show (BitVec.ofInt 8 127).toNat = 2 ^ 7 - 1 from rfl, Nat.and_two_pow_sub_one_eq_mod, BitVec.toNat_ofInt]
    omega
  show IntKind.u8.wrap ((BitVec.ofInt 8 (v : Int) &&& BitVec.ofInt 8 127).toNat : Int) = _
  rw [h]
  simp [IntKind.wrap, IntKind.bits, IntKind.signed]
  omega
theorem and1023 (n : Int) : bits .and .i64 n 1023 = n % 1024 := by
  have h : (BitVec.ofInt 64 n &&& BitVec.ofInt 64 1023).toNat = (n % 1024).toNat := by
    rw [BitVec.toNat_and, show (BitVec.ofInt 64 1023).toNat = 2 ^ 10 - 1 from rfl, Nat.and_two_pow_sub_one_eq_mod]
    rw [BitVec.toNat_ofInt]
    omega
  show IntKind.i64.wrap ((BitVec.ofInt 64 n &&& BitVec.ofInt 64 1023).toNat : Int) = _
  rw [h]
  simp [IntKind.wrap, IntKind.bits, IntKind.signed]
  omega
theorem take_at (s : St) (hs : s.ok) (m : Nat) (w : World) : Calls Try.prog 20 #[.agg #[.int .u64 s.n, .int .u64 s.a, .int .u64 s.b], .int .u64 m] w fun e w' => e = .returned (.tuple #[.agg #[.int .u64 (take s m).n, .int .u64 (take s m).a, .int .u64 (take s m).b], .int .i64 (check s m : Nat)]) ∧ Below w.heap.size w w' := take_any s hs m w
def sta (base : Nat) (f : Nat → Nat) (k : Nat) : St := (playL (rowOf base f k)).1
theorem sta_snoc (base : Nat) (f : Nat → Nat) (k : Nat) : sta base f (k + 1) = take (sta base f k) (base + f k % 128) := by
  unfold sta
  rw [row_snoc, play_snoc, step_fst]
theorem sta_ok (base : Nat) (f : Nat → Nat) (k : Nat) : (sta base f k).ok := (play_is _).ok

set_option maxRecDepth 100000 in
theorem easy (base t : Int) (A : Option Addr) (n c : Nat) (h : 4611686018427387904 < base ∨ 60 < n ∨ n = 0) (w : World) :
    Calls Try.prog 7 #[.int .u64 base, .slice A n c, .int .i64 t] w fun e w' => e = .returned (.bool true) ∧ Below w.heap.size w w' := by
  have h1 : decide ((4611686018427387904 : Int) < base) = true ∨ decide ((4611686018427387904 : Int) < base) = false ∧ (decide (60 < n) = true ∧ 60 < n ∨ decide (60 < n) = false ∧ n = 0) := by
    by_cases a : (4611686018427387904 : Int) < base
    · exact .inl (decide_eq_true a)
    · refine .inr ⟨decide_eq_false a, ?_⟩
      by_cases b : 60 < n
      · exact .inl ⟨decide_eq_true b, b⟩
      · exact .inr ⟨decide_eq_false b, by omega⟩
  clear h
  rcases h1 with h1 | ⟨h1, ⟨h2, h3⟩ | ⟨h2, rfl⟩⟩
  all_goals
    go_enter Try.func7, Try.ntmps7
    go_wp2_with fail
    refine (alive_any _).mono ?_
    rintro e w1 ⟨rfl, hb⟩
    have KB := Lib.hid hb
    clear hb
    go_wp2_with fail
    go_ret
    exact ⟨rfl, KB.out⟩

set_option maxRecDepth 100000 in
set_option maxHeartbeats 8000000 in
theorem hard (base : Nat) (t : Int) (b off n c : Nat) (f : Nat → Nat) (hf : ∀ i, f i < 256) (hb : base ≤ 4611686018427387904) (hn : 0 < n) (hn6 : n ≤ 60) (w : World) (hbl : b < w.heap.size) (hr : ∀ i, i < n → w.cell? ⟨b, off + i, none⟩ = some (.int .u8 (f i : Nat))) :
    Calls Try.prog 7 #[.int .u64 base, .slice (some ⟨b, off, none⟩) n c, .int .i64 t] w fun e w' => e = .returned (.bool true) ∧ Below w.heap.size w w' := by
  have HR := Lib.hid hr
  have HF := Lib.hid hf
  have ht1 := Int.emod_nonneg t (show (1024 : Int) ≠ 0 by omega)
  have ht2 := Int.emod_lt_of_pos t (show (0 : Int) < 1024 by omega)
  have HA := Lib.hid (and1023 t)
  obtain ⟨T, hT⟩ : ∃ T : Nat, t % 1024 = (T : Int) := ⟨(t % 1024).toNat, by omega⟩
  rw [hT] at HA
  have hT2 : T < 1024 := by omega
  have hne : n ≠ 0 := by omega
  have hbI : (base : Int) ≤ 4611686018427387904 := by omega
  have hsame : sta base f n = sta base (fun i => f ((i + T) % n)) n := near_same (base := base) (by show base + 128 ≤ 18446744073709543423; omega) (row_near _ _ _) (row_near _ _ _) (row_turn base f n T hn)
  have hnext : base < (sta base f n).n := near_next (base := base) (by show base + 128 ≤ 18446744073709543423; omega) (row_near _ _ _) (by unfold rowOf; intro h; have := congrArg List.length h; simp at this; omega)
  have HS := Lib.hid hsame
  have HX := Lib.hid hnext
  have hz1 : decide ((4611686018427387904 : Int) < (base : Int)) = false := decide_eq_false (by omega)
  have hz2 : decide (60 < n) = false := decide_eq_false (by omega)
  have hz3 : ((n : Int) == 0) = false := by rw [beq_eq_false_iff_ne]; omega
  have hz4 : ((n : Int) = 0) = False := eq_false (by omega)
  have HNE := Lib.hid hne
  clear hr hf ht1 ht2 hT hsame hnext hne
  go_enter Try.func7, Try.ntmps7
  go_upto_region 4 with fail
  refine cut_world (fun W => Lies W w.heap.size 0 0 0 ∧ Lies W (w.heap.size + 1) 0 0 0 ∧ Below w.heap.size w W) ⟨(lies_new _ _ _ _).alloc _, whole_new _ _ (by simp), below_alloc (below_alloc (Below.refl _ _) _) _⟩ ?_
  rintro W ⟨h1, h2, h3⟩
  have H1 := Lib.hid h1
  have H2 := Lib.hid h2
  have H3 := Lib.hid h3
  clear h1 h2 h3
  obtain ⟨B, hB⟩ : ∃ B, w.heap.size = B := ⟨_, rfl⟩
  rw [hB] at H1 H2 H3 hbl ⊢
  have HB := Lib.hid hB
  clear hB
  go_wp2_with fail
  go_loopw [9] (fun i wr => ∃ (k : Nat), k ≤ n ∧ i = .int .i64 k ∧ Lies wr B (sta base f k).n (sta base f k).a (sta base f k).b ∧ Lies wr (B + 1) (sta base (fun i => f ((i + T) % n)) k).n (sta base (fun i => f ((i + T) % n)) k).a (sta base (fun i => f ((i + T) % n)) k).b ∧ Below B w wr) (fun i _ => n - (intOf i).toNat)
  case atStart => exact ⟨0, Nat.zero_le _, rfl, H1.out, H2.out, H3.out⟩
  case round =>
    obtain ⟨k, hk, rfl, h1, h2, h3⟩ := hrel
    have K1 := Lib.hid h1
    have K2 := Lib.hid h2
    have KB := Lib.hid h3
    have hsz := h2.lt
    clear h1 h2 h3 H1 H2 H3
    by_cases hlt : k < n
    · have hs1 := sta_snoc base f k
      have hs2 := sta_snoc base (fun i => f ((i + T) % n)) k
      have hok1 := sta_ok base f k
      have hok2 := sta_ok base (fun i => f ((i + T) % n)) k
      have hj : (k + T) % n < n := Nat.mod_lt _ hn
      obtain ⟨j, hjj⟩ : ∃ j, (k + T) % n = j := ⟨_, rfl⟩
      have hjI : ((k : Int) + (T : Int)).tmod (n : Int) = (j : Int) := by rw [← hjj, Int.natCast_emod, Int.natCast_add]; exact Int.tmod_eq_emod_of_nonneg (by omega)
      rw [hjj] at hs2 hj
      have v1 := HF.out k
      have v2 := HF.out j
      have hv1 := HR.out k hlt
      have hv2 := HR.out j hj
      generalize f k = x at *
      generalize f j = y at *
      generalize sta base f k = s at *
      generalize sta base (fun i => f ((i + T) % n)) k = r at *
      have A1 := Lib.hid (and127 x)
      have A2 := Lib.hid (and127 y)
      have hm1 := Nat.mod_lt x (show 128 > 0 by omega)
      have hm2 := Nat.mod_lt y (show 128 > 0 by omega)
      generalize x % 128 = p at *
      generalize y % 128 = q at *
      have C1 := Lib.hid (take_at s hok1 (base + p))
      have C2 := Lib.hid (take_at r hok2 (base + q))
      generalize check s (base + p) = E1 at C1
      generalize check r (base + q) = E2 at C2
      generalize hs' : take s (base + p) = s' at *
      generalize hr' : take r (base + q) = r' at *
      rw [Int.natCast_add] at C1 C2
      have HS1 := Lib.hid hs1
      have HS2 := Lib.hid hs2
      have HJ := Lib.hid hjI
      have V1 := Lib.hid hv1
      have V2 := Lib.hid hv2
      have w1 : IntKind.u64.wrap ((base : Int) + p) = (base : Int) + p := by rw [IntKind.wrap_u64]; omega
      have w2 : IntKind.u64.wrap ((base : Int) + q) = (base : Int) + q := by rw [IntKind.wrap_u64]; omega
      have W1 := Lib.hid w1
      have W2 := Lib.hid w2
      have w3 : IntKind.u64.wrap (p : Int) = (p : Int) := by rw [IntKind.wrap_u64]; omega
      have w4 : IntKind.u64.wrap (q : Int) = (q : Int) := by rw [IntKind.wrap_u64]; omega
      have W3 := Lib.hid w3
      have W4 := Lib.hid w4
      have w5 : IntKind.i64.wrap ((k : Int) + T) = (k : Int) + T := by rw [IntKind.wrap_i64]; omega
      have W5 := Lib.hid w5
      clear hs1 hs2 hok1 hok2 hjj hjI v1 v2 hv1 hv2 hs' hr' w1 w2 w3 w4 w5
      go_upto_region 7 with fail
      have hs0 := hsz
      refine region_drew (fun _ => True) (by kernel_rfl) trivial (fun _ => ?_)
      replace V1 := Lib.hid ((KB.out.cell (p := ⟨b, off + k, none⟩) hbl).trans V1.out)
      replace V2 := Lib.hid ((KB.out.cell (p := ⟨b, off + j, none⟩) hbl).trans V2.out)
      have hS : Below wr.heap.size wr wr.drew := Below.drew (Below.refl _ _)
      refine Float.float_one (W := wr) [(0, 34, .is (.agg #[.int .u64 s.n, .int .u64 s.a, .int .u64 s.b])), (1, 35, .is (.int .u64 base)), (2, 36, .is (.slice (some ⟨b, off, none⟩) n c)), (3, 37, .is (.int .i64 k)), (4, 38, .is (.pointer (some ⟨b, off + k, none⟩))), (5, 39, .is (.int .u8 x)), (6, 40, .is (.int .u8 p)), (7, 41, .is (.int .u64 p)), (8, 42, .is (.int .u64 ((base : Int) + p))), (9, 43, .is (.tuple #[.agg #[.int .u64 s'.n, .int .u64 s'.a, .int .u64 s'.b], .int .i64 E1])), (10, 33, .is (.tuple #[.agg #[.int .u64 s'.n, .int .u64 s'.a, .int .u64 s'.b], .int .i64 E1])), (11, 44, .is (.agg #[.int .u64 s'.n, .int .u64 s'.a, .int .u64 s'.b])), (12, 45, .is (.int .i64 E1)), (13, 10, .row 27 #[.int .u64 0, .int .u64 0, .int .u64 0])] [0, 1, 2, 3, 4, 5, 6, 7, 8, 9, 10, 11, 12, 13] 12 2 rfl (by rfl) (by kernel_rfl) (by kernel_rfl) (by kernel_rfl) (by kernel_rfl) (by kernel_rfl) (fun γ => rfl) rfl (.int .i64 E1) rfl (by kernel_rfl) (by kernel_rfl) (by kernel_rfl) (fun _ _ _ h => h) hS (fun _ _ => trivial) ?_ ?_ ?_
      · intro γ w
        simp only [Float.puts, Act.put, List.setIfInBounds_toArray, List.set_cons_zero, List.set_cons_succ]
        go_simp
        try with_reducible rfl
      · intro γ
        simp only [Float.puts, Act.put, List.setIfInBounds_toArray, List.set_cons_zero, List.set_cons_succ]
        refine ⟨?_, ?_, ?_, ?_, ?_, ?_, ?_, ?_, ?_, ?_, ?_, ?_, ?_, ?_, trivial⟩
        · exact ⟨_, _, rfl, Float.does_take (fun w hw => by have c0 := (K1.out.below hw).c0; have c1 := (K1.out.below hw).c1; have c2 := (K1.out.below hw).c2; go_simp; try with_reducible rfl)⟩
        · exact ⟨_, _, rfl, Float.does_take (by intro w _; go_simp; try with_reducible rfl)⟩
        · exact ⟨_, _, rfl, Float.does_take (by intro w _; go_simp; try with_reducible rfl)⟩
        · exact ⟨_, _, rfl, Float.does_take (by intro w _; go_simp; try with_reducible rfl)⟩
        · exact ⟨_, _, rfl, Float.does_take (by intro w _; go_simp; try with_reducible rfl)⟩
        · exact ⟨_, _, rfl, Float.does_take (fun w hw => by have c0 := (hw.cell (p := ⟨b, off + k, none⟩) (by show b < _; omega)).trans V1.out; go_simp; try with_reducible rfl)⟩
        · exact ⟨_, _, rfl, Float.does_take (by intro w _; go_simp; rw [A1.out]; try with_reducible rfl)⟩
        · exact ⟨_, _, rfl, Float.does_take (by intro w _; go_simp; try rw [W3.out]; try with_reducible rfl)⟩
        · exact ⟨_, _, rfl, Float.does_take (by intro w _; go_simp; try rw [W1.out]; try with_reducible rfl)⟩
        · exact ⟨_, _, rfl, Float.does_call 20 (#[.agg #[.int .u64 s.n, .int .u64 s.a, .int .u64 s.b], .int .u64 ((base : Int) + p)]) (by intro w; go_simp; try with_reducible rfl) (fun w hw => C1.out w)⟩
        · exact ⟨_, _, rfl, Float.does_take (by intro w _; go_simp; try with_reducible rfl)⟩
        · exact ⟨_, _, rfl, Float.does_take (by intro w _; go_simp; try with_reducible rfl)⟩
        · exact ⟨_, _, rfl, Float.does_take (by intro w _; go_simp; try with_reducible rfl)⟩
        · exact ⟨_, _, rfl, fun w => by go_simp; try rfl⟩
      · intro γ v hS hrows hne
        simp only [Float.puts, Act.put, List.setIfInBounds_toArray, List.set_cons_zero, List.set_cons_succ]
        obtain ⟨⟨hge10, hg10⟩, -⟩ := hrows
        clear hne
        generalize γ 13 = b10 at *
        have Hg10 := Lib.hid hg10
        clear hg10
        clear γ
        have A3 : Lies v b10 0 0 0 := Hg10.out
        have a0 := A3.c0
        have a1 := A3.c1
        have a2 := A3.c2
        have f0 := A3.free 0
        have f1 := A3.free 1
        have f2 := A3.free 2
        refine alone 14 rfl (by kernel_rfl) (by rfl) ?_
        intro K hK
        go_simp
        refine hK.out _ _ trivial ?_
        clear hK K
        try simp only [Act.put]
        refine alone 15 rfl (by kernel_rfl) (by rfl) ?_
        intro K hK
        go_simp
        refine hK.out _ _ trivial ?_
        clear hK K
        try simp only [Act.put]
        refine region_end (by kernel_rfl) ?_
        refine cut_post (F := Exit.then _ _) (fun U => Lies U b10 s'.n s'.a s'.b ∧ Below wr.heap.size wr U) ⟨A3.set0.set1.set2, ((hS.setCell hge10 _).setCell hge10 _).setCell hge10 _⟩ ?_
        clear a0 a1 a2 f0 f1 f2 A3 Hg10 hS
        rintro X ⟨kx, hb⟩
        have KXb10 := Lib.hid kx
        have hxb10 := kx.lt
        replace K1 := Lib.hid (K1.out.below hb)
        replace K2 := Lib.hid (K2.out.below hb)
        replace KB := Lib.hid (KB.out.trans (hb.mono (by omega)))
        replace V1 := Lib.hid ((hb.cell (p := ⟨b, off + k, none⟩) (by show b < _; omega)).trans V1.out)
        replace V2 := Lib.hid ((hb.cell (p := ⟨b, off + j, none⟩) (by show b < _; omega)).trans V2.out)
        replace hsz := K2.out.lt
        have hzb10 := hb.size
        clear hb kx
        go_upto_region 8 with fail
        refine region_drew (fun _ => True) (by kernel_rfl) trivial (fun _ => ?_)
        have hS : Below X.heap.size X X.drew := Below.drew (Below.refl _ _)
        refine Float.float_one (W := X) [(0, 47, .is (.agg #[.int .u64 r.n, .int .u64 r.a, .int .u64 r.b])), (1, 48, .is (.int .u64 base)), (2, 49, .is (.slice (some ⟨b, off, none⟩) n c)), (3, 50, .is (.int .i64 k)), (4, 51, .is (.int .i64 t)), (5, 52, .is (.int .i64 T)), (6, 53, .is (.int .i64 ((k : Int) + T))), (7, 54, .is (.slice (some ⟨b, off, none⟩) n c)), (8, 55, .is (.int .i64 n)), (9, 56, .is (.int .i64 j)), (10, 57, .is (.pointer (some ⟨b, off + j, none⟩))), (11, 58, .is (.int .u8 y)), (12, 59, .is (.int .u8 q)), (13, 60, .is (.int .u64 q)), (14, 61, .is (.int .u64 ((base : Int) + q))), (15, 62, .is (.tuple #[.agg #[.int .u64 r'.n, .int .u64 r'.a, .int .u64 r'.b], .int .i64 E2])), (16, 46, .is (.tuple #[.agg #[.int .u64 r'.n, .int .u64 r'.a, .int .u64 r'.b], .int .i64 E2])), (17, 63, .is (.agg #[.int .u64 r'.n, .int .u64 r'.a, .int .u64 r'.b])), (18, 64, .is (.int .i64 E2)), (19, 12, .row 27 #[.int .u64 0, .int .u64 0, .int .u64 0])] [0, 1, 2, 3, 4, 5, 6, 7, 8, 9, 10, 11, 12, 13, 14, 15, 16, 17, 18, 19] 18 2 rfl (by rfl) (by kernel_rfl) (by kernel_rfl) (by kernel_rfl) (by kernel_rfl) (by kernel_rfl) (fun γ => rfl) rfl (.int .i64 E2) rfl (by kernel_rfl) (by kernel_rfl) (by kernel_rfl) (fun _ _ _ h => h) hS (fun _ _ => trivial) ?_ ?_ ?_
        · intro γ w
          simp only [Float.puts, Act.put, List.setIfInBounds_toArray, List.set_cons_zero, List.set_cons_succ]
          go_simp
          try with_reducible rfl
        · intro γ
          simp only [Float.puts, Act.put, List.setIfInBounds_toArray, List.set_cons_zero, List.set_cons_succ]
          refine ⟨?_, ?_, ?_, ?_, ?_, ?_, ?_, ?_, ?_, ?_, ?_, ?_, ?_, ?_, ?_, ?_, ?_, ?_, ?_, ?_, trivial⟩
          · exact ⟨_, _, rfl, Float.does_take (fun w hw => by have c0 := (K2.out.below hw).c0; have c1 := (K2.out.below hw).c1; have c2 := (K2.out.below hw).c2; go_simp; try with_reducible rfl)⟩
          · exact ⟨_, _, rfl, Float.does_take (by intro w _; go_simp; try with_reducible rfl)⟩
          · exact ⟨_, _, rfl, Float.does_take (by intro w _; go_simp; try with_reducible rfl)⟩
          · exact ⟨_, _, rfl, Float.does_take (by intro w _; go_simp; try with_reducible rfl)⟩
          · exact ⟨_, _, rfl, Float.does_take (by intro w _; go_simp; try with_reducible rfl)⟩
          · exact ⟨_, _, rfl, Float.does_take (by intro w _; go_simp; rw [HA.out]; try with_reducible rfl)⟩
          · exact ⟨_, _, rfl, Float.does_take (by intro w _; go_simp; try rw [W5.out]; try with_reducible rfl)⟩
          · exact ⟨_, _, rfl, Float.does_take (by intro w _; go_simp; try with_reducible rfl)⟩
          · exact ⟨_, _, rfl, Float.does_take (by intro w _; go_simp; try with_reducible rfl)⟩
          · exact ⟨_, _, rfl, Float.does_take (by intro w _; go_simp; rw [HJ.out, if_neg HNE.out])⟩
          · exact ⟨_, _, rfl, Float.does_take (by intro w _; go_simp; try with_reducible rfl)⟩
          · exact ⟨_, _, rfl, Float.does_take (fun w hw => by have c0 := (hw.cell (p := ⟨b, off + j, none⟩) (by show b < _; omega)).trans V2.out; go_simp; try with_reducible rfl)⟩
          · exact ⟨_, _, rfl, Float.does_take (by intro w _; go_simp; rw [A2.out]; try with_reducible rfl)⟩
          · exact ⟨_, _, rfl, Float.does_take (by intro w _; go_simp; try rw [W4.out]; try with_reducible rfl)⟩
          · exact ⟨_, _, rfl, Float.does_take (by intro w _; go_simp; try rw [W2.out]; try with_reducible rfl)⟩
          · exact ⟨_, _, rfl, Float.does_call 20 (#[.agg #[.int .u64 r.n, .int .u64 r.a, .int .u64 r.b], .int .u64 ((base : Int) + q)]) (by intro w; go_simp; try with_reducible rfl) (fun w hw => C2.out w)⟩
          · exact ⟨_, _, rfl, Float.does_take (by intro w _; go_simp; try with_reducible rfl)⟩
          · exact ⟨_, _, rfl, Float.does_take (by intro w _; go_simp; try with_reducible rfl)⟩
          · exact ⟨_, _, rfl, Float.does_take (by intro w _; go_simp; try with_reducible rfl)⟩
          · exact ⟨_, _, rfl, fun w => by go_simp; try rfl⟩
        · intro γ v hS hrows hne
          simp only [Float.puts, Act.put, List.setIfInBounds_toArray, List.set_cons_zero, List.set_cons_succ]
          obtain ⟨⟨hge12, hg12⟩, -⟩ := hrows
          clear hne
          generalize γ 19 = b12 at *
          have Hg12 := Lib.hid hg12
          clear hg12
          clear γ
          have A3 : Lies v b12 0 0 0 := Hg12.out
          have a0 := A3.c0
          have a1 := A3.c1
          have a2 := A3.c2
          have f0 := A3.free 0
          have f1 := A3.free 1
          have f2 := A3.free 2
          refine alone 20 rfl (by kernel_rfl) (by rfl) ?_
          intro K hK
          go_simp
          refine hK.out _ _ trivial ?_
          clear hK K
          try simp only [Act.put]
          refine alone 21 rfl (by kernel_rfl) (by rfl) ?_
          intro K hK
          go_simp
          refine hK.out _ _ trivial ?_
          clear hK K
          try simp only [Act.put]
          refine region_end (by kernel_rfl) ?_
          refine cut_post (F := Exit.then _ _) (fun U => Lies U b12 r'.n r'.a r'.b ∧ Below X.heap.size X U) ⟨A3.set0.set1.set2, ((hS.setCell hge12 _).setCell hge12 _).setCell hge12 _⟩ ?_
          clear a0 a1 a2 f0 f1 f2 A3 Hg12 hS
          rintro Y ⟨kx, hb⟩
          have KXb12 := Lib.hid kx
          have hxb12 := kx.lt
          replace K1 := Lib.hid (K1.out.below hb)
          replace K2 := Lib.hid (K2.out.below hb)
          replace KB := Lib.hid (KB.out.trans (hb.mono (by omega)))
          replace KXb10 := Lib.hid (KXb10.out.below hb)
          replace V1 := Lib.hid ((hb.cell (p := ⟨b, off + k, none⟩) (by show b < _; omega)).trans V1.out)
          replace V2 := Lib.hid ((hb.cell (p := ⟨b, off + j, none⟩) (by show b < _; omega)).trans V2.out)
          replace hsz := K2.out.lt
          have hzb12 := hb.size
          clear hb kx
          go_upto_region 9 with fail
          have a0 := KXb10.out.c0
          have a1 := KXb10.out.c1
          have a2 := KXb10.out.c2
          have e0 := KXb12.out.c0
          have e1 := KXb12.out.c1
          have e2 := KXb12.out.c2
          have d0 := K1.out.c0
          have d1 := K1.out.c1
          have d2 := K1.out.c2
          have g0 := K2.out.c0
          have g1 := K2.out.c1
          have g2 := K2.out.c2
          have f0 := K1.out.free 0
          have f1 := K1.out.free 1
          have f2 := K1.out.free 2
          have f3 := K2.out.free 0
          have f4 := K2.out.free 1
          have f5 := K2.out.free 2
          have n1 : b10 ≠ B := by omega
          have n2 : b12 ≠ B := by omega
          have n3 : b12 ≠ B + 1 := by omega
          go_region
          refine cut_post (F := Exit.inBlock _ _) (fun Z => Lies Z B s'.n s'.a s'.b ∧ Lies Z (B + 1) r'.n r'.a r'.b ∧ Below B w Z) ⟨?_, ?_, ?_⟩ ?_
          · exact Whole.drew ((((K1.out.set0.set1.set2).far (by show B ≠ B + 1; omega)).far (by show B ≠ B + 1; omega)).far (by show B ≠ B + 1; omega))
          · exact Whole.drew (Lies.set2 (Lies.set1 (Lies.set0 (((K2.out.far (by show B + 1 ≠ B; omega)).far (by show B + 1 ≠ B; omega)).far (by show B + 1 ≠ B; omega)))))
          · exact below_drewN (((((((KB.out.setCell (by show B ≤ B; omega) _).setCell (by show B ≤ B; omega) _).setCell (by show B ≤ B; omega) _).setCell (by show B ≤ B + 1; omega) _).setCell (by show B ≤ B + 1; omega) _).setCell (by show B ≤ B + 1; omega) _)) 1
          clear a0 a1 a2 e0 e1 e2 d0 d1 d2 g0 g1 g2 f0 f1 f2 f3 f4 f5 n1 n2 n3 K1 K2 KB KXb10 KXb12
          rintro Z ⟨h1, h2, h3⟩
          have K1 := Lib.hid h1
          have K2 := Lib.hid h2
          have KB := Lib.hid h3
          clear h1 h2 h3
          go_wp2_with fail
          go_roundw
          case rel => exact ⟨k + 1, by omega, by go_num, by rw [HS1.out]; exact K1.out, by rw [HS2.out]; exact K2.out, KB.out⟩
          case measure => simp [intOf]; omega
    · have hkn : k = n := by omega
      subst hkn
      have hok := sta_ok base f k
      rw [← HS.out] at K2
      have HX2 := HX.out
      generalize sta base f k = s at *
      have HEQ := Lib.hid (fun w => win_eq s hok w)
      have hgt : decide ((base : Int) < (s.n : Int)) = true := decide_eq_true (by omega)
      have hgt2 : decide (base < s.n) = true := decide_eq_true HX2
      have HNX := Lib.hid (show ∀ w, Calls Try.prog 21 #[.agg #[.int .u64 s.n, .int .u64 s.a, .int .u64 s.b]] w fun e w' => e = .returned (.int .u64 s.n) ∧ Below w.heap.size w w' from fun w => next_any s w)
      go_wp2_with fail
      refine (alive_any _).mono ?_
      rintro e w3 ⟨rfl, hb⟩
      replace K1 := Lib.hid (K1.out.below hb)
      replace K2 := Lib.hid (K2.out.below hb)
      replace KB := Lib.hid (KB.out.trans (hb.mono (by omega)))
      have hs3 := hb.size
      clear hb
      have a0 := K1.out.c0
      have a1 := K1.out.c1
      have a2 := K1.out.c2
      have b0 := K2.out.c0
      have b1 := K2.out.c1
      have b2 := K2.out.c2
      go_wp2_with (refine wpList_value_if (by rfl) (.bool true) (run_eql_op 27 (.tmp 69) (.tmp 70) _ rfl _ _ rfl rfl true (by kernel_rfl) HEQ.out _) ?_)
      refine (HNX.out _).mono ?_
      rintro e w4 ⟨rfl, hb⟩
      replace KB := Lib.hid (KB.out.trans (hb.mono (by omega)))
      clear hb a0 a1 a2 b0 b1 b2
      go_wp2_with fail
      go_ret
      exact ⟨rfl, by rw [HB.out]; exact KB.out⟩
theorem walk (base : Int) (A : Option Addr) (n c : Nat) (zs : List Int) (t : Int) (w : World) (h0 : (Lit.int .u64 base).wf = true) (h1 : IsRow .u8 w A n c zs) (_ : (Lit.int .i64 t).wf = true) :
    Calls Try.prog 7 #[.int .u64 base, .slice A n c, .int .i64 t] w fun e w' => e = .returned (.bool true) ∧ Below w.heap.size w w' := by
  obtain ⟨m, rfl, _⟩ := nat_u64 h0
  obtain ⟨f, hf, hr, _, _⟩ := rd_of_row h1
  by_cases h : m ≤ 4611686018427387904 ∧ 0 < n ∧ n ≤ 60
  · rcases hr with h0 | ⟨b, off, rfl, hb, hc⟩
    · omega
    · exact hard m t b off n c f hf h.1 h.2.1 h.2.2 w hb hc
  · exact easy m t A n c (by omega) w
end WindowOrder
end Go.Proofs.Ytijmbjnmfkiklaa
