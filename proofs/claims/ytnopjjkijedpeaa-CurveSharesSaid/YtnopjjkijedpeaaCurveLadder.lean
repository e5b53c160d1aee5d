/- The ladder of package curve. -/
import Derived.Test.YtnopjjkijedpeaaCurveTold
namespace Go.Proofs.Ytnopjjkijedpeaa
namespace Curve
open Go.ChangeShapes Go.WideShapes Go.ChangeAt Go.RowKit
open Num Mem Words Radix FieldN Chacha Quiet Go.Proofs.Ytnopjjkijedpeaa.Field Edwards

/-- what lies in memory round by round -/
structure LadW (w : World) (B b5 b6 b7 : Nat) (k : Nat → Nat) (u : Fin P) (s : Four P) (X : World) : Prop where
  key : Whole X B 22 (byteCells k 32).toArray
  res : Whole X (B + 1 + 1) 22 (byteCells (fun _ => 0) 32).toArray
  x1 : Whole X b5 38 (er u)
  two : ∃ f2 q2 f3 q3, Told f2 q2 f3 q3 s ∧ Whole X b6 78 (pw2 f2 q2) ∧ Whole X b7 78 (pw2 f3 q3)
  bel : Below B w X
def zp : Array Value := pw2 (fun _ => 0) (fun _ => 0)
theorem zp_size : zp.size = 64 := pw2_size _ _

set_option maxRecDepth 100000 in
set_option maxHeartbeats 4000000 in
theorem ladder_any (k f : Nat → Nat) (hk : ∀ i, k i < 256) (hf : ∀ i, f i < 256) (u : Fin P) (hu : tk f = u.val) : Gives 50 #[B32 k, B32 f] (B32 (byteAt (lad (le k 0 32) u).val)) := fun w => by
  obtain ⟨E, hE⟩ : ∃ E, E = le k 0 32 := ⟨_, rfl⟩
  have HBIT := Lib.hid (le_bit k hk)
  rw [← hE] at HBIT ⊢
  obtain ⟨R, hR⟩ : ∃ R, R = byteAt (lad E u).val := ⟨_, rfl⟩
  have HK := Lib.hid hk
  have CT := Lib.hid (takeF hf hu)
  have TS := Lib.hid (start_told hf hu)
  have HR := Lib.hid hR
  have HZ := Lib.hid (show ∀ f, (byteCells f 32).toArray.size = 32 from fun f => by rw [List.size_toArray, byteCells_length])
  rw [← hR]
  unfold B32
  clear hk hf hu hE hR
  go_enter Try.func50, Try.ntmps50
  go_upto_region 1 with fail
  refine cut_world (fun W => Whole W w.heap.size 22 (byteCells k 32).toArray ∧ Whole W (w.heap.size + 1) 22 (byteCells f 32).toArray ∧ Whole W (w.heap.size + 1 + 1) 22 (byteCells (fun _ => 0) 32).toArray ∧ Below w.heap.size w W) ⟨?_, ?_, ?_, ?_⟩ ?_
  · exact ((whole_new _ _ rfl).alloc _).alloc _
  · exact (whole_new _ _ (by simp)).alloc _
  · rw [byteCells_lit32 fun _ => 0]
    exact whole_new _ _ (by simp)
  · exact below_alloc (below_alloc (below_alloc (Below.refl _ _) _) _) _
  rintro W ⟨k1, k2, k3, kb⟩
  have K1 := Lib.hid k1
  have K2 := Lib.hid k2
  have K3 := Lib.hid k3
  have KB := Lib.hid kb
  clear k1 k2 k3 kb
  generalize hB : w.heap.size = B at K1 K2 K3 KB ⊢
  go_wp2_with (refine wpList_load_row rfl 22 (.tmp 3) rfl (B + 1) rfl 22 (byteCells f 32).toArray (0, 0) _ K2.out rfl rfl (by rw [HZ.out]; kernel_rfl) ?_)
  refine (CT.out _).mono ?_
  rintro e Y ⟨rfl, hb⟩
  have l1 := K1.out.lt
  have l2 := K2.out.lt
  have l3 := K3.out.lt
  have L1 := Lib.hid (K1.out.below hb l1)
  have L2 := Lib.hid (K2.out.below hb l2)
  have L3 := Lib.hid (K3.out.below hb l3)
  have LB := Lib.hid (KB.out.trans (hb.mono (by omega)))
  have hsz := hb.size
  clear hb K1 K2 K3 KB
  go_upto_region 2 with (refine wpList_store_row rfl 38 (.tmp 5) (.tmp 12) rfl Y.heap.size (er u) rfl rfl 38 _ (Whole.new _ _ _) (by rw [er_size]; kernel_rfl) (by rw [er_size]; rfl) (er_one _) ?_)
  refine cut_world (fun X => Whole X B 22 (byteCells k 32).toArray ∧ Whole X (B + 1) 22 (byteCells f 32).toArray ∧ Whole X (B + 1 + 1) 22 (byteCells (fun _ => 0) 32).toArray ∧ Whole X Y.heap.size 38 (er u) ∧ Below B w X ∧ B + 1 + 1 < Y.heap.size) ⟨Whole.farRow (L1.out.alloc _) (by omega) _, Whole.farRow (L2.out.alloc _) (by omega) _, Whole.farRow (L3.out.alloc _) (by omega) _, setRow_heap _ _ _ _ _ _ (Whole.new _ _ _), below_setRow (LB.out.alloc (by omega) _) (by omega) _, by omega⟩ ?_
  clear L1 L2 L3 LB l1 l2 l3 hsz
  generalize Y.heap.size = b5
  rintro X0 ⟨k1, k2, k3, k5, kb, hb5⟩
  have N1 := Lib.hid k1
  have N2 := Lib.hid k2
  have N3 := Lib.hid k3
  have N5 := Lib.hid k5
  have NB := Lib.hid kb
  clear k1 k2 k3 k5 kb
  refine region_drew (fun X => Below X0.heap.size X0 X) (by kernel_rfl) (below_drewN (Below.refl _ _) 1) ?_
  intro hS
  refine take 0 (B32 (byteAt 1)) rfl (by kernel_rfl) (by kernel_rfl) (by kernel_rfl) (fun _ _ _ h => h) (by rfl) hS (fun w _ => run_built1 22 0 (.const (.int .u8 1)) rfl (.int .u8 1) rfl (byteCells (byteAt 1) 32).toArray one_built) ?_
  try simp only [Act.put, List.setIfInBounds_toArray, List.set_cons_zero, List.set_cons_succ]
  refine take 1 (.agg (pw2 (byteAt 1) (fun _ => 0))) rfl (by kernel_rfl) (by kernel_rfl) (by kernel_rfl) (fun _ _ _ h => h) (by rfl) hS (fun w _ => run_pair1 (.tmp 13) rfl (byteAt 1) rfl) ?_
  try simp only [Act.put, List.setIfInBounds_toArray, List.set_cons_zero, List.set_cons_succ]
  refine take 2 (B32 f) rfl (by kernel_rfl) (by kernel_rfl) (by kernel_rfl) (fun _ _ _ h => h) (by rfl) hS (fun w hw => run_load_op 22 (.tmp 3) rfl (B + 1) rfl (N2.out.below hw N2.out.lt) rfl rfl (by rw [HZ.out]; kernel_rfl)) ?_
  try simp only [Act.put, List.setIfInBounds_toArray, List.set_cons_zero, List.set_cons_succ]
  refine take 3 (B32 (byteAt 1)) rfl (by kernel_rfl) (by kernel_rfl) (by kernel_rfl) (fun _ _ _ h => h) (by rfl) hS (fun w _ => run_built1 22 0 (.const (.int .u8 1)) rfl (.int .u8 1) rfl (byteCells (byteAt 1) 32).toArray one_built) ?_
  try simp only [Act.put, List.setIfInBounds_toArray, List.set_cons_zero, List.set_cons_succ]
  refine take 4 (.agg (pw2 f (byteAt 1))) rfl (by kernel_rfl) (by kernel_rfl) (by kernel_rfl) (fun _ _ _ h => h) (by rfl) hS (fun w _ => run_pair (.tmp 15) (.tmp 16) rfl f (byteAt 1) rfl rfl) ?_
  try simp only [Act.put, List.setIfInBounds_toArray, List.set_cons_zero, List.set_cons_succ]
  refine Float.float (W := X0) [(5, 6, .row 78 zp), (6, 7, .row 78 zp)] [5, 6] 2 rfl (by rfl) (by kernel_rfl) (by kernel_rfl) (by kernel_rfl) (by kernel_rfl) (by kernel_rfl) (fun γ => rfl) hS (fun _ h => h) ?_ ?_
  · intro γ
    simp only [Float.puts, Act.put, List.setIfInBounds_toArray, List.set_cons_zero, List.set_cons_succ]
    refine ⟨?_, ?_, trivial⟩
    · exact ⟨_, _, rfl, fun w => by go_simp; try rfl⟩
    · exact ⟨_, _, rfl, fun w => by go_simp; try rfl⟩
  · intro γ v hS hrows hne
    simp only [Float.puts, Act.put, List.setIfInBounds_toArray, List.set_cons_zero, List.set_cons_succ]
    obtain ⟨⟨hge6, hg6⟩, ⟨hge7, hg7⟩, -⟩ := hrows
    have hne6_7 := hne 5 6 rfl rfl (by decide) (by decide) (by decide)
    clear hne
    generalize γ 5 = b6 at *
    have Hg6 := Lib.hid hg6
    clear hg6
    generalize γ 6 = b7 at *
    have Hg7 := Lib.hid hg7
    clear hg7
    clear γ
    have l1 := N1.out.lt
    have l3 := N3.out.lt
    have l5 := N5.out.lt
    have J1 := Lib.hid (N1.out.below hS l1)
    have J3 := Lib.hid (N3.out.below hS l3)
    have J5 := Lib.hid (N5.out.below hS l5)
    have JB := Lib.hid (NB.out.trans (hS.mono (by omega)))
    refine alone 7 rfl (by kernel_rfl) (by rfl) ?_
    intro K hK
    refine wp_store_row 78 (.tmp 6) (.tmp 14) rfl b6 (pw2 (byteAt 1) (fun _ => 0)) (by rfl) (by rfl) 78 _ Hg6.out (by rw [pw2_size]; kernel_rfl) (by rw [zp_size, pw2_size]) (pw2_one _ _) ?_
    refine hK.out _ _ (below_setRow hS hge6 _) ?_
    clear hK K
    try simp only [Act.put]
    refine alone 8 rfl (by kernel_rfl) (by rfl) ?_
    intro K hK
    refine wp_store_row 78 (.tmp 7) (.tmp 17) rfl b7 (pw2 f (byteAt 1)) (by rfl) (by rfl) 78 _ (Whole.farRow Hg7.out (g := b6) (by omega) _) (by rw [pw2_size]; kernel_rfl) (by rw [zp_size, pw2_size]) (pw2_one _ _) ?_
    refine hK.out _ _ (below_setRow (below_setRow hS hge6 _) hge7 _) ?_
    clear hK K
    try simp only [Act.put]
    refine region_end (by kernel_rfl) ?_
    refine cut_post (F := Exit.then _ _) (fun X => LadW w B b5 b6 b7 k u (startF u) X ∧ B + 1 + 1 < b6 ∧ B + 1 + 1 < b7 ∧ b5 < b6 ∧ b5 < b7) ⟨⟨?_, ?_, ?_, ?_, ?_⟩, by omega, by omega, by omega, by omega⟩ ?_
    · exact Whole.farRow (Whole.farRow J1.out (by omega) _) (by omega) _
    · exact Whole.farRow (Whole.farRow J3.out (by omega) _) (by omega) _
    · exact Whole.farRow (Whole.farRow J5.out (by omega) _) (by omega) _
    · exact ⟨_, _, _, _, TS.out, Whole.farRow (setRow_heap _ _ _ _ _ _ Hg6.out) (by omega) _, setRow_heap _ _ _ _ _ _ (Whole.farRow Hg7.out (g := b6) (by omega) _)⟩
    · exact below_setRow (below_setRow JB.out (by omega) _) (by omega) _
    clear J1 J3 J5 JB Hg6 Hg7 hge6 hge7 hS N1 N2 N3 N5 NB l1 l3 l5
    rintro X1 ⟨hl, o1, o2, o3, o4⟩
    have HL := Lib.hid hl
    clear hl TS CT
    go_wp2_with fail
    go_loopw [18] (fun i wr => ∃ n : Nat, n ≤ 255 ∧ i = .int .i64 n ∧ LadW w B b5 b6 b7 k u (ladF kP u E 255 n) wr) (fun i _ => 255 - (intOf i).toNat)
    case atStart => exact ⟨0, by omega, rfl, HL.out⟩
    case round =>
      obtain ⟨i, hi, rfl, hl⟩ := hrel
      by_cases hlt : i < 255
      · have hi255 : (i : Int) < 255 := by omega
        obtain ⟨n, hn⟩ : ∃ n, n = 254 - i := ⟨_, rfl⟩
        have HN := Lib.hid (show (254 : Int) - (i : Int) = (n : Int) by omega)
        have hbit := HBIT.out n (by omega)
        have hp32 : n / 8 < 32 := by omega
        have ep := HK.out (n / 8)
        have HAND := Lib.hid (show bits .and .u8 ((k (n / 8) : Int) / 2 ^ (n % 8)) 1 = ((E / 2 ^ n % 2 : Nat) : Int) by
          rw [show ((k (n / 8) : Nat) : Int) / 2 ^ (n % 8) = ((k (n / 8) / 2 ^ (n % 8) : Nat) : Int) by rw [Int.natCast_ediv, Int.natCast_pow]; rfl, and1 _ (Nat.lt_of_le_of_lt (Nat.div_le_self _ _) ep), hbit])
        have HNX := Lib.hid (show ladF kP u E 255 (i + 1) = roundF kP u (E / 2 ^ n % 2) (ladF kP u E 255 i) by rw [ladF_next, show 255 - (i + 1) = n by omega])
        have hd2 : E / 2 ^ n % 2 < 2 := by omega
        generalize E / 2 ^ n % 2 = d at HAND HNX hd2
        have HD := Lib.hid hd2
        generalize ladF kP u E 255 i = s at hl HNX
        have c1 := hl.key.bytes (n / 8) hp32
        rw [Nat.zero_add] at c1
        have HL2 := Lib.hid hl
        have n256 : n < 256 := by omega
        clear hn hbit hl hd2 HL
        go_upto_region 7 with fail
        rw [HN.out]
        go_upto_region 8 with fail
        rw [HAND.out]
        obtain ⟨f2, q2, f3, q3, T, m6, m7⟩ := HL2.out.two
        go_wp2_with fail
        refine (change_told b6 b7 (by omega) d HD.out T _ m6 m7).mono ?_
        rintro e Z1 ⟨rfl, hk1, a2, p2, a3, p3, T1, r6, r7⟩
        have M1 := Lib.hid (hk1.whole HL2.out.key (by omega) (by omega))
        have M3 := Lib.hid (hk1.whole HL2.out.res (by omega) (by omega))
        have M5 := Lib.hid (hk1.whole HL2.out.x1 (by omega) (by omega))
        have hsz1 := HL2.out.key.lt
        have MB := Lib.hid (HL2.out.bel.trans (hk1.below (by omega) (by omega) (by omega)))
        have M6 := Lib.hid r6
        have M7 := Lib.hid r7
        clear hk1 r6 r7 m6 m7 T HL2 c1 hsz1
        obtain ⟨c2, d2, c3, d3, T2, hg⟩ := step_told u T1
        have HG := Lib.hid hg
        clear hg T1
        go_wp2_with (first | (refine wpList_load_row rfl 38 (.tmp 5) rfl b5 rfl 38 (er u) (0, 0) _ M5.out rfl rfl (by rw [er_size]; kernel_rfl) ?_) | (refine wpList_load_row rfl 78 (.tmp 6) rfl b6 rfl 78 (pw2 a2 p2) (0, 0) _ M6.out rfl rfl (by rw [pw2_size]; kernel_rfl) ?_) | (refine wpList_load_row rfl 78 (.tmp 7) rfl b7 rfl 78 (pw2 a3 p3) (0, 0) _ M7.out rfl rfl (by rw [pw2_size]; kernel_rfl) ?_))
        refine (HG.out _).mono ?_
        rintro e Z2 ⟨rfl, hb⟩
        have j1 := M1.out.lt
        have j6 := M6.out.lt
        have j7 := M7.out.lt
        replace M1 := Lib.hid (M1.out.below hb M1.out.lt)
        replace M3 := Lib.hid (M3.out.below hb M3.out.lt)
        replace M5 := Lib.hid (M5.out.below hb M5.out.lt)
        replace M6 := Lib.hid (M6.out.below hb M6.out.lt)
        replace M7 := Lib.hid (M7.out.below hb M7.out.lt)
        replace MB := Lib.hid (MB.out.trans (hb.mono (by omega)))
        clear hb HG j1 j6 j7
        go_upto_region 10 with (first | (refine wpList_store_row rfl 78 (.tmp 6) (.tmp 38) rfl b6 (pw2 c2 d2) rfl rfl 78 _ M6.out (by rw [pw2_size]; kernel_rfl) (by rw [pw2_size, pw2_size]) (pw2_one _ _) ?_) | (refine wpList_store_row rfl 78 (.tmp 7) (.tmp 39) rfl b7 (pw2 c3 d3) rfl rfl 78 _ (Whole.farRow M7.out (g := b6) (by omega) _) (by rw [pw2_size]; kernel_rfl) (by rw [pw2_size, pw2_size]) (pw2_one _ _) ?_))
        refine cut_world (fun X => Whole X B 22 (byteCells k 32).toArray ∧ Whole X (B + 1 + 1) 22 (byteCells (fun _ => 0) 32).toArray ∧ Whole X b5 38 (er u) ∧ Whole X b6 78 (pw2 c2 d2) ∧ Whole X b7 78 (pw2 c3 d3) ∧ Below B w X) ⟨Whole.farRow (Whole.farRow M1.out (by omega) _) (by omega) _, Whole.farRow (Whole.farRow M3.out (by omega) _) (by omega) _, Whole.farRow (Whole.farRow M5.out (by omega) _) (by omega) _, Whole.farRow (setRow_heap _ _ _ _ _ _ M6.out) (by omega) _, setRow_heap _ _ _ _ _ _ (Whole.farRow M7.out (g := b6) (by omega) _), below_setRow (below_setRow MB.out (by omega) _) (by omega) _⟩ ?_
        clear M1 M3 M5 M6 M7 MB
        rintro Z3 ⟨k1, k3, k5, k6, k7, kb⟩
        have M1 := Lib.hid k1
        have M3 := Lib.hid k3
        have M5 := Lib.hid k5
        have M6 := Lib.hid k6
        have M7 := Lib.hid k7
        have MB := Lib.hid kb
        clear k1 k3 k5 k6 k7 kb
        go_wp2_with fail
        refine (change_told b6 b7 (by omega) d HD.out T2 _ M6.out M7.out).mono ?_
        rintro e Z4 ⟨rfl, hk1, a2', p2', a3', p3', T3, r6, r7⟩
        rw [round_is, ← HNX.out] at T3
        have j1 := M1.out.lt
        have hfin : LadW w B b5 b6 b7 k u (ladF kP u E 255 (i + 1)) Z4 := ⟨hk1.whole M1.out (by omega) (by omega), hk1.whole M3.out (by omega) (by omega), hk1.whole M5.out (by omega) (by omega), ⟨_, _, _, _, T3, r6, r7⟩, MB.out.trans (hk1.below (by omega) (by omega) (by omega))⟩
        have HF := Lib.hid hfin
        clear hfin hk1 T3 T2 r6 r7 M1 M3 M5 M6 M7 MB j1
        go_wp2_with fail
        go_roundw
        case rel => exact ⟨i + 1, by omega, by go_num, HF.out⟩
        case measure => simp [intOf]; omega
      · obtain rfl : i = 255 := by omega
        rw [show ((255 : Nat) : Int) = 255 from rfl]
        obtain ⟨f2, q2, f3, q3, T, m6, m7⟩ := hl.two
        have hx := T.x2
        have CI := Lib.hid (invF T.l2 T.z2)
        have CM := Lib.hid (mulF T.l1 T.x2 (y := ivP (ladF kP u E 255 255).z2))
        rw [lad_is, ← HR.out] at CM
        generalize (ivP (ladF kP u E 255 255).z2).val = iz at CI CM
        have Q3 := Lib.hid hl.res
        have Q4 := Lib.hid m6
        have QB := Lib.hid hl.bel
        clear hl m6 m7 hx T HL
        go_upto_region 12 with fail
        refine region_drew (fun _ => True) (by kernel_rfl) trivial ?_
        intro _
        have hS : Below wr.heap.size wr wr.drew := below_drewN (Below.refl _ _) 1
        refine Float.float (W := wr) [(0, 43, .is (.pointer (some ⟨b6, 0, none⟩))), (1, 44, .is (B32 f2)), (2, 45, .is (.pointer (some ⟨b6, 32, none⟩))), (3, 46, .is (B32 q2)), (4, 47, .is (B32 (byteAt iz))), (5, 48, .is (B32 R))] [0, 1, 2, 3, 4, 5] 1 rfl (by rfl) (by kernel_rfl) (by kernel_rfl) (by kernel_rfl) (by kernel_rfl) (by kernel_rfl) (fun γ => rfl) hS (fun _ _ => trivial) ?_ ?_
        · intro γ
          simp only [Float.puts, Act.put, List.setIfInBounds_toArray, List.set_cons_zero, List.set_cons_succ]
          refine ⟨?_, ?_, ?_, ?_, ?_, ?_, trivial⟩
          · exact ⟨_, _, rfl, Float.does_take (by intro w _; go_simp; try with_reducible rfl)⟩
          · exact ⟨_, _, rfl, Float.does_take (fun w hw => run_part 22 (.tmp 43) rfl b6 0 rfl f2 (pair_first (Q4.out.below hw Q4.out.lt)) rfl rfl (by kernel_rfl))⟩
          · exact ⟨_, _, rfl, Float.does_take (by intro w _; go_simp; try with_reducible rfl)⟩
          · exact ⟨_, _, rfl, Float.does_take (fun w hw => run_part 22 (.tmp 45) rfl b6 32 rfl q2 (pair_second (Q4.out.below hw Q4.out.lt)) rfl rfl (by kernel_rfl))⟩
          · exact ⟨_, _, rfl, Float.does_call 57 (#[B32 q2]) (by intro w; go_simp; try with_reducible rfl) (fun w hw => CI.out w)⟩
          · exact ⟨_, _, rfl, Float.does_call 39 (#[B32 f2, B32 (byteAt iz)]) (by intro w; go_simp; try with_reducible rfl) (fun w hw => CM.out w)⟩
        · intro γ v hS hrows hne
          simp only [Float.puts, Act.put, List.setIfInBounds_toArray, List.set_cons_zero, List.set_cons_succ]
          clear hne hrows
          clear γ
          have l3 := Q3.out.lt
          have J3 := Lib.hid (Q3.out.below hS l3)
          have JB := Lib.hid (QB.out.trans (hS.mono (by omega)))
          refine alone 6 rfl (by kernel_rfl) (by rfl) ?_
          intro K hK
          refine wp_store_row 22 (.tmp 4) (.tmp 48) rfl (B + 1 + 1) (byteCells R 32).toArray (by rfl) (by rfl) 22 _ J3.out (by rw [HZ.out]; kernel_rfl) (by rw [HZ.out, HZ.out]) (bytes_one _ _) ?_
          refine hK.out _ _ trivial ?_
          clear hK K
          try simp only [Act.put]
          refine region_end (by kernel_rfl) ?_
          refine cut_post (F := Exit.then _ _) (fun X => Whole X (B + 1 + 1) 22 (byteCells R 32).toArray ∧ Below B w X) ⟨setRow_heap _ _ _ _ _ _ J3.out, below_setRow JB.out (by omega) _⟩ ?_
          clear J3 JB hS l3
          rintro X ⟨r3, rb⟩
          go_wp2_with fail
          refine bodyPost_ret (results_cell_row rfl _ _ (B + 1 + 1) 22 _ (0, 0) _ rfl r3 rfl rfl (by rw [HZ.out]; kernel_rfl)) rfl ?_
          exact ⟨rfl, by rw [hB]; exact rb⟩

end Curve
end Go.Proofs.Ytnopjjkijedpeaa
