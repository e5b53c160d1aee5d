/- The walk of 'FieldElements'. -/
import Derived.Test.YtnopjjkijedpeaaFieldAlive
import Derived.Test.YtnopjjkijedpeaaRefTake
import Derived.Test.YtnopjjkijedpeaaRefBytes
import Derived.Test.YtnopjjkijedpeaaRefInvert
import Derived.Test.YtnopjjkijedpeaaTree
import Derived.Test.YtnopjjkijedpeaaFloatB
import Derived.Test.YtnopjjkijedpeaaFloatC
import Derived.Deep.DeepCutAuto
namespace Go.Proofs.Ytnopjjkijedpeaa
namespace FieldElements
open Go.ChangeShapes Go.WideShapes Go.ChangeAt Go.RowKit
open Num Mem Words Radix FieldN Chacha Quiet Go.Proofs.Ytnopjjkijedpeaa.Field

def ec (v : Nat) : Array Value := (qcells (dg 2251799813685248 v) 5).toArray
theorem ec_size (v : Nat) : (ec v).size = 5 := qcells_size _ _
def nc (v : Nat) : Array Value := (icells (dg 65536 v) 16).toArray
theorem nc_size (v : Nat) : (nc v).size = 16 := icells_size _ _
theorem taken_lt (f : Nat → Nat) : le f 0 32 % T < RefF.M256 := Nat.lt_of_lt_of_le (Nat.mod_lt _ (by have := T_big; omega)) (by have := RefF.M_T; omega)
theorem cc2_lt {v : Nat} (h : v < 8 * RefF.M256) : RefF.cc2 v < RefF.M256 := RefF.cv_two (Nat.lt_of_lt_of_le (Nat.div_lt_of_lt_mul (by rw [Nat.mul_comm]; exact h)) (by omega))
theorem M_P3 : RefF.M256 < 3 * P := by have := RefF.M_P; have := P_big; omega
theorem P_M : P < RefF.M256 := by have := RefF.M_P; omega
theorem sub_same (x y : Nat) (hy : y < 3 * P) : (x + 4 * P - y) % P = (x % P + (P - y % P)) % P := by
  have h1 := Nat.div_add_mod x P
  have h2 := Nat.div_add_mod y P
  have hq : y / P < 3 := Nat.div_lt_of_lt_mul (by rw [Nat.mul_comm]; exact hy)
  have hb := Nat.mod_lt y P_pos
  generalize x / P = q at h1
  generalize x % P = a at h1 ⊢
  generalize y / P = r at h2 hq
  generalize y % P = b at h2 hb ⊢
  have e : x + 4 * P - y = a + (P - b) + P * (q + (3 - r)) := by
    rw [Nat.mul_add, ← h1, ← h2]
    generalize P * q = Z
    rcases (show r = 0 ∨ r = 1 ∨ r = 2 by omega) with rfl | rfl | rfl <;> omega
  rw [e, Nat.add_mul_mod_self_left]
theorem mod_M (a : Nat) : a % P < RefF.M256 := Nat.lt_trans (Nat.mod_lt _ P_pos) P_M
theorem mod_P (a : Nat) : a % P % P = a % P := Nat.mod_mod _ _
theorem n_M {n : Nat} (h : n < 4294967296) : n < RefF.M256 := by have := RefF.M_big; omega

/-- both pairs are of one number each -/
def Ok (X Y U V : Nat) : Prop := X < P ∧ Y < P ∧ U < RefF.M256 ∧ V < RefF.M256 ∧ U % P = X ∧ V % P = Y
theorem ok_add {X Y U V : Nat} (h : Ok X Y U V) : Ok ((X + Y) % P) Y (RefF.cc2 (U + V)) V := by
  obtain ⟨h1, h2, h3, h4, h5, h6⟩ := h
  exact ⟨Nat.mod_lt _ P_pos, h2, cc2_lt (by omega), h4, by rw [RefF.cc2_mod, Nat.add_mod, h5, h6], h6⟩
theorem ok_sub {X Y U V : Nat} (h : Ok X Y U V) : Ok ((X + (P - Y)) % P) Y (RefF.cc2 (U + 4 * P - V)) V := by
  obtain ⟨h1, h2, h3, h4, h5, h6⟩ := h
  exact ⟨Nat.mod_lt _ P_pos, h2, cc2_lt (by have := RefF.M_P; omega), h4, by rw [RefF.cc2_mod, sub_same U V (Nat.lt_trans h4 M_P3), h5, h6], h6⟩
theorem ok_mul {X Y U V m : Nat} (h : Ok X Y U V) (hm : m < RefF.M256) (hm2 : m % P = U * V % P) : Ok (X * Y % P) Y m V := by
  obtain ⟨h1, h2, h3, h4, h5, h6⟩ := h
  exact ⟨Nat.mod_lt _ P_pos, h2, hm, h4, by rw [hm2, Nat.mul_mod, h5, h6], h6⟩
theorem ok_small {X Y U V m n : Nat} (h : Ok X Y U V) (hm : m < RefF.M256) (hm2 : m % P = U * n % P) : Ok (X * n % P) Y m V := by
  obtain ⟨h1, h2, h3, h4, h5, h6⟩ := h
  exact ⟨Nat.mod_lt _ P_pos, h2, hm, h4, by rw [hm2, ← Nat.mod_mul_mod, h5], h6⟩
theorem ok_swap {X Y U V : Nat} (h : Ok X Y U V) : Ok Y X V U := by
  obtain ⟨h1, h2, h3, h4, h5, h6⟩ := h
  exact ⟨h2, h1, h4, h3, h6, h5⟩
theorem ok_inv {X Y U V m : Nat} (h : Ok X Y U V) (hm : m < RefF.M256) (hm2 : m % P = U ^ (P - 2) % P) : Ok (X ^ (P - 2) % P) Y m V := by
  obtain ⟨h1, h2, h3, h4, h5, h6⟩ := h
  exact ⟨Nat.mod_lt _ P_pos, h2, hm, h4, by rw [hm2, Nat.pow_mod, h5], h6⟩
theorem mul_some (a b : Nat) (ha : a < RefF.M256) (hb : b < RefF.M256) (w : World) :
    Calls Try.prog 23 #[.agg (nc a), .agg (nc b)] w fun e w' => ∃ v, e = .returned v ∧ (∃ m, m < RefF.M256 ∧ m % P = a * b % P ∧ v = .agg (nc m)) ∧ Below w.heap.size w w' :=
  (RefF.mul_any a b ha hb w).mono fun _ _ ⟨m, h1, h2, h3, h4⟩ => ⟨_, h3, ⟨m, h1, h2, rfl⟩, h4⟩
theorem invert_some (a : Nat) (ha : a < RefF.M256) (w : World) :
    Calls Try.prog 27 #[.agg (nc a)] w fun e w' => ∃ v, e = .returned v ∧ (∃ m, m < RefF.M256 ∧ m % P = a ^ (P - 2) % P ∧ v = .agg (nc m)) ∧ Below w.heap.size w w' :=
  (RefF.invert_any a ha w).mono fun _ _ ⟨m, h1, h2, h3, h4⟩ => ⟨_, h3, ⟨m, h1, h2, rfl⟩, h4⟩

theorem dg_zero : dg 2251799813685248 0 = fun _ => 0 := funext fun i => by
  unfold dg
  rw [Nat.zero_div]
theorem el_ec (v : Nat) : el v = .agg (ec v) := rfl
theorem nv_nc (v : Nat) : RefF.nv v = .agg (nc v) := rfl

/-- what lies in memory round by round -/
structure ElW (w : World) (B b9 b10 b11 b12 : Nat) (X Y U V : Nat) (Z : World) : Prop where
  x : Whole Z b9 38 (ec X)
  y : Whole Z b10 38 (ec Y)
  u : Whole Z b11 24 (nc U)
  v : Whole Z b12 24 (nc V)
  bel : Below B w Z

/-- what lies in memory while both pairs change places -/
structure SwW (w : World) (B b9 b10 b11 b12 : Nat) (X Y U V : Nat) (p : List Nat) (Z : World) : Prop where
  x : (4 ∈ p → Whole Z b9 38 (ec X)) ∧ (4 ∉ p → Whole Z b9 38 (ec Y))
  y : (5 ∈ p → Whole Z b10 38 (ec Y)) ∧ (5 ∉ p → Whole Z b10 38 (ec X))
  u : (6 ∈ p → Whole Z b11 24 (nc U)) ∧ (6 ∉ p → Whole Z b11 24 (nc V))
  v : (7 ∈ p → Whole Z b12 24 (nc V)) ∧ (7 ∉ p → Whole Z b12 24 (nc U))
  bel : Below B w Z
theorem keep {p : List Nat} {i j : Nat} {A C : Prop} (h : (j ∈ p → A) ∧ (j ∉ p → C)) (hi : j ≠ i) : (j ∈ p.erase i → A) ∧ (j ∉ p.erase i → C) :=
  ⟨fun e => h.1 (List.mem_of_mem_erase e), fun e => h.2 fun e' => e ((List.mem_erase_of_ne hi).2 e')⟩
theorem keepF {p : List Nat} {i j : Nat} {A C A' C' : Prop} (h : (j ∈ p → A) ∧ (j ∉ p → C)) (hi : j ≠ i) (hA : A → A') (hC : C → C') : (j ∈ p.erase i → A') ∧ (j ∉ p.erase i → C') :=
  ⟨fun e => hA (h.1 (List.mem_of_mem_erase e)), fun e => hC (h.2 fun e' => e ((List.mem_erase_of_ne hi).2 e'))⟩
theorem done {p : List Nat} {i : Nat} {A C : Prop} (hn : p.Nodup) (hC : C) : (i ∈ p.erase i → A) ∧ (i ∉ p.erase i → C) := ⟨fun e => absurd e (FloatC.erase_self hn), fun _ => hC⟩
theorem SwW.skip {w Z : World} {B b9 b10 b11 b12 X Y U V : Nat} {p : List Nat} (h : SwW w B b9 b10 b11 b12 X Y U V p Z) (i : Nat) (hi : i < 4) : SwW w B b9 b10 b11 b12 X Y U V (p.erase i) Z :=
  ⟨keep h.x (by omega), keep h.y (by omega), keep h.u (by omega), keep h.v (by omega), h.bel⟩

set_option maxRecDepth 100000 in
set_option maxHeartbeats 8000000 in
theorem core (f g : Nat → Nat) (n : Nat) (A : Option Addr) (on c : Nat) (o : Nat → Nat) (w0 : World) (hf : ∀ i, f i < 256) (hg : ∀ i, g i < 256) (hn : n < 4294967296) (ho : ∀ i, o i < 256) (hr : Rd w0 A on o) (hoc : on ≤ c) (_hc : c ≤ 9223372036854775807) :
    Calls Try.prog 4 #[.agg (byteCells f 32).toArray, .agg (byteCells g 32).toArray, .int .u32 n, .slice A on c] w0 fun e w' => e = .returned (.bool true) ∧ Below w0.heap.size w0 w' := by
  obtain ⟨X0, hX0⟩ : ∃ v, v = tk f := ⟨_, rfl⟩
  obtain ⟨Y0, hY0⟩ : ∃ v, v = tk g := ⟨_, rfl⟩
  obtain ⟨U1, hU1⟩ : ∃ v, v = le f 0 32 % T := ⟨_, rfl⟩
  obtain ⟨V1, hV1⟩ : ∃ v, v = le g 0 32 % T := ⟨_, rfl⟩
  have HOK := Lib.hid (show Ok X0 Y0 U1 V1 from ⟨by rw [hX0]; exact tk_lt f, by rw [hY0]; exact tk_lt g, by rw [hU1]; exact taken_lt f, by rw [hV1]; exact taken_lt g, by rw [hU1, hX0]; rfl, by rw [hV1, hY0]; rfl⟩)
  have HT1 := Lib.hid (take_any f hf)
  have HT2 := Lib.hid (take_any g hg)
  have HTF := Lib.hid (fun w h => RefF.take_any (some ⟨w0.heap.size, 0, none⟩) 32 f hf w h)
  have HTG := Lib.hid (fun w h => RefF.take_any (some ⟨w0.heap.size + 1, 0, none⟩) 32 g hg w h)
  rw [← hX0] at HT1
  rw [← hY0] at HT2
  rw [← hU1] at HTF
  rw [← hV1] at HTG
  have HNN := Lib.hid hn
  have HO := Lib.hid ho
  have HRD := Lib.hid hr
  have HS5 := Lib.hid (show ∀ a : Nat → Nat, (qcells a 5).toArray.size = 5 from fun _ => qcells_size _ _)
  have HS16 := Lib.hid (show ∀ a : Nat → Nat, (icells a 16).toArray.size = 16 from fun _ => icells_size _ _)
  have HZ := Lib.hid (show ∀ f, (byteCells f 32).toArray.size = 32 from fun f => by rw [List.size_toArray, byteCells_length])
  clear hX0 hY0 hU1 hV1 hf hg hn ho hr
  go_enter Try.func4, Try.ntmps4
  go_upto_region 1 with fail
  refine cut_world (fun W => Whole W w0.heap.size 22 (byteCells f 32).toArray ∧ Whole W (w0.heap.size + 1) 22 (byteCells g 32).toArray ∧ Below w0.heap.size w0 W) ⟨?_, ?_, ?_⟩ ?_
  · exact (whole_new _ _ (by simp)).alloc _
  · exact whole_new _ _ (by simp)
  · exact below_alloc (below_alloc (Below.refl _ _) _) _
  rintro W ⟨k1, k2, kb⟩
  have K1 := Lib.hid k1
  have K2 := Lib.hid k2
  have KB := Lib.hid kb
  clear k1 k2 kb
  generalize hB : w0.heap.size = B at K1 K2 KB HTF HTG ⊢
  refine region_drew (fun _ => True) (by kernel_rfl) trivial ?_
  intro hT
  have hS : Below W.heap.size W W.drew := below_drewN (Below.refl _ _) 1
  refine Float.float (W := W) [(0, 16, .is (B32 f)), (1, 17, .is (.agg (ec X0))), (2, 18, .is (B32 g)), (3, 19, .is (.agg (ec Y0))), (4, 9, .row 38 (qcells (fun _ => 0) 5).toArray), (5, 10, .row 38 (qcells (fun _ => 0) 5).toArray)] [0, 1, 2, 3, 4, 5] 2 rfl (by rfl) (by kernel_rfl) (by kernel_rfl) (by kernel_rfl) (by kernel_rfl) (by kernel_rfl) (fun γ => rfl) hS (fun _ _ => trivial) ?_ ?_
  · intro γ
    simp only [Float.puts, Act.put, List.setIfInBounds_toArray, List.set_cons_zero, List.set_cons_succ]
    refine ⟨?_, ?_, ?_, ?_, ?_, ?_, trivial⟩
    · exact ⟨_, _, rfl, Float.does_take (fun w hw => run_load_op 22 (.tmp 4) rfl (B) rfl (K1.out.below hw K1.out.lt) rfl rfl (by rw [HZ.out]; kernel_rfl))⟩
    · exact ⟨_, _, rfl, Float.does_call 19 (#[B32 f]) (by intro w; go_simp; try with_reducible rfl) (fun w hw => HT1.out w)⟩
    · exact ⟨_, _, rfl, Float.does_take (fun w hw => run_load_op 22 (.tmp 5) rfl (B + 1) rfl (K2.out.below hw K2.out.lt) rfl rfl (by rw [HZ.out]; kernel_rfl))⟩
    · exact ⟨_, _, rfl, Float.does_call 19 (#[B32 g]) (by intro w; go_simp; try with_reducible rfl) (fun w hw => HT2.out w)⟩
    · exact ⟨_, _, rfl, fun w => by go_simp; try rfl⟩
    · exact ⟨_, _, rfl, fun w => by go_simp; try rfl⟩
  · intro γ v hS hrows hne
    simp only [Float.puts, Act.put, List.setIfInBounds_toArray, List.set_cons_zero, List.set_cons_succ]
    obtain ⟨⟨hge9, hg9⟩, ⟨hge10, hg10⟩, -⟩ := hrows
    have hne9_10 := hne 4 5 rfl rfl (by decide) (by decide) (by decide)
    clear hne
    generalize γ 4 = b9 at *
    have Hg9 := Lib.hid hg9
    clear hg9
    generalize γ 5 = b10 at *
    have Hg10 := Lib.hid hg10
    clear hg10
    clear γ
    have lt_K1 := K1.out.lt
    replace K1 := Lib.hid (K1.out.below hS lt_K1)
    have lt_K2 := K2.out.lt
    replace K2 := Lib.hid (K2.out.below hS lt_K2)
    replace KB := Lib.hid (KB.out.trans (hS.mono (by omega)))
    refine alone 6 rfl (by kernel_rfl) (by rfl) ?_
    intro K hK
    refine wp_store_row 38 (.tmp 9) (.tmp 17) rfl b9 (ec X0) (by rfl) (by rfl) 38 _ Hg9.out (by rw [ec_size]; kernel_rfl) (by rw [HS5.out, ec_size]) (qcells_one _ _) ?_
    refine hK.out _ _ trivial ?_
    clear hK K
    try simp only [Act.put]
    replace K1 := Lib.hid (Whole.farRow K1.out (g := b9) (by omega) (ec X0))
    replace K2 := Lib.hid (Whole.farRow K2.out (g := b9) (by omega) (ec X0))
    replace Hg10 := Lib.hid (Whole.farRow Hg10.out (g := b9) (by omega) (ec X0))
    replace KB := Lib.hid (below_setRow KB.out (by omega) (g := b9) (ec X0))
    replace Hg9 := Lib.hid (setRow_heap _ _ _ (ec X0) _ _ Hg9.out)
    refine alone 7 rfl (by kernel_rfl) (by rfl) ?_
    intro K hK
    refine wp_store_row 38 (.tmp 10) (.tmp 19) rfl b10 (ec Y0) (by rfl) (by rfl) 38 _ Hg10.out (by rw [ec_size]; kernel_rfl) (by rw [HS5.out, ec_size]) (qcells_one _ _) ?_
    refine hK.out _ _ trivial ?_
    clear hK K
    try simp only [Act.put]
    replace K1 := Lib.hid (Whole.farRow K1.out (g := b10) (by omega) (ec Y0))
    replace K2 := Lib.hid (Whole.farRow K2.out (g := b10) (by omega) (ec Y0))
    replace Hg9 := Lib.hid (Whole.farRow Hg9.out (g := b10) (by omega) (ec Y0))
    replace KB := Lib.hid (below_setRow KB.out (by omega) (g := b10) (ec Y0))
    replace Hg10 := Lib.hid (setRow_heap _ _ _ (ec Y0) _ _ Hg10.out)
    refine region_end (by kernel_rfl) ?_
    refine cut_post (F := Exit.then _ _) (fun X => Whole X (B) 22 (byteCells f 32).toArray ∧ Whole X (B + 1) 22 (byteCells g 32).toArray ∧ Whole X (b9) 38 (ec X0) ∧ Whole X (b10) 38 (ec Y0) ∧ Below B w0 X ∧ B ≤ X.heap.size ∧ b9 ≠ b10 ∧ B + 1 < b9 ∧ B + 1 < b10) ⟨K1.out, K2.out, Hg9.out, Hg10.out, KB.out, ?_, by omega, by omega, by omega⟩ ?_
    · have := Whole.lt Hg10.out
      omega
    clear KB hS hT K1 K2 lt_K1 lt_K2 Hg9 Hg10 hge9 hge10
    rintro U0 ⟨kK1, kK2, kN9, kN10, kb, hV, n9_10⟩
    have K1 := Lib.hid kK1
    have K2 := Lib.hid kK2
    have N9 := Lib.hid kN9
    have N10 := Lib.hid kN10
    have KB := Lib.hid kb
    clear kb kK1 kK2 kN9 kN10
    clear HT1 HT2
    go_wp2_with fail
    refine region_drew (fun _ => True) (by kernel_rfl) trivial ?_
    intro hT
    have hS : Below U0.heap.size U0 U0.drew := below_drewN (Below.refl _ _) 1
    refine Float.float (W := U0) [(0, 20, .is (.slice (some ⟨B, 0, none⟩) 32 32)), (1, 21, .is (.agg (nc U1))), (2, 22, .is (.slice (some ⟨B + 1, 0, none⟩) 32 32)), (3, 23, .is (.agg (nc V1))), (4, 11, .row 24 (icells (fun _ => 0) 16).toArray), (5, 12, .row 24 (icells (fun _ => 0) 16).toArray)] [0, 1, 2, 3, 4, 5] 2 rfl (by rfl) (by kernel_rfl) (by kernel_rfl) (by kernel_rfl) (by kernel_rfl) (by kernel_rfl) (fun γ => rfl) hS (fun _ _ => trivial) ?_ ?_
    · intro γ
      simp only [Float.puts, Act.put, List.setIfInBounds_toArray, List.set_cons_zero, List.set_cons_succ]
      refine ⟨?_, ?_, ?_, ?_, ?_, ?_, trivial⟩
      · exact ⟨_, _, rfl, Float.does_take (by intro w _; go_simp; try with_reducible rfl)⟩
      · exact ⟨_, _, rfl, Float.does_call 10 (#[.slice (some ⟨B, 0, none⟩) 32 32]) (by intro w; go_simp; try with_reducible rfl) (fun w hw => HTF.out w ((Rd.of_whole K1.out).below hw (Nat.le_refl _)))⟩
      · exact ⟨_, _, rfl, Float.does_take (by intro w _; go_simp; try with_reducible rfl)⟩
      · exact ⟨_, _, rfl, Float.does_call 10 (#[.slice (some ⟨B + 1, 0, none⟩) 32 32]) (by intro w; go_simp; try with_reducible rfl) (fun w hw => HTG.out w ((Rd.of_whole K2.out).below hw (Nat.le_refl _)))⟩
      · exact ⟨_, _, rfl, fun w => by go_simp; try rfl⟩
      · exact ⟨_, _, rfl, fun w => by go_simp; try rfl⟩
    · intro γ v hS hrows hne
      simp only [Float.puts, Act.put, List.setIfInBounds_toArray, List.set_cons_zero, List.set_cons_succ]
      obtain ⟨⟨hge11, hg11⟩, ⟨hge12, hg12⟩, -⟩ := hrows
      have hne11_12 := hne 4 5 rfl rfl (by decide) (by decide) (by decide)
      clear hne
      generalize γ 4 = b11 at *
      have Hg11 := Lib.hid hg11
      clear hg11
      generalize γ 5 = b12 at *
      have Hg12 := Lib.hid hg12
      clear hg12
      clear γ
      have lt_K1 := K1.out.lt
      replace K1 := Lib.hid (K1.out.below hS lt_K1)
      have lt_K2 := K2.out.lt
      replace K2 := Lib.hid (K2.out.below hS lt_K2)
      have lt_N9 := N9.out.lt
      replace N9 := Lib.hid (N9.out.below hS lt_N9)
      have lt_N10 := N10.out.lt
      replace N10 := Lib.hid (N10.out.below hS lt_N10)
      replace KB := Lib.hid (KB.out.trans (hS.mono (by omega)))
      refine alone 6 rfl (by kernel_rfl) (by rfl) ?_
      intro K hK
      refine wp_store_row 24 (.tmp 11) (.tmp 21) rfl b11 (nc U1) (by rfl) (by rfl) 24 _ Hg11.out (by rw [nc_size]; kernel_rfl) (by rw [HS16.out, nc_size]) (icells_one _ _) ?_
      refine hK.out _ _ trivial ?_
      clear hK K
      try simp only [Act.put]
      replace K1 := Lib.hid (Whole.farRow K1.out (g := b11) (by omega) (nc U1))
      replace K2 := Lib.hid (Whole.farRow K2.out (g := b11) (by omega) (nc U1))
      replace N9 := Lib.hid (Whole.farRow N9.out (g := b11) (by omega) (nc U1))
      replace N10 := Lib.hid (Whole.farRow N10.out (g := b11) (by omega) (nc U1))
      replace Hg12 := Lib.hid (Whole.farRow Hg12.out (g := b11) (by omega) (nc U1))
      replace KB := Lib.hid (below_setRow KB.out (by omega) (g := b11) (nc U1))
      replace Hg11 := Lib.hid (setRow_heap _ _ _ (nc U1) _ _ Hg11.out)
      refine alone 7 rfl (by kernel_rfl) (by rfl) ?_
      intro K hK
      refine wp_store_row 24 (.tmp 12) (.tmp 23) rfl b12 (nc V1) (by rfl) (by rfl) 24 _ Hg12.out (by rw [nc_size]; kernel_rfl) (by rw [HS16.out, nc_size]) (icells_one _ _) ?_
      refine hK.out _ _ trivial ?_
      clear hK K
      try simp only [Act.put]
      replace K1 := Lib.hid (Whole.farRow K1.out (g := b12) (by omega) (nc V1))
      replace K2 := Lib.hid (Whole.farRow K2.out (g := b12) (by omega) (nc V1))
      replace N9 := Lib.hid (Whole.farRow N9.out (g := b12) (by omega) (nc V1))
      replace N10 := Lib.hid (Whole.farRow N10.out (g := b12) (by omega) (nc V1))
      replace Hg11 := Lib.hid (Whole.farRow Hg11.out (g := b12) (by omega) (nc V1))
      replace KB := Lib.hid (below_setRow KB.out (by omega) (g := b12) (nc V1))
      replace Hg12 := Lib.hid (setRow_heap _ _ _ (nc V1) _ _ Hg12.out)
      refine region_end (by kernel_rfl) ?_
      refine cut_post (F := Exit.then _ _) (fun X => Whole X (B) 22 (byteCells f 32).toArray ∧ Whole X (B + 1) 22 (byteCells g 32).toArray ∧ Whole X (b9) 38 (ec X0) ∧ Whole X (b10) 38 (ec Y0) ∧ Whole X (b11) 24 (nc U1) ∧ Whole X (b12) 24 (nc V1) ∧ Below B w0 X ∧ B ≤ X.heap.size ∧ b11 ≠ b12 ∧ b9 < b11 ∧ b9 < b12 ∧ b10 < b11 ∧ b10 < b12) ⟨K1.out, K2.out, N9.out, N10.out, Hg11.out, Hg12.out, KB.out, ?_, by omega, by omega, by omega, by omega, by omega⟩ ?_
      · have := Whole.lt Hg12.out
        omega
      clear KB hS hT K1 K2 N9 N10 lt_K1 lt_K2 lt_N9 lt_N10 Hg11 Hg12 hge11 hge12
      rintro V0 ⟨kK1, kK2, kN9, kN10, kN11, kN12, kb, hV, ord⟩
      have K1 := Lib.hid kK1
      have K2 := Lib.hid kK2
      have N9 := Lib.hid kN9
      have N10 := Lib.hid kN10
      have N11 := Lib.hid kN11
      have N12 := Lib.hid kN12
      have KB := Lib.hid kb
      clear kb kK1 kK2 kN9 kN10 kN11 kN12
      clear HTF HTG K1 K2
      have HE0 := Lib.hid (show ElW w0 B b9 b10 b11 b12 X0 Y0 U1 V1 V0 from ⟨N9.out, N10.out, N11.out, N12.out, KB.out⟩)
      clear N9 N10 N11 N12 KB
      obtain ⟨hne9, lo9, lo10⟩ := n9_10
      obtain ⟨hne11, o1, o2, o3, o4⟩ := ord
      go_wp2_with fail
      go_loopw [13] (fun i wr => ∃ k X Y U V : Nat, k ≤ on ∧ k ≤ 40 ∧ i = .int .i64 k ∧ Ok X Y U V ∧ ElW w0 B b9 b10 b11 b12 X Y U V wr) (fun i _ => 40 - (intOf i).toNat)
      case atStart => exact ⟨0, X0, Y0, U1, V1, by omega, by omega, rfl, HOK.out, HE0.out⟩
      case round =>
        obtain ⟨k, X, Y, U, V, hkn, hk40, rfl, hok, hE⟩ := hrel
        have HR0 := Lib.hid hok
        have Q9 := Lib.hid hE.x
        have Q10 := Lib.hid hE.y
        have Q11 := Lib.hid hE.u
        have Q12 := Lib.hid hE.v
        have QB := Lib.hid hE.bel
        have hwr : B ≤ wr.heap.size := by
          have := Whole.lt hE.x
          omega
        have hrd := HRD.out.below QB.out (by omega)
        clear hok hE HE0
        by_cases h1 : k < on
        · by_cases h2 : k < 40
          · rcases hrd with h0 | ⟨b, off, rfl, hblk, hcell⟩
            · omega
            have c1 := hcell k h1
            have ob := HO.out k
            have i1 : (k : Int) < (on : Int) := by omega
            have i2 : (k : Int) < 40 := by omega
            clear hcell
            generalize o k = z at c1 ob
            rcases (show (z : Int) % 6 = 0 ∨ (z : Int) % 6 = 1 ∨ (z : Int) % 6 = 2 ∨ (z : Int) % 6 = 3 ∨ (z : Int) % 6 = 4 ∨ (z : Int) % 6 = 5 by omega) with e | e | e | e | e | e
            · have HQ := Lib.hid e
              clear e
              go_upto_region 7 with fail
              rw [HQ.out]
              go_upto_region 8 with fail
              refine region_drew (fun _ => True) (by kernel_rfl) trivial ?_
              intro hT
              have hS : Below wr.heap.size wr wr.drew := below_drewN (Below.refl _ _) 1
              refine FloatB.float (W := wr) [(0, 41, .is (.agg (ec X))), (1, 42, .is (.agg (ec Y))), (2, 43, .is (.agg (ec ((X + Y) % P)))), (3, 44, .is (.agg (nc U))), (4, 45, .is (.agg (nc V))), (5, 46, .is (.agg (nc (RefF.cc2 (U + V)))))] [0, 1, 2, 3, 4, 5] 2 rfl (by rfl) (by kernel_rfl) (by kernel_rfl) (by kernel_rfl) (by kernel_rfl) (by kernel_rfl) (fun γ δ => rfl) hS (fun _ _ => trivial) (⟨fun _ => undef, trivial⟩) ?_ ?_
              · intro γ δ hgd
                simp only [FloatB.puts, Act.put, List.setIfInBounds_toArray, List.set_cons_zero, List.set_cons_succ]
                refine ⟨?_, ?_, ?_, ?_, ?_, ?_, trivial⟩
                · exact ⟨_, _, rfl, FloatB.does_take (fun w hw => run_load_op 38 (.tmp 9) rfl b9 rfl (Q9.out.below hw Q9.out.lt) rfl rfl (by rw [ec_size]; kernel_rfl))⟩
                · exact ⟨_, _, rfl, FloatB.does_take (fun w hw => run_load_op 38 (.tmp 10) rfl b10 rfl (Q10.out.below hw Q10.out.lt) rfl rfl (by rw [ec_size]; kernel_rfl))⟩
                · exact ⟨_, _, rfl, FloatB.does_call 20 (#[.agg (ec X), .agg (ec Y)]) (by intro w; go_simp; try with_reducible rfl) (fun w hw => add_any X Y HR0.out.1 HR0.out.2.1 w)⟩
                · exact ⟨_, _, rfl, FloatB.does_take (fun w hw => run_load_op 24 (.tmp 11) rfl b11 rfl (Q11.out.below hw Q11.out.lt) rfl rfl (by rw [nc_size]; kernel_rfl))⟩
                · exact ⟨_, _, rfl, FloatB.does_take (fun w hw => run_load_op 24 (.tmp 12) rfl b12 rfl (Q12.out.below hw Q12.out.lt) rfl rfl (by rw [nc_size]; kernel_rfl))⟩
                · exact ⟨_, _, rfl, FloatB.does_call 16 (#[.agg (nc U), .agg (nc V)]) (by intro w; go_simp; try with_reducible rfl) (fun w hw => RefF.add_any U V HR0.out.2.2.1 HR0.out.2.2.2.1 w)⟩
              · intro γ δ v hS hgd hrows hne
                simp only [FloatB.puts, Act.put, List.setIfInBounds_toArray, List.set_cons_zero, List.set_cons_succ]
                clear hgd
                clear hne hrows
                clear γ δ
                have J9 := Lib.hid (Q9.out.below hS Q9.out.lt)
                have J10 := Lib.hid (Q10.out.below hS Q10.out.lt)
                have J11 := Lib.hid (Q11.out.below hS Q11.out.lt)
                have J12 := Lib.hid (Q12.out.below hS Q12.out.lt)
                have KB := Lib.hid (QB.out.trans (hS.mono (by omega)))
                clear Q9 Q10 Q11 Q12 QB hS hT
                refine alone 6 rfl (by kernel_rfl) (by rfl) ?_
                intro K hK
                refine wp_store_row 38 (.tmp 9) (.tmp 43) rfl b9 (ec ((X + Y) % P)) (by rfl) (by rfl) 38 _ J9.out (by rw [ec_size]; kernel_rfl) (by rw [ec_size, ec_size]) (qcells_one _ _) ?_
                refine hK.out _ _ trivial ?_
                clear hK K
                try simp only [Act.put]
                replace J10 := Lib.hid (Whole.farRow J10.out (g := b9) (by omega) (ec ((X + Y) % P)))
                replace J11 := Lib.hid (Whole.farRow J11.out (g := b9) (by omega) (ec ((X + Y) % P)))
                replace J12 := Lib.hid (Whole.farRow J12.out (g := b9) (by omega) (ec ((X + Y) % P)))
                replace KB := Lib.hid (below_setRow KB.out (by omega) (g := b9) (ec ((X + Y) % P)))
                replace J9 := Lib.hid (setRow_heap _ _ _ (ec ((X + Y) % P)) _ _ J9.out)
                refine alone 7 rfl (by kernel_rfl) (by rfl) ?_
                intro K hK
                refine wp_store_row 24 (.tmp 11) (.tmp 46) rfl b11 (nc (RefF.cc2 (U + V))) (by rfl) (by rfl) 24 _ J11.out (by rw [nc_size]; kernel_rfl) (by rw [nc_size, nc_size]) (icells_one _ _) ?_
                refine hK.out _ _ trivial ?_
                clear hK K
                try simp only [Act.put]
                replace J9 := Lib.hid (Whole.farRow J9.out (g := b11) (by omega) (nc (RefF.cc2 (U + V))))
                replace J10 := Lib.hid (Whole.farRow J10.out (g := b11) (by omega) (nc (RefF.cc2 (U + V))))
                replace J12 := Lib.hid (Whole.farRow J12.out (g := b11) (by omega) (nc (RefF.cc2 (U + V))))
                replace KB := Lib.hid (below_setRow KB.out (by omega) (g := b11) (nc (RefF.cc2 (U + V))))
                replace J11 := Lib.hid (setRow_heap _ _ _ (nc (RefF.cc2 (U + V))) _ _ J11.out)
                refine region_end (by kernel_rfl) ?_
                have HE := Lib.hid (show ElW w0 B b9 b10 b11 b12 ((X + Y) % P) Y (RefF.cc2 (U + V)) V _ from ⟨J9.out, J10.out, J11.out, J12.out, KB.out⟩)
                have hres := ok_add HR0.out
                have HR := Lib.hid hres
                clear J9 J10 J11 J12 KB hres
                first | (refine cut_post (F := Exit.then _ _) (ElW w0 B b9 b10 b11 b12 ((X + Y) % P) Y (RefF.cc2 (U + V)) V) HE.out ?_) | (refine cut_post (F := Exit.inBlock _ _) (ElW w0 B b9 b10 b11 b12 ((X + Y) % P) Y (RefF.cc2 (U + V)) V) HE.out ?_)
                clear HE
                intro Z hz
                have HE := Lib.hid hz
                clear hz
                go_wp2_with fail
                go_roundw
                case rel => exact ⟨k + 1, ((X + Y) % P), Y, (RefF.cc2 (U + V)), V, by omega, by omega, by go_num, HR.out, HE.out⟩
                case measure => simp [intOf]; omega
            · have HQ := Lib.hid e
              clear e
              go_upto_region 7 with fail
              rw [HQ.out]
              go_upto_region 10 with fail
              refine region_drew (fun _ => True) (by kernel_rfl) trivial ?_
              intro hT
              have hS : Below wr.heap.size wr wr.drew := below_drewN (Below.refl _ _) 1
              refine FloatB.float (W := wr) [(0, 49, .is (.agg (ec X))), (1, 50, .is (.agg (ec Y))), (2, 51, .is (.agg (ec ((X + (P - Y)) % P)))), (3, 52, .is (.agg (nc U))), (4, 53, .is (.agg (nc V))), (5, 54, .is (.agg (nc (RefF.cc2 (U + 4 * P - V)))))] [0, 1, 2, 3, 4, 5] 2 rfl (by rfl) (by kernel_rfl) (by kernel_rfl) (by kernel_rfl) (by kernel_rfl) (by kernel_rfl) (fun γ δ => rfl) hS (fun _ _ => trivial) (⟨fun _ => undef, trivial⟩) ?_ ?_
              · intro γ δ hgd
                simp only [FloatB.puts, Act.put, List.setIfInBounds_toArray, List.set_cons_zero, List.set_cons_succ]
                refine ⟨?_, ?_, ?_, ?_, ?_, ?_, trivial⟩
                · exact ⟨_, _, rfl, FloatB.does_take (fun w hw => run_load_op 38 (.tmp 9) rfl b9 rfl (Q9.out.below hw Q9.out.lt) rfl rfl (by rw [ec_size]; kernel_rfl))⟩
                · exact ⟨_, _, rfl, FloatB.does_take (fun w hw => run_load_op 38 (.tmp 10) rfl b10 rfl (Q10.out.below hw Q10.out.lt) rfl rfl (by rw [ec_size]; kernel_rfl))⟩
                · exact ⟨_, _, rfl, FloatB.does_call 21 (#[.agg (ec X), .agg (ec Y)]) (by intro w; go_simp; try with_reducible rfl) (fun w hw => sub_any X Y HR0.out.1 HR0.out.2.1 w)⟩
                · exact ⟨_, _, rfl, FloatB.does_take (fun w hw => run_load_op 24 (.tmp 11) rfl b11 rfl (Q11.out.below hw Q11.out.lt) rfl rfl (by rw [nc_size]; kernel_rfl))⟩
                · exact ⟨_, _, rfl, FloatB.does_take (fun w hw => run_load_op 24 (.tmp 12) rfl b12 rfl (Q12.out.below hw Q12.out.lt) rfl rfl (by rw [nc_size]; kernel_rfl))⟩
                · exact ⟨_, _, rfl, FloatB.does_call 17 (#[.agg (nc U), .agg (nc V)]) (by intro w; go_simp; try with_reducible rfl) (fun w hw => RefF.sub_any U V HR0.out.2.2.1 HR0.out.2.2.2.1 w)⟩
              · intro γ δ v hS hgd hrows hne
                simp only [FloatB.puts, Act.put, List.setIfInBounds_toArray, List.set_cons_zero, List.set_cons_succ]
                clear hgd
                clear hne hrows
                clear γ δ
                have J9 := Lib.hid (Q9.out.below hS Q9.out.lt)
                have J10 := Lib.hid (Q10.out.below hS Q10.out.lt)
                have J11 := Lib.hid (Q11.out.below hS Q11.out.lt)
                have J12 := Lib.hid (Q12.out.below hS Q12.out.lt)
                have KB := Lib.hid (QB.out.trans (hS.mono (by omega)))
                clear Q9 Q10 Q11 Q12 QB hS hT
                refine alone 6 rfl (by kernel_rfl) (by rfl) ?_
                intro K hK
                refine wp_store_row 38 (.tmp 9) (.tmp 51) rfl b9 (ec ((X + (P - Y)) % P)) (by rfl) (by rfl) 38 _ J9.out (by rw [ec_size]; kernel_rfl) (by rw [ec_size, ec_size]) (qcells_one _ _) ?_
                refine hK.out _ _ trivial ?_
                clear hK K
                try simp only [Act.put]
                replace J10 := Lib.hid (Whole.farRow J10.out (g := b9) (by omega) (ec ((X + (P - Y)) % P)))
                replace J11 := Lib.hid (Whole.farRow J11.out (g := b9) (by omega) (ec ((X + (P - Y)) % P)))
                replace J12 := Lib.hid (Whole.farRow J12.out (g := b9) (by omega) (ec ((X + (P - Y)) % P)))
                replace KB := Lib.hid (below_setRow KB.out (by omega) (g := b9) (ec ((X + (P - Y)) % P)))
                replace J9 := Lib.hid (setRow_heap _ _ _ (ec ((X + (P - Y)) % P)) _ _ J9.out)
                refine alone 7 rfl (by kernel_rfl) (by rfl) ?_
                intro K hK
                refine wp_store_row 24 (.tmp 11) (.tmp 54) rfl b11 (nc (RefF.cc2 (U + 4 * P - V))) (by rfl) (by rfl) 24 _ J11.out (by rw [nc_size]; kernel_rfl) (by rw [nc_size, nc_size]) (icells_one _ _) ?_
                refine hK.out _ _ trivial ?_
                clear hK K
                try simp only [Act.put]
                replace J9 := Lib.hid (Whole.farRow J9.out (g := b11) (by omega) (nc (RefF.cc2 (U + 4 * P - V))))
                replace J10 := Lib.hid (Whole.farRow J10.out (g := b11) (by omega) (nc (RefF.cc2 (U + 4 * P - V))))
                replace J12 := Lib.hid (Whole.farRow J12.out (g := b11) (by omega) (nc (RefF.cc2 (U + 4 * P - V))))
                replace KB := Lib.hid (below_setRow KB.out (by omega) (g := b11) (nc (RefF.cc2 (U + 4 * P - V))))
                replace J11 := Lib.hid (setRow_heap _ _ _ (nc (RefF.cc2 (U + 4 * P - V))) _ _ J11.out)
                refine region_end (by kernel_rfl) ?_
                have HE := Lib.hid (show ElW w0 B b9 b10 b11 b12 ((X + (P - Y)) % P) Y (RefF.cc2 (U + 4 * P - V)) V _ from ⟨J9.out, J10.out, J11.out, J12.out, KB.out⟩)
                have hres := ok_sub HR0.out
                have HR := Lib.hid hres
                clear J9 J10 J11 J12 KB hres
                first | (refine cut_post (F := Exit.then _ _) (ElW w0 B b9 b10 b11 b12 ((X + (P - Y)) % P) Y (RefF.cc2 (U + 4 * P - V)) V) HE.out ?_) | (refine cut_post (F := Exit.inBlock _ _) (ElW w0 B b9 b10 b11 b12 ((X + (P - Y)) % P) Y (RefF.cc2 (U + 4 * P - V)) V) HE.out ?_)
                clear HE
                intro Z hz
                have HE := Lib.hid hz
                clear hz
                go_wp2_with fail
                go_roundw
                case rel => exact ⟨k + 1, ((X + (P - Y)) % P), Y, (RefF.cc2 (U + 4 * P - V)), V, by omega, by omega, by go_num, HR.out, HE.out⟩
                case measure => simp [intOf]; omega
            · have HQ := Lib.hid e
              clear e
              go_upto_region 7 with fail
              rw [HQ.out]
              go_upto_region 12 with fail
              refine region_drew (fun _ => True) (by kernel_rfl) trivial ?_
              intro hT
              have hS : Below wr.heap.size wr wr.drew := below_drewN (Below.refl _ _) 1
              refine FloatB.float (W := wr) [(0, 57, .is (.agg (ec X))), (1, 58, .is (.agg (ec Y))), (2, 59, .is (.agg (ec (X * Y % P)))), (3, 60, .is (.agg (nc U))), (4, 61, .is (.agg (nc V))), (5, 62, .some ((fun v => ∃ m, m < RefF.M256 ∧ m % P = U * V % P ∧ v = .agg (nc m))))] [0, 1, 2, 3, 4, 5] 2 rfl (by rfl) (by kernel_rfl) (by kernel_rfl) (by kernel_rfl) (by kernel_rfl) (by kernel_rfl) (fun γ δ => rfl) hS (fun _ _ => trivial) (⟨fun _ => .agg (nc (U * V % P)), ⟨_, mod_M _, mod_P _, rfl⟩, trivial⟩) ?_ ?_
              · intro γ δ hgd
                simp only [FloatB.puts, Act.put, List.setIfInBounds_toArray, List.set_cons_zero, List.set_cons_succ]
                refine ⟨?_, ?_, ?_, ?_, ?_, ?_, trivial⟩
                · exact ⟨_, _, rfl, FloatB.does_take (fun w hw => run_load_op 38 (.tmp 9) rfl b9 rfl (Q9.out.below hw Q9.out.lt) rfl rfl (by rw [ec_size]; kernel_rfl))⟩
                · exact ⟨_, _, rfl, FloatB.does_take (fun w hw => run_load_op 38 (.tmp 10) rfl b10 rfl (Q10.out.below hw Q10.out.lt) rfl rfl (by rw [ec_size]; kernel_rfl))⟩
                · exact ⟨_, _, rfl, FloatB.does_call 22 (#[.agg (ec X), .agg (ec Y)]) (by intro w; go_simp; try with_reducible rfl) (fun w hw => times_any X Y HR0.out.1 HR0.out.2.1 w)⟩
                · exact ⟨_, _, rfl, FloatB.does_take (fun w hw => run_load_op 24 (.tmp 11) rfl b11 rfl (Q11.out.below hw Q11.out.lt) rfl rfl (by rw [nc_size]; kernel_rfl))⟩
                · exact ⟨_, _, rfl, FloatB.does_take (fun w hw => run_load_op 24 (.tmp 12) rfl b12 rfl (Q12.out.below hw Q12.out.lt) rfl rfl (by rw [nc_size]; kernel_rfl))⟩
                · exact ⟨_, _, rfl, FloatB.does_some 23 (#[.agg (nc U), .agg (nc V)]) (by intro w; go_simp; try with_reducible rfl) (fun w hw => mul_some U V HR0.out.2.2.1 HR0.out.2.2.2.1 w)⟩
              · intro γ δ v hS hgd hrows hne
                simp only [FloatB.puts, Act.put, List.setIfInBounds_toArray, List.set_cons_zero, List.set_cons_succ]
                obtain ⟨hsm, -⟩ := hgd
                clear hne hrows
                generalize δ 5 = dv at *
                clear γ δ
                obtain ⟨m, hm1, hm2, rfl⟩ := hsm
                have J9 := Lib.hid (Q9.out.below hS Q9.out.lt)
                have J10 := Lib.hid (Q10.out.below hS Q10.out.lt)
                have J11 := Lib.hid (Q11.out.below hS Q11.out.lt)
                have J12 := Lib.hid (Q12.out.below hS Q12.out.lt)
                have KB := Lib.hid (QB.out.trans (hS.mono (by omega)))
                clear Q9 Q10 Q11 Q12 QB hS hT
                refine alone 6 rfl (by kernel_rfl) (by rfl) ?_
                intro K hK
                refine wp_store_row 38 (.tmp 9) (.tmp 59) rfl b9 (ec (X * Y % P)) (by rfl) (by rfl) 38 _ J9.out (by rw [ec_size]; kernel_rfl) (by rw [ec_size, ec_size]) (qcells_one _ _) ?_
                refine hK.out _ _ trivial ?_
                clear hK K
                try simp only [Act.put]
                replace J10 := Lib.hid (Whole.farRow J10.out (g := b9) (by omega) (ec (X * Y % P)))
                replace J11 := Lib.hid (Whole.farRow J11.out (g := b9) (by omega) (ec (X * Y % P)))
                replace J12 := Lib.hid (Whole.farRow J12.out (g := b9) (by omega) (ec (X * Y % P)))
                replace KB := Lib.hid (below_setRow KB.out (by omega) (g := b9) (ec (X * Y % P)))
                replace J9 := Lib.hid (setRow_heap _ _ _ (ec (X * Y % P)) _ _ J9.out)
                refine alone 7 rfl (by kernel_rfl) (by rfl) ?_
                intro K hK
                refine wp_store_row 24 (.tmp 11) (.tmp 62) rfl b11 (nc m) (by rfl) (by rfl) 24 _ J11.out (by rw [nc_size]; kernel_rfl) (by rw [nc_size, nc_size]) (icells_one _ _) ?_
                refine hK.out _ _ trivial ?_
                clear hK K
                try simp only [Act.put]
                replace J9 := Lib.hid (Whole.farRow J9.out (g := b11) (by omega) (nc m))
                replace J10 := Lib.hid (Whole.farRow J10.out (g := b11) (by omega) (nc m))
                replace J12 := Lib.hid (Whole.farRow J12.out (g := b11) (by omega) (nc m))
                replace KB := Lib.hid (below_setRow KB.out (by omega) (g := b11) (nc m))
                replace J11 := Lib.hid (setRow_heap _ _ _ (nc m) _ _ J11.out)
                refine region_end (by kernel_rfl) ?_
                have HE := Lib.hid (show ElW w0 B b9 b10 b11 b12 (X * Y % P) Y m V _ from ⟨J9.out, J10.out, J11.out, J12.out, KB.out⟩)
                have hres := ok_mul HR0.out hm1 hm2
                have HR := Lib.hid hres
                clear J9 J10 J11 J12 KB hres
                first | (refine cut_post (F := Exit.then _ _) (ElW w0 B b9 b10 b11 b12 (X * Y % P) Y m V) HE.out ?_) | (refine cut_post (F := Exit.inBlock _ _) (ElW w0 B b9 b10 b11 b12 (X * Y % P) Y m V) HE.out ?_)
                clear HE
                intro Z hz
                have HE := Lib.hid hz
                clear hz
                go_wp2_with fail
                go_roundw
                case rel => exact ⟨k + 1, (X * Y % P), Y, m, V, by omega, by omega, by go_num, HR.out, HE.out⟩
                case measure => simp [intOf]; omega
            · have HQ := Lib.hid e
              clear e
              go_upto_region 7 with fail
              rw [HQ.out]
              go_upto_region 14 with fail
              refine region_drew (fun _ => True) (by kernel_rfl) trivial ?_
              intro hT
              have hS : Below wr.heap.size wr wr.drew := below_drewN (Below.refl _ _) 1
              refine FloatB.float (W := wr) [(0, 65, .is (.agg (ec X))), (1, 66, .is (.int .u32 n)), (2, 67, .is (.agg (ec (X * n % P)))), (3, 68, .is (.agg (nc U))), (4, 69, .is (.int .u32 n)), (5, 70, .is (.agg (nc n))), (6, 71, .some ((fun v => ∃ m, m < RefF.M256 ∧ m % P = U * n % P ∧ v = .agg (nc m))))] [0, 1, 2, 3, 4, 5, 6] 2 rfl (by rfl) (by kernel_rfl) (by kernel_rfl) (by kernel_rfl) (by kernel_rfl) (by kernel_rfl) (fun γ δ => rfl) hS (fun _ _ => trivial) (⟨fun _ => .agg (nc (U * n % P)), ⟨_, mod_M _, mod_P _, rfl⟩, trivial⟩) ?_ ?_
              · intro γ δ hgd
                simp only [FloatB.puts, Act.put, List.setIfInBounds_toArray, List.set_cons_zero, List.set_cons_succ]
                refine ⟨?_, ?_, ?_, ?_, ?_, ?_, ?_, trivial⟩
                · exact ⟨_, _, rfl, FloatB.does_take (fun w hw => run_load_op 38 (.tmp 9) rfl b9 rfl (Q9.out.below hw Q9.out.lt) rfl rfl (by rw [ec_size]; kernel_rfl))⟩
                · exact ⟨_, _, rfl, FloatB.does_take (by intro w _; go_simp; try with_reducible rfl)⟩
                · exact ⟨_, _, rfl, FloatB.does_call 24 (#[.agg (ec X), .int .u32 n]) (by intro w; go_simp; try with_reducible rfl) (fun w hw => Field.small_any X n HR0.out.1 HNN.out w)⟩
                · exact ⟨_, _, rfl, FloatB.does_take (fun w hw => run_load_op 24 (.tmp 11) rfl b11 rfl (Q11.out.below hw Q11.out.lt) rfl rfl (by rw [nc_size]; kernel_rfl))⟩
                · exact ⟨_, _, rfl, FloatB.does_take (by intro w _; go_simp; try with_reducible rfl)⟩
                · exact ⟨_, _, rfl, FloatB.does_call 25 (#[.int .u32 n]) (by intro w; go_simp; try with_reducible rfl) (fun w hw => RefF.small_any n HNN.out w)⟩
                · exact ⟨_, _, rfl, FloatB.does_some 23 (#[.agg (nc U), .agg (nc n)]) (by intro w; go_simp; try with_reducible rfl) (fun w hw => mul_some U n HR0.out.2.2.1 (n_M HNN.out) w)⟩
              · intro γ δ v hS hgd hrows hne
                simp only [FloatB.puts, Act.put, List.setIfInBounds_toArray, List.set_cons_zero, List.set_cons_succ]
                obtain ⟨hsm, -⟩ := hgd
                clear hne hrows
                generalize δ 6 = dv at *
                clear γ δ
                obtain ⟨m, hm1, hm2, rfl⟩ := hsm
                have J9 := Lib.hid (Q9.out.below hS Q9.out.lt)
                have J10 := Lib.hid (Q10.out.below hS Q10.out.lt)
                have J11 := Lib.hid (Q11.out.below hS Q11.out.lt)
                have J12 := Lib.hid (Q12.out.below hS Q12.out.lt)
                have KB := Lib.hid (QB.out.trans (hS.mono (by omega)))
                clear Q9 Q10 Q11 Q12 QB hS hT
                refine alone 7 rfl (by kernel_rfl) (by rfl) ?_
                intro K hK
                refine wp_store_row 38 (.tmp 9) (.tmp 67) rfl b9 (ec (X * n % P)) (by rfl) (by rfl) 38 _ J9.out (by rw [ec_size]; kernel_rfl) (by rw [ec_size, ec_size]) (qcells_one _ _) ?_
                refine hK.out _ _ trivial ?_
                clear hK K
                try simp only [Act.put]
                replace J10 := Lib.hid (Whole.farRow J10.out (g := b9) (by omega) (ec (X * n % P)))
                replace J11 := Lib.hid (Whole.farRow J11.out (g := b9) (by omega) (ec (X * n % P)))
                replace J12 := Lib.hid (Whole.farRow J12.out (g := b9) (by omega) (ec (X * n % P)))
                replace KB := Lib.hid (below_setRow KB.out (by omega) (g := b9) (ec (X * n % P)))
                replace J9 := Lib.hid (setRow_heap _ _ _ (ec (X * n % P)) _ _ J9.out)
                refine alone 8 rfl (by kernel_rfl) (by rfl) ?_
                intro K hK
                refine wp_store_row 24 (.tmp 11) (.tmp 71) rfl b11 (nc m) (by rfl) (by rfl) 24 _ J11.out (by rw [nc_size]; kernel_rfl) (by rw [nc_size, nc_size]) (icells_one _ _) ?_
                refine hK.out _ _ trivial ?_
                clear hK K
                try simp only [Act.put]
                replace J9 := Lib.hid (Whole.farRow J9.out (g := b11) (by omega) (nc m))
                replace J10 := Lib.hid (Whole.farRow J10.out (g := b11) (by omega) (nc m))
                replace J12 := Lib.hid (Whole.farRow J12.out (g := b11) (by omega) (nc m))
                replace KB := Lib.hid (below_setRow KB.out (by omega) (g := b11) (nc m))
                replace J11 := Lib.hid (setRow_heap _ _ _ (nc m) _ _ J11.out)
                refine region_end (by kernel_rfl) ?_
                have HE := Lib.hid (show ElW w0 B b9 b10 b11 b12 (X * n % P) Y m V _ from ⟨J9.out, J10.out, J11.out, J12.out, KB.out⟩)
                have hres := ok_small HR0.out hm1 hm2
                have HR := Lib.hid hres
                clear J9 J10 J11 J12 KB hres
                first | (refine cut_post (F := Exit.then _ _) (ElW w0 B b9 b10 b11 b12 (X * n % P) Y m V) HE.out ?_) | (refine cut_post (F := Exit.inBlock _ _) (ElW w0 B b9 b10 b11 b12 (X * n % P) Y m V) HE.out ?_)
                clear HE
                intro Z hz
                have HE := Lib.hid hz
                clear hz
                go_wp2_with fail
                go_roundw
                case rel => exact ⟨k + 1, (X * n % P), Y, m, V, by omega, by omega, by go_num, HR.out, HE.out⟩
                case measure => simp [intOf]; omega
            · have HQ := Lib.hid e
              clear e
              go_upto_region 7 with fail
              rw [HQ.out]
              go_upto_region 16 with fail
              refine region_drew (fun _ => True) (by kernel_rfl) trivial ?_
              intro hT
              have hne9' : b10 ≠ b9 := fun e => hne9 e.symm
              have hne11' : b12 ≠ b11 := fun e => hne11 e.symm
              refine FloatC.go' (SwW w0 B b9 b10 b11 b12 X Y U V) (fun i => match i with | 0 => .agg (ec Y) | 1 => .agg (ec X) | 2 => .agg (nc V) | 3 => .agg (nc U) | _ => undef) [0, 1, 2, 3, 4, 5, 6, 7] [(74, .agg (ec Y)), (75, .agg (ec X)), (76, .agg (nc V)), (77, .agg (nc U))] 0 (by rfl) (by kernel_rfl) (by kernel_rfl) (by kernel_rfl) (by kernel_rfl) (by kernel_rfl) rfl ⟨⟨fun _ => Q9.out.drew, fun h => absurd (by decide) h⟩, ⟨fun _ => Q10.out.drew, fun h => absurd (by decide) h⟩, ⟨fun _ => Q11.out.drew, fun h => absurd (by decide) h⟩, ⟨fun _ => Q12.out.drew, fun h => absurd (by decide) h⟩, Below.drew QB.out⟩ (fun _ _ _ => trivial) ?_ ?_
              · intro i hi oo hoo pend Z hnd hip hwait hs
                simp only [FloatC.putv, Act.put, List.setIfInBounds_toArray, List.set_cons_zero, List.set_cons_succ]
                have hcase : i = 0 ∨ i = 1 ∨ i = 2 ∨ i = 3 ∨ i = 4 ∨ i = 5 ∨ i = 6 ∨ i = 7 := by simpa using hi
                clear hi
                rcases hcase with rfl | rfl | rfl | rfl | rfl | rfl | rfl | rfl
                · have ho' := Option.some.inj hoo
                  subst ho'
                  have hm : 5 ∈ pend := hwait 5 (by decide) _ rfl (by kernel_rfl)
                  have hl := hs.y.1 hm
                  exact ⟨_, _, run_load_op 38 (.tmp 10) rfl b10 rfl hl rfl rfl (by rw [ec_size]; kernel_rfl), .inl rfl, hs.skip 0 (by decide)⟩
                · have ho' := Option.some.inj hoo
                  subst ho'
                  have hm : 4 ∈ pend := hwait 4 (by decide) _ rfl (by kernel_rfl)
                  have hl := hs.x.1 hm
                  exact ⟨_, _, run_load_op 38 (.tmp 9) rfl b9 rfl hl rfl rfl (by rw [ec_size]; kernel_rfl), .inl rfl, hs.skip 1 (by decide)⟩
                · have ho' := Option.some.inj hoo
                  subst ho'
                  have hm : 7 ∈ pend := hwait 7 (by decide) _ rfl (by kernel_rfl)
                  have hl := hs.v.1 hm
                  exact ⟨_, _, run_load_op 24 (.tmp 12) rfl b12 rfl hl rfl rfl (by rw [nc_size]; kernel_rfl), .inl rfl, hs.skip 2 (by decide)⟩
                · have ho' := Option.some.inj hoo
                  subst ho'
                  have hm : 6 ∈ pend := hwait 6 (by decide) _ rfl (by kernel_rfl)
                  have hl := hs.u.1 hm
                  exact ⟨_, _, run_load_op 24 (.tmp 11) rfl b11 rfl hl rfl rfl (by rw [nc_size]; kernel_rfl), .inl rfl, hs.skip 3 (by decide)⟩
                · have ho' := Option.some.inj hoo
                  subst ho'
                  have hl := hs.x.1 hip
                  refine ⟨_, _, FloatC.run_store_op 38 (.tmp 9) (.tmp 74) rfl b9 (ec Y) rfl rfl 38 (ec X) hl (by rw [ec_size]; kernel_rfl) (by rw [ec_size, ec_size]) (qcells_one _ _), .inr ⟨rfl, rfl⟩, ?_⟩
                  obtain ⟨q1, q2, q3, q4, q5⟩ := hs
                  refine ⟨?_, ?_, ?_, ?_, below_setRow q5 (by omega) _⟩
                  · exact done hnd (setRow_heap _ _ _ _ _ _ hl)
                  · exact keepF q2 (by decide) (fun h => Whole.farRow h (by omega) _) (fun h => Whole.farRow h (by omega) _)
                  · exact keepF q3 (by decide) (fun h => Whole.farRow h (by omega) _) (fun h => Whole.farRow h (by omega) _)
                  · exact keepF q4 (by decide) (fun h => Whole.farRow h (by omega) _) (fun h => Whole.farRow h (by omega) _)
                · have ho' := Option.some.inj hoo
                  subst ho'
                  have hl := hs.y.1 hip
                  refine ⟨_, _, FloatC.run_store_op 38 (.tmp 10) (.tmp 75) rfl b10 (ec X) rfl rfl 38 (ec Y) hl (by rw [ec_size]; kernel_rfl) (by rw [ec_size, ec_size]) (qcells_one _ _), .inr ⟨rfl, rfl⟩, ?_⟩
                  obtain ⟨q1, q2, q3, q4, q5⟩ := hs
                  refine ⟨?_, ?_, ?_, ?_, below_setRow q5 (by omega) _⟩
                  · exact keepF q1 (by decide) (fun h => Whole.farRow h (by omega) _) (fun h => Whole.farRow h (by omega) _)
                  · exact done hnd (setRow_heap _ _ _ _ _ _ hl)
                  · exact keepF q3 (by decide) (fun h => Whole.farRow h (by omega) _) (fun h => Whole.farRow h (by omega) _)
                  · exact keepF q4 (by decide) (fun h => Whole.farRow h (by omega) _) (fun h => Whole.farRow h (by omega) _)
                · have ho' := Option.some.inj hoo
                  subst ho'
                  have hl := hs.u.1 hip
                  refine ⟨_, _, FloatC.run_store_op 24 (.tmp 11) (.tmp 76) rfl b11 (nc V) rfl rfl 24 (nc U) hl (by rw [nc_size]; kernel_rfl) (by rw [nc_size, nc_size]) (icells_one _ _), .inr ⟨rfl, rfl⟩, ?_⟩
                  obtain ⟨q1, q2, q3, q4, q5⟩ := hs
                  refine ⟨?_, ?_, ?_, ?_, below_setRow q5 (by omega) _⟩
                  · exact keepF q1 (by decide) (fun h => Whole.farRow h (by omega) _) (fun h => Whole.farRow h (by omega) _)
                  · exact keepF q2 (by decide) (fun h => Whole.farRow h (by omega) _) (fun h => Whole.farRow h (by omega) _)
                  · exact done hnd (setRow_heap _ _ _ _ _ _ hl)
                  · exact keepF q4 (by decide) (fun h => Whole.farRow h (by omega) _) (fun h => Whole.farRow h (by omega) _)
                · have ho' := Option.some.inj hoo
                  subst ho'
                  have hl := hs.v.1 hip
                  refine ⟨_, _, FloatC.run_store_op 24 (.tmp 12) (.tmp 77) rfl b12 (nc U) rfl rfl 24 (nc V) hl (by rw [nc_size]; kernel_rfl) (by rw [nc_size, nc_size]) (icells_one _ _), .inr ⟨rfl, rfl⟩, ?_⟩
                  obtain ⟨q1, q2, q3, q4, q5⟩ := hs
                  refine ⟨?_, ?_, ?_, ?_, below_setRow q5 (by omega) _⟩
                  · exact keepF q1 (by decide) (fun h => Whole.farRow h (by omega) _) (fun h => Whole.farRow h (by omega) _)
                  · exact keepF q2 (by decide) (fun h => Whole.farRow h (by omega) _) (fun h => Whole.farRow h (by omega) _)
                  · exact keepF q3 (by decide) (fun h => Whole.farRow h (by omega) _) (fun h => Whole.farRow h (by omega) _)
                  · exact done hnd (setRow_heap _ _ _ _ _ _ hl)
              · intro Z hs
                simp only [FloatC.putv, Act.put, List.setIfInBounds_toArray, List.set_cons_zero, List.set_cons_succ]
                have HE := Lib.hid (show ElW w0 B b9 b10 b11 b12 Y X V U Z from ⟨hs.x.2 (by simp), hs.y.2 (by simp), hs.u.2 (by simp), hs.v.2 (by simp), hs.bel⟩)
                clear hs Q9 Q10 Q11 Q12 QB hT
                have HR := Lib.hid (ok_swap HR0.out)
                refine region_end (by kernel_rfl) ?_
                go_wp2_with fail
                go_roundw
                case rel => exact ⟨k + 1, Y, X, V, U, by omega, by omega, by go_num, HR.out, HE.out⟩
                case measure => simp [intOf]; omega
            · have HQ := Lib.hid e
              clear e
              go_upto_region 7 with fail
              rw [HQ.out]
              go_upto_region 18 with fail
              refine region_drew (fun _ => True) (by kernel_rfl) trivial ?_
              intro hT
              have hS : Below wr.heap.size wr wr.drew := below_drewN (Below.refl _ _) 1
              refine FloatB.float (W := wr) [(0, 80, .is (.agg (ec X))), (1, 81, .is (.agg (ec (X ^ (P - 2) % P)))), (2, 82, .is (.agg (nc U))), (3, 83, .some ((fun v => ∃ m, m < RefF.M256 ∧ m % P = U ^ (P - 2) % P ∧ v = .agg (nc m))))] [0, 1, 2, 3] 2 rfl (by rfl) (by kernel_rfl) (by kernel_rfl) (by kernel_rfl) (by kernel_rfl) (by kernel_rfl) (fun γ δ => rfl) hS (fun _ _ => trivial) (⟨fun _ => .agg (nc (U ^ (P - 2) % P)), ⟨_, mod_M _, mod_P _, rfl⟩, trivial⟩) ?_ ?_
              · intro γ δ hgd
                simp only [FloatB.puts, Act.put, List.setIfInBounds_toArray, List.set_cons_zero, List.set_cons_succ]
                refine ⟨?_, ?_, ?_, ?_, trivial⟩
                · exact ⟨_, _, rfl, FloatB.does_take (fun w hw => run_load_op 38 (.tmp 9) rfl b9 rfl (Q9.out.below hw Q9.out.lt) rfl rfl (by rw [ec_size]; kernel_rfl))⟩
                · exact ⟨_, _, rfl, FloatB.does_call 26 (#[.agg (ec X)]) (by intro w; go_simp; try with_reducible rfl) (fun w hw => over_any X HR0.out.1 w)⟩
                · exact ⟨_, _, rfl, FloatB.does_take (fun w hw => run_load_op 24 (.tmp 11) rfl b11 rfl (Q11.out.below hw Q11.out.lt) rfl rfl (by rw [nc_size]; kernel_rfl))⟩
                · exact ⟨_, _, rfl, FloatB.does_some 27 (#[.agg (nc U)]) (by intro w; go_simp; try with_reducible rfl) (fun w hw => invert_some U HR0.out.2.2.1 w)⟩
              · intro γ δ v hS hgd hrows hne
                simp only [FloatB.puts, Act.put, List.setIfInBounds_toArray, List.set_cons_zero, List.set_cons_succ]
                obtain ⟨hsm, -⟩ := hgd
                clear hne hrows
                generalize δ 3 = dv at *
                clear γ δ
                obtain ⟨m, hm1, hm2, rfl⟩ := hsm
                have J9 := Lib.hid (Q9.out.below hS Q9.out.lt)
                have J10 := Lib.hid (Q10.out.below hS Q10.out.lt)
                have J11 := Lib.hid (Q11.out.below hS Q11.out.lt)
                have J12 := Lib.hid (Q12.out.below hS Q12.out.lt)
                have KB := Lib.hid (QB.out.trans (hS.mono (by omega)))
                clear Q9 Q10 Q11 Q12 QB hS hT
                refine alone 4 rfl (by kernel_rfl) (by rfl) ?_
                intro K hK
                refine wp_store_row 38 (.tmp 9) (.tmp 81) rfl b9 (ec (X ^ (P - 2) % P)) (by rfl) (by rfl) 38 _ J9.out (by rw [ec_size]; kernel_rfl) (by rw [ec_size, ec_size]) (qcells_one _ _) ?_
                refine hK.out _ _ trivial ?_
                clear hK K
                try simp only [Act.put]
                replace J10 := Lib.hid (Whole.farRow J10.out (g := b9) (by omega) (ec (X ^ (P - 2) % P)))
                replace J11 := Lib.hid (Whole.farRow J11.out (g := b9) (by omega) (ec (X ^ (P - 2) % P)))
                replace J12 := Lib.hid (Whole.farRow J12.out (g := b9) (by omega) (ec (X ^ (P - 2) % P)))
                replace KB := Lib.hid (below_setRow KB.out (by omega) (g := b9) (ec (X ^ (P - 2) % P)))
                replace J9 := Lib.hid (setRow_heap _ _ _ (ec (X ^ (P - 2) % P)) _ _ J9.out)
                refine alone 5 rfl (by kernel_rfl) (by rfl) ?_
                intro K hK
                refine wp_store_row 24 (.tmp 11) (.tmp 83) rfl b11 (nc m) (by rfl) (by rfl) 24 _ J11.out (by rw [nc_size]; kernel_rfl) (by rw [nc_size, nc_size]) (icells_one _ _) ?_
                refine hK.out _ _ trivial ?_
                clear hK K
                try simp only [Act.put]
                replace J9 := Lib.hid (Whole.farRow J9.out (g := b11) (by omega) (nc m))
                replace J10 := Lib.hid (Whole.farRow J10.out (g := b11) (by omega) (nc m))
                replace J12 := Lib.hid (Whole.farRow J12.out (g := b11) (by omega) (nc m))
                replace KB := Lib.hid (below_setRow KB.out (by omega) (g := b11) (nc m))
                replace J11 := Lib.hid (setRow_heap _ _ _ (nc m) _ _ J11.out)
                refine region_end (by kernel_rfl) ?_
                have HE := Lib.hid (show ElW w0 B b9 b10 b11 b12 (X ^ (P - 2) % P) Y m V _ from ⟨J9.out, J10.out, J11.out, J12.out, KB.out⟩)
                have hres := ok_inv HR0.out hm1 hm2
                have HR := Lib.hid hres
                clear J9 J10 J11 J12 KB hres
                first | (refine cut_post (F := Exit.then _ _) (ElW w0 B b9 b10 b11 b12 (X ^ (P - 2) % P) Y m V) HE.out ?_) | (refine cut_post (F := Exit.inBlock _ _) (ElW w0 B b9 b10 b11 b12 (X ^ (P - 2) % P) Y m V) HE.out ?_)
                clear HE
                intro Z hz
                have HE := Lib.hid hz
                clear hz
                go_wp2_with fail
                go_roundw
                case rel => exact ⟨k + 1, (X ^ (P - 2) % P), Y, m, V, by omega, by omega, by go_num, HR.out, HE.out⟩
                case measure => simp [intOf]; omega
          · obtain rfl : k = 40 := by omega
            have i1 : (40 : Int) < (on : Int) := by omega
            rw [show ((40 : Nat) : Int) = 40 from rfl]
            have HB := Lib.hid (bytes_any X HR0.out.1)
            have HBU := Lib.hid (RefF.bytes_any U HR0.out.2.2.1)
            rw [HR0.out.2.2.2.2.1] at HBU
            have HBZ := Lib.hid (bytes_any 0 P_pos)
            have HB0 := Lib.hid none_built
            have HZE := Lib.hid (show Try.prog.built 38 [] = some (ec 0) from by rw [ec, dg_zero]; kernel_rfl)
            have HEQ := Lib.hid (show ∀ w, (Op.equalIn 10000 22 (.agg (byteCells (byteAt 0) 32).toArray) (.agg (byteCells (byteAt 0) 32).toArray)).run Try.prog w = .ok true w from same_of rfl)
            generalize byteAt 0 = N0 at HBZ HB0 HEQ
            generalize byteAt X = XB at HB HBU
            rw [el_ec] at HB HBZ
            rw [nv_nc] at HBU
            generalize ec 0 = E0 at HBZ HZE
            clear Q10 Q12
            go_upto_region 19 with fail
            go_wp2_with (refine wpList_load_row rfl 38 (.tmp 9) rfl b9 rfl 38 (ec X) (0, 0) _ Q9.out rfl rfl (by rw [ec_size]; kernel_rfl) ?_)
            refine (HB.out _).mono ?_
            rintro e1 Y1 ⟨rfl, hb⟩
            have l11 := Q11.out.lt
            replace Q11 := Lib.hid (Q11.out.below hb l11)
            replace QB := Lib.hid (QB.out.trans (hb.mono hwr))
            have s1 := hb.size
            clear hb Q9
            go_wp2_with (refine wpList_built0 rfl 38 rfl E0 HZE.out ?_)
            refine (HBZ.out _).mono ?_
            rintro e2 Y2 ⟨rfl, hb⟩
            have l11' := Q11.out.lt
            replace Q11 := Lib.hid (Q11.out.below hb l11')
            replace QB := Lib.hid (QB.out.trans (hb.mono (by omega)))
            have s2 := hb.size
            clear hb
            go_upto_region 20 with (first | (refine wpList_store_row rfl 22 (.tmp 14) (.tmp 85) rfl Y2.heap.size (byteCells XB 32).toArray rfl rfl 22 _ (Whole.alloc (Whole.new _ _ _) _) (by rw [HZ.out]; kernel_rfl) (by rw [HZ.out]; rfl) (bytes_one _ _) ?_) | (refine wpList_store_row rfl 22 (.tmp 15) (.tmp 87) rfl (Y2.heap.size + 1) (byteCells N0 32).toArray rfl rfl 22 _ (Whole.farRow (whole_new _ _ (by simp)) (by omega) _) (by rw [HZ.out]; kernel_rfl) (by rw [HZ.out]; rfl) (bytes_one _ _) ?_))
            refine cut_world (fun Z => Whole Z b11 24 (nc U) ∧ Whole Z Y2.heap.size 22 (byteCells XB 32).toArray ∧ Whole Z (Y2.heap.size + 1) 22 (byteCells N0 32).toArray ∧ Below B w0 Z ∧ B ≤ Z.heap.size) ⟨Whole.farRow (Whole.farRow ((Q11.out.alloc _).alloc _) (by omega) _) (by omega) _, Whole.farRow (setRow_heap _ _ _ _ _ _ (Whole.alloc (Whole.new _ _ _) _)) (by omega) _, setRow_heap _ _ _ _ _ _ (Whole.farRow (whole_new _ _ (by simp)) (by omega) _), below_setRow (below_setRow ((QB.out.alloc (by omega) _).alloc (by simp; omega) _) (by omega) _) (by omega) _, ?_⟩ ?_
            · have := Whole.lt (Whole.farRow (Whole.farRow ((Q11.out.alloc (.cells (byteCells (fun _ => 0) 32).toArray 22)).alloc (.cells (byteCells (fun _ => 0) 32).toArray 22)) (g := Y2.heap.size) (by omega) (byteCells XB 32).toArray) (g := Y2.heap.size + 1) (by omega) (byteCells N0 32).toArray)
              exact Nat.le_trans (by omega) (Nat.le_of_lt this)
            clear Q11 QB s1 s2 l11 l11'
            generalize Y2.heap.size = b14
            rintro Z ⟨k11, k14, k15, kb, hZ⟩
            have N11 := Lib.hid k11
            have RD1 := Lib.hid (Rd.of_whole k14)
            have N15 := Lib.hid k15
            have KB := Lib.hid kb
            clear k11 k14 k15 kb
            go_wp2_with fail
            refine region_drew (fun x => Below Z.heap.size Z x) (by kernel_rfl) (Below.drew (Below.refl _ _)) ?_
            intro hS
            refine alone 0 rfl (by kernel_rfl) (by rfl) ?_
            intro K hK
            go_simp
            refine (alive_any _).mono ?_
            rintro e q0 ⟨rfl, hb⟩
            go_simp
            replace hS := below_trans hS hb
            refine hK.out _ _ hS ?_
            clear hK hb K
            try simp only [Act.put, List.setIfInBounds_toArray, List.set_cons_zero, List.set_cons_succ]
            refine take 1 _ rfl (by kernel_rfl) (by kernel_rfl) (by kernel_rfl) (fun _ _ _ h => h) (by rfl) hS (by intro w _; go_simp; with_reducible rfl) ?_
            try simp only [Act.put, List.setIfInBounds_toArray, List.set_cons_zero, List.set_cons_succ]
            refine take 2 _ rfl (by kernel_rfl) (by kernel_rfl) (by kernel_rfl) (fun _ _ _ h => h) (by rfl) hS (by intro w _; go_simp; with_reducible rfl) ?_
            try simp only [Act.put, List.setIfInBounds_toArray, List.set_cons_zero, List.set_cons_succ]
            refine take 3 _ rfl (by kernel_rfl) (by kernel_rfl) (by kernel_rfl) (fun _ _ _ h => h) (by rfl) hS (fun w hw => run_string_op 26 9 5 _ rfl rfl Try.underlying26 Try.underlying5 Try.underlying9 (RD1.out.below hw (Nat.le_refl _))) ?_
            try simp only [Act.put, List.setIfInBounds_toArray, List.set_cons_zero, List.set_cons_succ]
            refine take 4 _ rfl (by kernel_rfl) (by kernel_rfl) (by kernel_rfl) (fun _ _ _ h => h) (by rfl) hS (fun w hw => run_load_op 24 (.tmp 11) rfl (b11) rfl (N11.out.below hw N11.out.lt) rfl rfl (by rw [nc_size]; kernel_rfl)) ?_
            try simp only [Act.put, List.setIfInBounds_toArray, List.set_cons_zero, List.set_cons_succ]
            refine alone 5 rfl (by kernel_rfl) (by rfl) ?_
            intro K hK
            go_simp
            refine (HBU.out _).mono ?_
            rintro e q5 ⟨AC1, cc1, rfl, oc, hb⟩
            have OC1 := Lib.hid oc.rd
            clear oc
            go_simp
            replace hS := below_trans hS hb
            refine hK.out _ _ hS ?_
            clear hK hb K
            try simp only [Act.put, List.setIfInBounds_toArray, List.set_cons_zero, List.set_cons_succ]
            refine alone_run 6 _ rfl (by kernel_rfl) (by rfl) hS (run_string_op 26 9 5 _ rfl rfl Try.underlying26 Try.underlying5 Try.underlying9 (OC1.out)) ?_
            try simp only [Act.put, List.setIfInBounds_toArray, List.set_cons_zero, List.set_cons_succ]
            refine take 7 _ rfl (by kernel_rfl) (by kernel_rfl) (by kernel_rfl) (fun _ _ _ h => h) (by rfl) hS (by intro w _; go_simp; with_reducible rfl) ?_
            try simp only [Act.put, List.setIfInBounds_toArray, List.set_cons_zero, List.set_cons_succ]
            refine take 8 _ rfl (by kernel_rfl) (by kernel_rfl) (by kernel_rfl) (fun _ _ _ h => h) (by rfl) hS (by intro w _; go_simp; with_reducible rfl) ?_
            try simp only [Act.put, List.setIfInBounds_toArray, List.set_cons_zero, List.set_cons_succ]
            refine take 9 _ rfl (by kernel_rfl) (by kernel_rfl) (by kernel_rfl) (fun _ _ _ h => h) (by rfl) hS (by intro w _; go_simp; with_reducible rfl) ?_
            try simp only [Act.put, List.setIfInBounds_toArray, List.set_cons_zero, List.set_cons_succ]
            refine take 10 _ rfl (by kernel_rfl) (by kernel_rfl) (by kernel_rfl) (fun _ _ _ h => h) (by rfl) hS (fun w hw => run_load_op 22 (.tmp 15) rfl ((b14+1)) rfl (N15.out.below hw N15.out.lt) rfl rfl (by rw [HZ.out]; kernel_rfl)) ?_
            try simp only [Act.put, List.setIfInBounds_toArray, List.set_cons_zero, List.set_cons_succ]
            refine take 11 (B32 N0) rfl (by kernel_rfl) (by kernel_rfl) (by kernel_rfl) (fun _ _ _ h => h) (by rfl) hS (fun w _ => run_built0 22 rfl (byteCells N0 32).toArray HB0.out) ?_
            try simp only [Act.put, List.setIfInBounds_toArray, List.set_cons_zero, List.set_cons_succ]
            refine take 12 _ rfl (by kernel_rfl) (by kernel_rfl) (by kernel_rfl) (fun _ _ _ h => h) (by rfl) hS (by intro w _; go_simp; try simp only [HEQ.out, Result.andThen_ok]; try with_reducible rfl) ?_
            try simp only [Act.put, List.setIfInBounds_toArray, List.set_cons_zero, List.set_cons_succ]
            refine take 13 _ rfl (by kernel_rfl) (by kernel_rfl) (by kernel_rfl) (fun _ _ _ h => h) (by rfl) hS (by intro w _; go_simp; with_reducible rfl) ?_
            try simp only [Act.put, List.setIfInBounds_toArray, List.set_cons_zero, List.set_cons_succ]
            refine take 14 _ rfl (by kernel_rfl) (by kernel_rfl) (by kernel_rfl) (fun _ _ _ h => h) (by rfl) hS (by intro w _; go_simp; with_reducible rfl) ?_
            try simp only [Act.put, List.setIfInBounds_toArray, List.set_cons_zero, List.set_cons_succ]
            refine region_end (by kernel_rfl) ?_
            have HB9 := Lib.hid (KB.out.trans (hS.mono hZ))
            clear hS
            go_wp2_with fail
            go_ret
            exact ⟨rfl, by rw [hB]; exact HB9.out⟩
        · obtain rfl : k = on := by omega
          have i1 : ¬ (k : Int) < (k : Int) := by omega
          have HB := Lib.hid (bytes_any X HR0.out.1)
          have HBU := Lib.hid (RefF.bytes_any U HR0.out.2.2.1)
          rw [HR0.out.2.2.2.2.1] at HBU
          have HBZ := Lib.hid (bytes_any 0 P_pos)
          have HB0 := Lib.hid none_built
          have HZE := Lib.hid (show Try.prog.built 38 [] = some (ec 0) from by rw [ec, dg_zero]; kernel_rfl)
          have HEQ := Lib.hid (show ∀ w, (Op.equalIn 10000 22 (.agg (byteCells (byteAt 0) 32).toArray) (.agg (byteCells (byteAt 0) 32).toArray)).run Try.prog w = .ok true w from same_of rfl)
          generalize byteAt 0 = N0 at HBZ HB0 HEQ
          generalize byteAt X = XB at HB HBU
          rw [el_ec] at HB HBZ
          rw [nv_nc] at HBU
          generalize ec 0 = E0 at HBZ HZE
          clear Q10 Q12
          go_upto_region 19 with fail
          go_wp2_with (refine wpList_load_row rfl 38 (.tmp 9) rfl b9 rfl 38 (ec X) (0, 0) _ Q9.out rfl rfl (by rw [ec_size]; kernel_rfl) ?_)
          refine (HB.out _).mono ?_
          rintro e1 Y1 ⟨rfl, hb⟩
          have l11 := Q11.out.lt
          replace Q11 := Lib.hid (Q11.out.below hb l11)
          replace QB := Lib.hid (QB.out.trans (hb.mono hwr))
          have s1 := hb.size
          clear hb Q9
          go_wp2_with (refine wpList_built0 rfl 38 rfl E0 HZE.out ?_)
          refine (HBZ.out _).mono ?_
          rintro e2 Y2 ⟨rfl, hb⟩
          have l11' := Q11.out.lt
          replace Q11 := Lib.hid (Q11.out.below hb l11')
          replace QB := Lib.hid (QB.out.trans (hb.mono (by omega)))
          have s2 := hb.size
          clear hb
          go_upto_region 20 with (first | (refine wpList_store_row rfl 22 (.tmp 14) (.tmp 85) rfl Y2.heap.size (byteCells XB 32).toArray rfl rfl 22 _ (Whole.alloc (Whole.new _ _ _) _) (by rw [HZ.out]; kernel_rfl) (by rw [HZ.out]; rfl) (bytes_one _ _) ?_) | (refine wpList_store_row rfl 22 (.tmp 15) (.tmp 87) rfl (Y2.heap.size + 1) (byteCells N0 32).toArray rfl rfl 22 _ (Whole.farRow (whole_new _ _ (by simp)) (by omega) _) (by rw [HZ.out]; kernel_rfl) (by rw [HZ.out]; rfl) (bytes_one _ _) ?_))
          refine cut_world (fun Z => Whole Z b11 24 (nc U) ∧ Whole Z Y2.heap.size 22 (byteCells XB 32).toArray ∧ Whole Z (Y2.heap.size + 1) 22 (byteCells N0 32).toArray ∧ Below B w0 Z ∧ B ≤ Z.heap.size) ⟨Whole.farRow (Whole.farRow ((Q11.out.alloc _).alloc _) (by omega) _) (by omega) _, Whole.farRow (setRow_heap _ _ _ _ _ _ (Whole.alloc (Whole.new _ _ _) _)) (by omega) _, setRow_heap _ _ _ _ _ _ (Whole.farRow (whole_new _ _ (by simp)) (by omega) _), below_setRow (below_setRow ((QB.out.alloc (by omega) _).alloc (by simp; omega) _) (by omega) _) (by omega) _, ?_⟩ ?_
          · have := Whole.lt (Whole.farRow (Whole.farRow ((Q11.out.alloc (.cells (byteCells (fun _ => 0) 32).toArray 22)).alloc (.cells (byteCells (fun _ => 0) 32).toArray 22)) (g := Y2.heap.size) (by omega) (byteCells XB 32).toArray) (g := Y2.heap.size + 1) (by omega) (byteCells N0 32).toArray)
            exact Nat.le_trans (by omega) (Nat.le_of_lt this)
          clear Q11 QB s1 s2 l11 l11'
          generalize Y2.heap.size = b14
          rintro Z ⟨k11, k14, k15, kb, hZ⟩
          have N11 := Lib.hid k11
          have RD1 := Lib.hid (Rd.of_whole k14)
          have N15 := Lib.hid k15
          have KB := Lib.hid kb
          clear k11 k14 k15 kb
          go_wp2_with fail
          refine region_drew (fun x => Below Z.heap.size Z x) (by kernel_rfl) (Below.drew (Below.refl _ _)) ?_
          intro hS
          refine alone 0 rfl (by kernel_rfl) (by rfl) ?_
          intro K hK
          go_simp
          refine (alive_any _).mono ?_
          rintro e q0 ⟨rfl, hb⟩
          go_simp
          replace hS := below_trans hS hb
          refine hK.out _ _ hS ?_
          clear hK hb K
          try simp only [Act.put, List.setIfInBounds_toArray, List.set_cons_zero, List.set_cons_succ]
          refine take 1 _ rfl (by kernel_rfl) (by kernel_rfl) (by kernel_rfl) (fun _ _ _ h => h) (by rfl) hS (by intro w _; go_simp; with_reducible rfl) ?_
          try simp only [Act.put, List.setIfInBounds_toArray, List.set_cons_zero, List.set_cons_succ]
          refine take 2 _ rfl (by kernel_rfl) (by kernel_rfl) (by kernel_rfl) (fun _ _ _ h => h) (by rfl) hS (by intro w _; go_simp; with_reducible rfl) ?_
          try simp only [Act.put, List.setIfInBounds_toArray, List.set_cons_zero, List.set_cons_succ]
          refine take 3 _ rfl (by kernel_rfl) (by kernel_rfl) (by kernel_rfl) (fun _ _ _ h => h) (by rfl) hS (fun w hw => run_string_op 26 9 5 _ rfl rfl Try.underlying26 Try.underlying5 Try.underlying9 (RD1.out.below hw (Nat.le_refl _))) ?_
          try simp only [Act.put, List.setIfInBounds_toArray, List.set_cons_zero, List.set_cons_succ]
          refine take 4 _ rfl (by kernel_rfl) (by kernel_rfl) (by kernel_rfl) (fun _ _ _ h => h) (by rfl) hS (fun w hw => run_load_op 24 (.tmp 11) rfl (b11) rfl (N11.out.below hw N11.out.lt) rfl rfl (by rw [nc_size]; kernel_rfl)) ?_
          try simp only [Act.put, List.setIfInBounds_toArray, List.set_cons_zero, List.set_cons_succ]
          refine alone 5 rfl (by kernel_rfl) (by rfl) ?_
          intro K hK
          go_simp
          refine (HBU.out _).mono ?_
          rintro e q5 ⟨AC1, cc1, rfl, oc, hb⟩
          have OC1 := Lib.hid oc.rd
          clear oc
          go_simp
          replace hS := below_trans hS hb
          refine hK.out _ _ hS ?_
          clear hK hb K
          try simp only [Act.put, List.setIfInBounds_toArray, List.set_cons_zero, List.set_cons_succ]
          refine alone_run 6 _ rfl (by kernel_rfl) (by rfl) hS (run_string_op 26 9 5 _ rfl rfl Try.underlying26 Try.underlying5 Try.underlying9 (OC1.out)) ?_
          try simp only [Act.put, List.setIfInBounds_toArray, List.set_cons_zero, List.set_cons_succ]
          refine take 7 _ rfl (by kernel_rfl) (by kernel_rfl) (by kernel_rfl) (fun _ _ _ h => h) (by rfl) hS (by intro w _; go_simp; with_reducible rfl) ?_
          try simp only [Act.put, List.setIfInBounds_toArray, List.set_cons_zero, List.set_cons_succ]
          refine take 8 _ rfl (by kernel_rfl) (by kernel_rfl) (by kernel_rfl) (fun _ _ _ h => h) (by rfl) hS (by intro w _; go_simp; with_reducible rfl) ?_
          try simp only [Act.put, List.setIfInBounds_toArray, List.set_cons_zero, List.set_cons_succ]
          refine take 9 _ rfl (by kernel_rfl) (by kernel_rfl) (by kernel_rfl) (fun _ _ _ h => h) (by rfl) hS (by intro w _; go_simp; with_reducible rfl) ?_
          try simp only [Act.put, List.setIfInBounds_toArray, List.set_cons_zero, List.set_cons_succ]
          refine take 10 _ rfl (by kernel_rfl) (by kernel_rfl) (by kernel_rfl) (fun _ _ _ h => h) (by rfl) hS (fun w hw => run_load_op 22 (.tmp 15) rfl ((b14+1)) rfl (N15.out.below hw N15.out.lt) rfl rfl (by rw [HZ.out]; kernel_rfl)) ?_
          try simp only [Act.put, List.setIfInBounds_toArray, List.set_cons_zero, List.set_cons_succ]
          refine take 11 (B32 N0) rfl (by kernel_rfl) (by kernel_rfl) (by kernel_rfl) (fun _ _ _ h => h) (by rfl) hS (fun w _ => run_built0 22 rfl (byteCells N0 32).toArray HB0.out) ?_
          try simp only [Act.put, List.setIfInBounds_toArray, List.set_cons_zero, List.set_cons_succ]
          refine take 12 _ rfl (by kernel_rfl) (by kernel_rfl) (by kernel_rfl) (fun _ _ _ h => h) (by rfl) hS (by intro w _; go_simp; try simp only [HEQ.out, Result.andThen_ok]; try with_reducible rfl) ?_
          try simp only [Act.put, List.setIfInBounds_toArray, List.set_cons_zero, List.set_cons_succ]
          refine take 13 _ rfl (by kernel_rfl) (by kernel_rfl) (by kernel_rfl) (fun _ _ _ h => h) (by rfl) hS (by intro w _; go_simp; with_reducible rfl) ?_
          try simp only [Act.put, List.setIfInBounds_toArray, List.set_cons_zero, List.set_cons_succ]
          refine take 14 _ rfl (by kernel_rfl) (by kernel_rfl) (by kernel_rfl) (fun _ _ _ h => h) (by rfl) hS (by intro w _; go_simp; with_reducible rfl) ?_
          try simp only [Act.put, List.setIfInBounds_toArray, List.set_cons_zero, List.set_cons_succ]
          refine region_end (by kernel_rfl) ?_
          have HB9 := Lib.hid (KB.out.trans (hS.mono hZ))
          clear hS
          go_wp2_with fail
          go_ret
          exact ⟨rfl, by rw [hB]; exact HB9.out⟩

theorem walk (f g : Nat → Nat) (n : Int) (a3 : Option Addr) (len3 cap3 : Nat) (z3 : List Int) (w : World) (hf : ∀ i, f i < 256) (hg : ∀ i, g i < 256) (hn : (Lit.int .u32 n).wf = true) (w3 : IsRow .u8 w a3 len3 cap3 z3) :
    Calls Try.prog 4 #[.agg (byteCells f 32).toArray, .agg (byteCells g 32).toArray, .int .u32 n, .slice a3 len3 cap3] w fun e w' => e = .returned (.bool true) ∧ Below w.heap.size w w' := by
  obtain ⟨v, rfl, hv⟩ := nat_u32 hn
  obtain ⟨o, ho, hr, hc, hc2⟩ := rd_of_row w3
  exact core f g v a3 len3 cap3 o w hf hg hv ho hr hc hc2

end FieldElements
end Go.Proofs.Ytnopjjkijedpeaa
