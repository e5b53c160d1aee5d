/- Package gauge, Note: what a gauge with a measure more has. -/
import Derived.Test.YteombmahglbeeaaGaugeC
import Derived.Test.YteombmahglbeeaaFloatK
namespace Go.Proofs.Yteombmahglbeeaa
namespace Fl
structure G where
  c : Nat
  b : Nat
  lo : Nat
  hi : Nat
  sm : Nat
/-- a smooth measure moved on -/
def mv (s x : Nat) : Nat := if counts ((((Ieee.double.sub x s).bind fun d => Ieee.double.div d 4620693217682128896).bind fun q => Ieee.double.add s q).getD 0) = true then ((((Ieee.double.sub x s).bind fun d => Ieee.double.div d 4620693217682128896).bind fun q => Ieee.double.add s q).getD 0) else x
structure G.ok (g : G) : Prop where
  lo : counts g.lo = true ∧ g.lo < 18446744073709551616
  hi : counts g.hi = true ∧ g.hi < 18446744073709551616
  sm : counts g.sm = true ∧ g.sm < 18446744073709551616
def note (g : G) (x : Nat) : G :=
  if counts x = true then (if g.c = 0 then ⟨1, g.b, x, x, x⟩ else ⟨g.c + 1, g.b, least g.lo x, greatest g.hi x, mv g.sm x⟩) else ⟨g.c, g.b + 1, g.lo, g.hi, g.sm⟩
theorem least_or {x y : Nat} (hx : counts x = true) (hy : counts y = true) : least x y = x ∨ least x y = y := by
  unfold least
  rw [if_pos ⟨counts_num hx, counts_num hy⟩]
  split
  · exact .inr rfl
  · exact .inl rfl
theorem greatest_or {x y : Nat} (hx : counts x = true) (hy : counts y = true) : greatest x y = x ∨ greatest x y = y := by
  unfold greatest
  rw [if_pos ⟨counts_num hx, counts_num hy⟩]
  split
  · exact .inr rfl
  · exact .inl rfl
/-- how a smooth measure is moved -/
theorem mv_some {s x : Nat} (hs : counts s = true) (hx : counts x = true) : ∃ d q r, Ieee.double.sub x s = some d ∧ Ieee.double.div d 4620693217682128896 = some q ∧ Ieee.double.add s q = some r ∧ r < 18446744073709551616 ∧ mv s x = if counts r = true then r else x := by
  obtain ⟨d, hd, hdn, _⟩ := sub_some hx hs
  obtain ⟨q, hq, hqn, _⟩ := div_some hdn (show counts 4620693217682128896 = true by decide) (show rung 4620693217682128896 ≠ 0 by decide)
  obtain ⟨r, hr, _, hrl⟩ := add_some hs hqn
  refine ⟨d, q, r, hd, hq, hr, hrl, ?_⟩
  unfold mv
  rw [hd]
  simp only [Option.bind_some, hq, hr, Option.getD_some]
theorem mv_ok {s x : Nat} (hs : counts s = true) (hx : counts x = true) (hx2 : x < 18446744073709551616) : counts (mv s x) = true ∧ mv s x < 18446744073709551616 := by
  obtain ⟨d, q, r, _, _, _, hrl, e⟩ := mv_some hs hx
  rw [e]
  split
  · exact ⟨‹_›, hrl⟩
  · exact ⟨hx, hx2⟩
theorem note_ok {g : G} (h : g.ok) {x : Nat} (hx : x < 18446744073709551616) : (note g x).ok := by
  unfold note
  split
  · rename_i hc
    split
    · exact ⟨⟨hc, hx⟩, ⟨hc, hx⟩, ⟨hc, hx⟩⟩
    · refine ⟨?_, ?_, mv_ok h.sm.1 hc hx⟩
      · show counts (least g.lo x) = true ∧ least g.lo x < _
        rcases least_or h.lo.1 hc with e | e <;> rw [e]
        · exact h.lo
        · exact ⟨hc, hx⟩
      · show counts (greatest g.hi x) = true ∧ greatest g.hi x < _
        rcases greatest_or h.hi.1 hc with e | e <;> rw [e]
        · exact h.hi
        · exact ⟨hc, hx⟩
  · exact ⟨h.lo, h.hi, h.sm⟩
theorem told_eq {x : Nat} (h : counts x = true) : told x = x := by unfold told; rw [counts_num h]; rfl
end Fl
namespace Gauge
open Go.ChangeShapes Go.WideShapes Go.ChangeAt Go.RowKit
open Num Mem Words Chacha Aead Poly Quiet Fl

theorem cut_post {F : Exit → Act → World → Prop} {e : Exit} {a : Act} {w : World} (R : World → Prop) (hR : R w) (h : ∀ w', R w' → F e a w') : F e a w := h w hR
theorem more_any (n : Nat) (hn : n < 18446744073709551615) (w : World) : Calls Try.prog 31 #[.int .u64 (n : Nat)] w fun e w' => e = .returned (.int .u64 (n + 1 : Nat)) ∧ w = w' := by
  obtain ⟨M, hM⟩ : ∃ M : Int, M = (n : Int) := ⟨_, rfl⟩
  have h1 : (M == 18446744073709551615) = false := by rw [beq_eq_false_iff_ne]; omega
  have h2 : (M = 18446744073709551615) = False := eq_false (by omega)
  have h3 : IntKind.u64.wrap (M + 1) = M + 1 := by rw [IntKind.wrap_u64]; omega
  have e : ((n + 1 : Nat) : Int) = M + 1 := by omega
  rw [e, ← hM]
  clear hM e hn
  go_enter Try.func31, Try.ntmps31
  go_wp2
  go_ret
  exact ⟨ret_int (by first | rfl | exact h3), rfl⟩
set_option maxRecDepth 100000 in
theorem moved_any (s x : Nat) (hs : counts s = true) (hx : counts x = true) (w : World) : Calls Try.prog 33 #[.float .f64 s, .float .f64 x] w fun e w' => e = .returned (.float .f64 (mv s x)) ∧ w = w' := by
  obtain ⟨d, q, r, h1, h2, h3, hr, e⟩ := mv_some hs hx
  have F1 := fop .sub 25 (show floatBits .sub .f64 x s = some d from h1)
  have F2 := fop .quo 25 (show floatBits .quo .f64 d 4620693217682128896 = some q from h2)
  have F3 := fop .add 25 (show floatBits .add .f64 s q = some r from h3)
  have C := Lib.hid (counts_any r hr)
  rw [e]
  clear e h1 h2 h3 hs hx hr
  rcases hc : counts r with _ | _
  · rw [hc] at C
    rw [if_neg (by simp)]
    clear hc
    go_enter Try.func33, Try.ntmps33
    go_wp2_with fail
    refine (C.out _).mono ?_
    rintro e w' ⟨rfl, rfl⟩
    go_wp2_with fail
    go_ret
    exact ⟨rfl, rfl⟩
  · rw [hc] at C
    rw [if_pos rfl]
    clear hc
    go_enter Try.func33, Try.ntmps33
    go_wp2_with fail
    refine (C.out _).mono ?_
    rintro e w' ⟨rfl, rfl⟩
    go_wp2_with fail
    go_ret
    exact ⟨rfl, rfl⟩

/-- a gauge lies in a block of its own -/
def GLies (t : TypeId) (W : World) (B c b lo hi sm : Nat) : Prop := Whole W B t #[.int .u64 (c : Nat), .int .u64 (b : Nat), .float .f64 lo, .float .f64 hi, .float .f64 sm]
section
variable {t : TypeId} {W x : World} {B c b lo hi sm : Nat}
theorem GLies.c0 (h : GLies t W B c b lo hi sm) : W.cell? ⟨B, 0, none⟩ = some (.int .u64 (c : Nat)) := Whole.cell h 0
theorem GLies.c1 (h : GLies t W B c b lo hi sm) : W.cell? ⟨B, 1, none⟩ = some (.int .u64 (b : Nat)) := Whole.cell h 1
theorem GLies.c2 (h : GLies t W B c b lo hi sm) : W.cell? ⟨B, 2, none⟩ = some (.float .f64 lo) := Whole.cell h 2
theorem GLies.c3 (h : GLies t W B c b lo hi sm) : W.cell? ⟨B, 3, none⟩ = some (.float .f64 hi) := Whole.cell h 3
theorem GLies.c4 (h : GLies t W B c b lo hi sm) : W.cell? ⟨B, 4, none⟩ = some (.float .f64 sm) := Whole.cell h 4
theorem GLies.free (h : GLies t W B c b lo hi sm) (i : Nat) : W.frozen? ⟨B, i, none⟩ = false := Whole.free h i
theorem GLies.lt (h : GLies t W B c b lo hi sm) : B < W.heap.size := Whole.lt h
theorem GLies.below (h : GLies t W B c b lo hi sm) (hb : Below W.heap.size W x) : GLies t x B c b lo hi sm := Whole.below h hb h.lt
theorem GLies.far {p : Addr} {v : Value} (h : GLies t W B c b lo hi sm) (hp : B ≠ p.block) : GLies t (W.setCell p v) B c b lo hi sm := Whole.far h hp v
theorem GLies.set0 {m : Nat} (h : GLies t W B c b lo hi sm) : GLies t (W.setCell ⟨B, 0, none⟩ (.int .u64 (m : Nat))) B m b lo hi sm := Whole.put h 0 _
theorem GLies.set1 {m : Nat} (h : GLies t W B c b lo hi sm) : GLies t (W.setCell ⟨B, 1, none⟩ (.int .u64 (m : Nat))) B c m lo hi sm := Whole.put h 1 _
theorem GLies.set2 {m : Nat} (h : GLies t W B c b lo hi sm) : GLies t (W.setCell ⟨B, 2, none⟩ (.float .f64 m)) B c b m hi sm := Whole.put h 2 _
theorem GLies.set3 {m : Nat} (h : GLies t W B c b lo hi sm) : GLies t (W.setCell ⟨B, 3, none⟩ (.float .f64 m)) B c b lo m sm := Whole.put h 3 _
theorem GLies.set4 {m : Nat} (h : GLies t W B c b lo hi sm) : GLies t (W.setCell ⟨B, 4, none⟩ (.float .f64 m)) B c b lo hi m := Whole.put h 4 _
end
theorem glies_new (t : TypeId) (w : World) (c b lo hi sm : Nat) : GLies t (w.alloc (.cells #[.int .u64 (c : Nat), .int .u64 (b : Nat), .float .f64 lo, .float .f64 hi, .float .f64 sm] t)) w.heap.size c b lo hi sm := Whole.new w _ _

set_option maxRecDepth 100000 in
set_option maxHeartbeats 4000000 in
theorem note_bad (c b lo hi sm x : Nat) (hx : x < 18446744073709551616) (hc : counts x = false) (hb : b < 18446744073709551615) (h1 : counts lo = true) (h2 : counts hi = true) (h3 : counts sm = true) (w : World) :
    Calls Try.prog 17 #[.agg #[.int .u64 (c : Nat), .int .u64 (b : Nat), .float .f64 lo, .float .f64 hi, .float .f64 sm], .float .f64 x] w fun e w' => e = .returned (.agg #[.int .u64 (c : Nat), .int .u64 (b + 1 : Nat), .float .f64 lo, .float .f64 hi, .float .f64 sm]) ∧ Below w.heap.size w w' := by
  have CC := Lib.hid (counts_any x hx)
  rw [hc] at CC
  have CM := Lib.hid (more_any b hb)
  have T1 := Lib.hid (told_any lo)
  have T2 := Lib.hid (told_any hi)
  have T3 := Lib.hid (told_any sm)
  rw [told_eq h1] at T1
  rw [told_eq h2] at T2
  rw [told_eq h3] at T3
  generalize b + 1 = b1 at *
  clear hx hc hb h1 h2 h3
  go_enter Try.func17, Try.ntmps17
  go_upto_region 2 with fail
  refine cut_world (fun W => GLies 38 W w.heap.size c b lo hi sm ∧ GLies 38 W (w.heap.size + 1) 0 0 0 0 0 ∧ Below w.heap.size w W) ⟨Whole.alloc (glies_new _ _ _ _ _ _ _) _, whole_new _ _ (by simp), below_alloc (below_alloc (Below.refl _ _) _) _⟩ ?_
  rintro W ⟨kl, kr, kb⟩
  have KL := Lib.hid kl
  have KR := Lib.hid kr
  have KB := Lib.hid kb
  have hlt := kr.lt
  clear kl kr kb
  generalize hB : w.heap.size = B at KL KR KB hlt ⊢
  have HB0 := Lib.hid hB
  clear hB
  go_wp2_with fail
  refine (CC.out _).mono ?_
  rintro e w1 ⟨rfl, rfl⟩
  have k0 := KL.out.c0
  have k1 := KL.out.c1
  have k2 := KL.out.c2
  have k3 := KL.out.c3
  have k4 := KL.out.c4
  have f0 := KL.out.free 0
  have f1 := KL.out.free 1
  have f2 := KL.out.free 2
  have f3 := KL.out.free 3
  have f4 := KL.out.free 4
  go_wp2_with fail
  refine (CM.out _).mono ?_
  rintro e w1 ⟨rfl, rfl⟩
  go_upto_region 6 with fail
  refine cut_world (fun U => GLies 38 U B c b1 lo hi sm ∧ GLies 38 U (B + 1) 0 0 0 0 0 ∧ Below B w U) ⟨KL.out.set1, KR.out.far (by show B + 1 ≠ B; omega), KB.out.setCell (by show B ≤ B; omega) _⟩ ?_
  clear k0 k1 k2 k3 k4 f0 f1 f2 f3 f4 KL KR KB hlt
  rintro W2 ⟨kl, kr, kb⟩
  have KL := Lib.hid kl
  have KR := Lib.hid kr
  have KB := Lib.hid kb
  have hlt := kr.lt
  clear kl kr kb
  clear CC CM
  refine region_drew (fun _ => True) (by kernel_rfl) trivial (fun _ => ?_)
  have hS : Below W2.heap.size W2 W2.drew := Below.drew (Below.refl _ _)
  refine Float.float (W := W2) [(0, 43, .is (.pointer (some ⟨B, 2, none⟩))), (1, 44, .is (.float .f64 lo)), (2, 45, .is (.float .f64 lo)), (3, 46, .is (.pointer (some ⟨B, 3, none⟩))), (4, 47, .is (.float .f64 hi)), (5, 48, .is (.float .f64 hi)), (6, 49, .is (.pointer (some ⟨B, 4, none⟩))), (7, 50, .is (.float .f64 sm)), (8, 51, .is (.float .f64 sm)), (9, 52, .is (.pointer (some ⟨B, 2, none⟩)))] [0, 1, 2, 3, 4, 5, 6, 7, 8, 9] 5 rfl (by rfl) (by kernel_rfl) (by kernel_rfl) (by kernel_rfl) (by kernel_rfl) (by kernel_rfl) (fun γ => rfl) hS (fun _ _ => trivial) ?_ ?_
  · intro γ
    simp only [Float.puts, Act.put, List.setIfInBounds_toArray, List.set_cons_zero, List.set_cons_succ]
    refine ⟨?_, ?_, ?_, ?_, ?_, ?_, ?_, ?_, ?_, ?_, trivial⟩
    · exact ⟨_, _, rfl, Float.does_take (by intro w _; go_simp; try with_reducible rfl)⟩
    · exact ⟨_, _, rfl, Float.does_take (fun w hw => by have k2 := (KL.out.below hw).c2; have k3 := (KL.out.below hw).c3; have k4 := (KL.out.below hw).c4; go_simp; try with_reducible rfl)⟩
    · exact ⟨_, _, rfl, Float.does_call 34 (#[.float .f64 lo]) (by intro w; go_simp; try with_reducible rfl) (fun w hw => (T1.out w).mono fun e w' ⟨he, hw2⟩ => ⟨he, hw2 ▸ Below.refl _ _⟩)⟩
    · exact ⟨_, _, rfl, Float.does_take (by intro w _; go_simp; try with_reducible rfl)⟩
    · exact ⟨_, _, rfl, Float.does_take (fun w hw => by have k2 := (KL.out.below hw).c2; have k3 := (KL.out.below hw).c3; have k4 := (KL.out.below hw).c4; go_simp; try with_reducible rfl)⟩
    · exact ⟨_, _, rfl, Float.does_call 34 (#[.float .f64 hi]) (by intro w; go_simp; try with_reducible rfl) (fun w hw => (T2.out w).mono fun e w' ⟨he, hw2⟩ => ⟨he, hw2 ▸ Below.refl _ _⟩)⟩
    · exact ⟨_, _, rfl, Float.does_take (by intro w _; go_simp; try with_reducible rfl)⟩
    · exact ⟨_, _, rfl, Float.does_take (fun w hw => by have k2 := (KL.out.below hw).c2; have k3 := (KL.out.below hw).c3; have k4 := (KL.out.below hw).c4; go_simp; try with_reducible rfl)⟩
    · exact ⟨_, _, rfl, Float.does_call 34 (#[.float .f64 sm]) (by intro w; go_simp; try with_reducible rfl) (fun w hw => (T3.out w).mono fun e w' ⟨he, hw2⟩ => ⟨he, hw2 ▸ Below.refl _ _⟩)⟩
    · exact ⟨_, _, rfl, Float.does_take (by intro w _; go_simp; try with_reducible rfl)⟩
  · intro γ v hS hrows hne
    simp only [Float.puts, Act.put, List.setIfInBounds_toArray, List.set_cons_zero, List.set_cons_succ]
    clear hne hrows
    clear γ
    replace KL := Lib.hid (KL.out.below hS)
    replace KR := Lib.hid (KR.out.below hS)
    replace KB := Lib.hid (KB.out.trans (hS.mono (by omega)))
    replace hlt := KR.out.lt
    clear hS
    have k0 := KL.out.c0
    have k1 := KL.out.c1
    have k2 := KL.out.c2
    have k3 := KL.out.c3
    have k4 := KL.out.c4
    have f0 := KL.out.free 0
    have f1 := KL.out.free 1
    have f2 := KL.out.free 2
    have f3 := KL.out.free 3
    have f4 := KL.out.free 4
    have hst := fun (p : Addr) (z : Nat) (V : World) => run_store Try.prog V p (.float .f64 z) .plain rfl
    refine alone 10 rfl (by kernel_rfl) (by rfl) ?_
    intro K hK
    go_simp
    refine hK.out _ _ trivial ?_
    clear hK K
    try simp only [Act.put]
    refine alone 11 rfl (by kernel_rfl) (by rfl) ?_
    intro K hK
    go_simp
    refine hK.out _ _ trivial ?_
    clear hK K
    try simp only [Act.put]
    refine alone 12 rfl (by kernel_rfl) (by rfl) ?_
    intro K hK
    go_simp
    refine hK.out _ _ trivial ?_
    clear hK K
    try simp only [Act.put]
    refine alone 13 rfl (by kernel_rfl) (by rfl) ?_
    intro K hK
    go_simp
    refine hK.out _ _ trivial ?_
    clear hK K
    try simp only [Act.put]
    refine alone 14 rfl (by kernel_rfl) (by rfl) ?_
    intro K hK
    go_simp
    refine hK.out _ _ trivial ?_
    clear hK K
    try simp only [Act.put]
    clear hst
    refine region_end (by kernel_rfl) ?_
    refine cut_post (F := Exit.then _ _) (fun U => GLies 38 U B (c) (b1) (lo) (hi) (sm) ∧ GLies 38 U (B + 1) 0 0 0 0 0 ∧ Below B w U) ⟨KL.out.set2.set3.set4, ((KR.out.far (by show B + 1 ≠ B; omega)).far (by show B + 1 ≠ B; omega)).far (by show B + 1 ≠ B; omega), ((KB.out.setCell (by show B ≤ B; omega) _).setCell (by show B ≤ B; omega) _).setCell (by show B ≤ B; omega) _⟩ ?_
    clear k0 k1 k2 k3 k4 f0 f1 f2 f3 f4 KL KR KB hlt
    rintro U ⟨kl, kr, kb⟩
    have KL := Lib.hid kl
    have KR := Lib.hid kr
    have KB := Lib.hid kb
    have hlt := kr.lt
    clear kl kr kb
    have k0 := KL.out.c0
    have k1 := KL.out.c1
    have k2 := KL.out.c2
    have k3 := KL.out.c3
    have k4 := KL.out.c4
    have f0 := KL.out.free 0
    have f1 := KL.out.free 1
    have f2 := KL.out.free 2
    have f3 := KL.out.free 3
    have f4 := KL.out.free 4
    go_wp2_with (refine wpList_store_row rfl 38 (.tmp 4) (.tmp 55) rfl (B + 1) #[.int .u64 ((c : Nat) : Int), .int .u64 ((b1 : Nat) : Int), .float .f64 lo, .float .f64 hi, .float .f64 sm] rfl rfl 38 _ KR.out (by kernel_rfl) rfl (by simp [Value.oneCell']) ?_)
    refine bodyPost_ret (results_cell_row rfl _ _ (B + 1) 38 #[.int .u64 ((c : Nat) : Int), .int .u64 ((b1 : Nat) : Int), .float .f64 lo, .float .f64 hi, .float .f64 sm] (0, 0) _ rfl (setRow_heap _ _ _ _ _ _ KR.out) rfl rfl (by kernel_rfl)) rfl ⟨rfl, by rw [HB0.out]; exact below_setRow KB.out (by omega) _⟩
set_option maxRecDepth 100000 in
set_option maxHeartbeats 4000000 in
theorem note_first (c b lo hi sm x : Nat) (hx : x < 18446744073709551616) (hc : counts x = true) (h0 : c = 0) (w : World) :
    Calls Try.prog 17 #[.agg #[.int .u64 (c : Nat), .int .u64 (b : Nat), .float .f64 lo, .float .f64 hi, .float .f64 sm], .float .f64 x] w fun e w' => e = .returned (.agg #[.int .u64 1, .int .u64 (b : Nat), .float .f64 x, .float .f64 x, .float .f64 x]) ∧ Below w.heap.size w w' := by
  subst h0
  have CC := Lib.hid (counts_any x hx)
  rw [hc] at CC
  have T1 := Lib.hid (told_any x)
  rw [told_eq hc] at T1
  have T2 := T1
  have T3 := T1
  clear hx hc
  go_enter Try.func17, Try.ntmps17
  go_upto_region 2 with fail
  refine cut_world (fun W => GLies 38 W w.heap.size 0 b lo hi sm ∧ GLies 38 W (w.heap.size + 1) 0 0 0 0 0 ∧ Below w.heap.size w W) ⟨Whole.alloc (glies_new _ _ _ _ _ _ _) _, whole_new _ _ (by simp), below_alloc (below_alloc (Below.refl _ _) _) _⟩ ?_
  rintro W ⟨kl, kr, kb⟩
  have KL := Lib.hid kl
  have KR := Lib.hid kr
  have KB := Lib.hid kb
  have hlt := kr.lt
  clear kl kr kb
  generalize hB : w.heap.size = B at KL KR KB hlt ⊢
  have HB0 := Lib.hid hB
  clear hB
  go_wp2_with fail
  refine (CC.out _).mono ?_
  rintro e w1 ⟨rfl, rfl⟩
  have k0 := KL.out.c0
  have k1 := KL.out.c1
  have k2 := KL.out.c2
  have k3 := KL.out.c3
  have k4 := KL.out.c4
  have f0 := KL.out.free 0
  have f1 := KL.out.free 1
  have f2 := KL.out.free 2
  have f3 := KL.out.free 3
  have f4 := KL.out.free 4
  have hst := fun (p : Addr) (z : Nat) (V : World) => run_store Try.prog V p (.float .f64 z) .plain rfl
  go_upto_region 6 with fail
  clear hst
  refine cut_world (fun U => GLies 38 U B 1 b x x x ∧ GLies 38 U (B + 1) 0 0 0 0 0 ∧ Below B w U) ⟨KL.out.set0.set2.set3.set4, (((KR.out.far (by show B + 1 ≠ B; omega)).far (by show B + 1 ≠ B; omega)).far (by show B + 1 ≠ B; omega)).far (by show B + 1 ≠ B; omega), (((KB.out.setCell (by show B ≤ B; omega) _).setCell (by show B ≤ B; omega) _).setCell (by show B ≤ B; omega) _).setCell (by show B ≤ B; omega) _⟩ ?_
  clear k0 k1 k2 k3 k4 f0 f1 f2 f3 f4 KL KR KB hlt
  rintro W2 ⟨kl, kr, kb⟩
  have KL := Lib.hid kl
  have KR := Lib.hid kr
  have KB := Lib.hid kb
  have hlt := kr.lt
  clear kl kr kb
  clear CC
  refine region_drew (fun _ => True) (by kernel_rfl) trivial (fun _ => ?_)
  have hS : Below W2.heap.size W2 W2.drew := Below.drew (Below.refl _ _)
  refine Float.float (W := W2) [(0, 43, .is (.pointer (some ⟨B, 2, none⟩))), (1, 44, .is (.float .f64 x)), (2, 45, .is (.float .f64 x)), (3, 46, .is (.pointer (some ⟨B, 3, none⟩))), (4, 47, .is (.float .f64 x)), (5, 48, .is (.float .f64 x)), (6, 49, .is (.pointer (some ⟨B, 4, none⟩))), (7, 50, .is (.float .f64 x)), (8, 51, .is (.float .f64 x)), (9, 52, .is (.pointer (some ⟨B, 2, none⟩)))] [0, 1, 2, 3, 4, 5, 6, 7, 8, 9] 5 rfl (by rfl) (by kernel_rfl) (by kernel_rfl) (by kernel_rfl) (by kernel_rfl) (by kernel_rfl) (fun γ => rfl) hS (fun _ _ => trivial) ?_ ?_
  · intro γ
    simp only [Float.puts, Act.put, List.setIfInBounds_toArray, List.set_cons_zero, List.set_cons_succ]
    refine ⟨?_, ?_, ?_, ?_, ?_, ?_, ?_, ?_, ?_, ?_, trivial⟩
    · exact ⟨_, _, rfl, Float.does_take (by intro w _; go_simp; try with_reducible rfl)⟩
    · exact ⟨_, _, rfl, Float.does_take (fun w hw => by have k2 := (KL.out.below hw).c2; have k3 := (KL.out.below hw).c3; have k4 := (KL.out.below hw).c4; go_simp; try with_reducible rfl)⟩
    · exact ⟨_, _, rfl, Float.does_call 34 (#[.float .f64 x]) (by intro w; go_simp; try with_reducible rfl) (fun w hw => (T1.out w).mono fun e w' ⟨he, hw2⟩ => ⟨he, hw2 ▸ Below.refl _ _⟩)⟩
    · exact ⟨_, _, rfl, Float.does_take (by intro w _; go_simp; try with_reducible rfl)⟩
    · exact ⟨_, _, rfl, Float.does_take (fun w hw => by have k2 := (KL.out.below hw).c2; have k3 := (KL.out.below hw).c3; have k4 := (KL.out.below hw).c4; go_simp; try with_reducible rfl)⟩
    · exact ⟨_, _, rfl, Float.does_call 34 (#[.float .f64 x]) (by intro w; go_simp; try with_reducible rfl) (fun w hw => (T2.out w).mono fun e w' ⟨he, hw2⟩ => ⟨he, hw2 ▸ Below.refl _ _⟩)⟩
    · exact ⟨_, _, rfl, Float.does_take (by intro w _; go_simp; try with_reducible rfl)⟩
    · exact ⟨_, _, rfl, Float.does_take (fun w hw => by have k2 := (KL.out.below hw).c2; have k3 := (KL.out.below hw).c3; have k4 := (KL.out.below hw).c4; go_simp; try with_reducible rfl)⟩
    · exact ⟨_, _, rfl, Float.does_call 34 (#[.float .f64 x]) (by intro w; go_simp; try with_reducible rfl) (fun w hw => (T3.out w).mono fun e w' ⟨he, hw2⟩ => ⟨he, hw2 ▸ Below.refl _ _⟩)⟩
    · exact ⟨_, _, rfl, Float.does_take (by intro w _; go_simp; try with_reducible rfl)⟩
  · intro γ v hS hrows hne
    simp only [Float.puts, Act.put, List.setIfInBounds_toArray, List.set_cons_zero, List.set_cons_succ]
    clear hne hrows
    clear γ
    replace KL := Lib.hid (KL.out.below hS)
    replace KR := Lib.hid (KR.out.below hS)
    replace KB := Lib.hid (KB.out.trans (hS.mono (by omega)))
    replace hlt := KR.out.lt
    clear hS
    have k0 := KL.out.c0
    have k1 := KL.out.c1
    have k2 := KL.out.c2
    have k3 := KL.out.c3
    have k4 := KL.out.c4
    have f0 := KL.out.free 0
    have f1 := KL.out.free 1
    have f2 := KL.out.free 2
    have f3 := KL.out.free 3
    have f4 := KL.out.free 4
    have hst := fun (p : Addr) (z : Nat) (V : World) => run_store Try.prog V p (.float .f64 z) .plain rfl
    refine alone 10 rfl (by kernel_rfl) (by rfl) ?_
    intro K hK
    go_simp
    refine hK.out _ _ trivial ?_
    clear hK K
    try simp only [Act.put]
    refine alone 11 rfl (by kernel_rfl) (by rfl) ?_
    intro K hK
    go_simp
    refine hK.out _ _ trivial ?_
    clear hK K
    try simp only [Act.put]
    refine alone 12 rfl (by kernel_rfl) (by rfl) ?_
    intro K hK
    go_simp
    refine hK.out _ _ trivial ?_
    clear hK K
    try simp only [Act.put]
    refine alone 13 rfl (by kernel_rfl) (by rfl) ?_
    intro K hK
    go_simp
    refine hK.out _ _ trivial ?_
    clear hK K
    try simp only [Act.put]
    refine alone 14 rfl (by kernel_rfl) (by rfl) ?_
    intro K hK
    go_simp
    refine hK.out _ _ trivial ?_
    clear hK K
    try simp only [Act.put]
    clear hst
    refine region_end (by kernel_rfl) ?_
    refine cut_post (F := Exit.then _ _) (fun U => GLies 38 U B (1) (b) (x) (x) (x) ∧ GLies 38 U (B + 1) 0 0 0 0 0 ∧ Below B w U) ⟨KL.out.set2.set3.set4, ((KR.out.far (by show B + 1 ≠ B; omega)).far (by show B + 1 ≠ B; omega)).far (by show B + 1 ≠ B; omega), ((KB.out.setCell (by show B ≤ B; omega) _).setCell (by show B ≤ B; omega) _).setCell (by show B ≤ B; omega) _⟩ ?_
    clear k0 k1 k2 k3 k4 f0 f1 f2 f3 f4 KL KR KB hlt
    rintro U ⟨kl, kr, kb⟩
    have KL := Lib.hid kl
    have KR := Lib.hid kr
    have KB := Lib.hid kb
    have hlt := kr.lt
    clear kl kr kb
    have k0 := KL.out.c0
    have k1 := KL.out.c1
    have k2 := KL.out.c2
    have k3 := KL.out.c3
    have k4 := KL.out.c4
    have f0 := KL.out.free 0
    have f1 := KL.out.free 1
    have f2 := KL.out.free 2
    have f3 := KL.out.free 3
    have f4 := KL.out.free 4
    go_wp2_with (refine wpList_store_row rfl 38 (.tmp 4) (.tmp 55) rfl (B + 1) #[.int .u64 ((1 : Nat) : Int), .int .u64 ((b : Nat) : Int), .float .f64 x, .float .f64 x, .float .f64 x] rfl rfl 38 _ KR.out (by kernel_rfl) rfl (by simp [Value.oneCell']) ?_)
    refine bodyPost_ret (results_cell_row rfl _ _ (B + 1) 38 #[.int .u64 ((1 : Nat) : Int), .int .u64 ((b : Nat) : Int), .float .f64 x, .float .f64 x, .float .f64 x] (0, 0) _ rfl (setRow_heap _ _ _ _ _ _ KR.out) rfl rfl (by kernel_rfl)) rfl ⟨rfl, by rw [HB0.out]; exact below_setRow KB.out (by omega) _⟩
set_option maxRecDepth 100000 in
set_option maxHeartbeats 4000000 in
theorem note_more (c b lo hi sm x : Nat) (hx : x < 18446744073709551616) (hc : counts x = true) (h0 : c ≠ 0) (hcl : c < 18446744073709551615) (h1 : counts lo = true ∧ lo < 18446744073709551616) (h2 : counts hi = true ∧ hi < 18446744073709551616) (h3 : counts sm = true ∧ sm < 18446744073709551616) (w : World) :
    Calls Try.prog 17 #[.agg #[.int .u64 (c : Nat), .int .u64 (b : Nat), .float .f64 lo, .float .f64 hi, .float .f64 sm], .float .f64 x] w fun e w' => e = .returned (.agg #[.int .u64 (c + 1 : Nat), .int .u64 (b : Nat), .float .f64 (least lo x), .float .f64 (greatest hi x), .float .f64 (mv sm x)]) ∧ Below w.heap.size w w' := by
  have CC := Lib.hid (counts_any x hx)
  rw [hc] at CC
  have CM := Lib.hid (more_any c hcl)
  have CL := Lib.hid (least_any lo x h1.2 hx)
  have CG := Lib.hid (greatest_any hi x h2.2 hx)
  have CV := Lib.hid (moved_any sm x h3.1 hc)
  have T1 := Lib.hid (told_any (least lo x))
  have T2 := Lib.hid (told_any (greatest hi x))
  have T3 := Lib.hid (told_any (mv sm x))
  rw [told_eq (show counts (least lo x) = true by rcases least_or h1.1 hc with e | e <;> rw [e]; exact h1.1; exact hc)] at T1
  rw [told_eq (show counts (greatest hi x) = true by rcases greatest_or h2.1 hc with e | e <;> rw [e]; exact h2.1; exact hc)] at T2
  rw [told_eq (mv_ok h3.1 hc hx).1] at T3
  generalize least lo x = lo1 at *
  generalize greatest hi x = hi1 at *
  generalize mv sm x = sm1 at *
  have h4 : ((c : Int) == 0) = false := by rw [beq_eq_false_iff_ne]; omega
  have h5 : ((c : Int) = 0) = False := eq_false (by omega)
  generalize c + 1 = c1 at *
  clear hx hc h0 hcl h1 h2 h3
  go_enter Try.func17, Try.ntmps17
  go_upto_region 2 with fail
  refine cut_world (fun W => GLies 38 W w.heap.size c b lo hi sm ∧ GLies 38 W (w.heap.size + 1) 0 0 0 0 0 ∧ Below w.heap.size w W) ⟨Whole.alloc (glies_new _ _ _ _ _ _ _) _, whole_new _ _ (by simp), below_alloc (below_alloc (Below.refl _ _) _) _⟩ ?_
  rintro W ⟨kl, kr, kb⟩
  have KL := Lib.hid kl
  have KR := Lib.hid kr
  have KB := Lib.hid kb
  have hlt := kr.lt
  clear kl kr kb
  generalize hB : w.heap.size = B at KL KR KB hlt ⊢
  have HB0 := Lib.hid hB
  clear hB
  go_wp2_with fail
  refine (CC.out _).mono ?_
  rintro e w1 ⟨rfl, rfl⟩
  have k0 := KL.out.c0
  have k1 := KL.out.c1
  have k2 := KL.out.c2
  have k3 := KL.out.c3
  have k4 := KL.out.c4
  have f0 := KL.out.free 0
  have f1 := KL.out.free 1
  have f2 := KL.out.free 2
  have f3 := KL.out.free 3
  have f4 := KL.out.free 4
  go_upto_region 1 with fail
  clear k0 k1 k2 k3 k4 f0 f1 f2 f3 f4
  refine region_drew (fun _ => True) (by kernel_rfl) trivial (fun _ => ?_)
  have hS : Below W.heap.size W W.drew := Below.drew (Below.refl _ _)
  refine Float.float (W := W) [(0, 5, .is (.pointer (some ⟨B, 0, none⟩))), (1, 6, .is (.int .u64 c)), (2, 7, .is (.int .u64 c1)), (3, 8, .is (.pointer (some ⟨B, 2, none⟩))), (4, 9, .is (.float .f64 lo)), (5, 10, .is (.float .f64 x)), (6, 11, .is (.float .f64 lo1)), (7, 12, .is (.pointer (some ⟨B, 3, none⟩))), (8, 13, .is (.float .f64 hi)), (9, 14, .is (.float .f64 x)), (10, 15, .is (.float .f64 hi1)), (11, 16, .is (.pointer (some ⟨B, 4, none⟩))), (12, 17, .is (.float .f64 sm)), (13, 18, .is (.float .f64 x)), (14, 19, .is (.float .f64 sm1)), (15, 20, .is (.pointer (some ⟨B, 0, none⟩)))] [0, 1, 2, 3, 4, 5, 6, 7, 8, 9, 10, 11, 12, 13, 14, 15] 7 rfl (by rfl) (by kernel_rfl) (by kernel_rfl) (by kernel_rfl) (by kernel_rfl) (by kernel_rfl) (fun γ => rfl) hS (fun _ _ => trivial) ?_ ?_
  · intro γ
    simp only [Float.puts, Act.put, List.setIfInBounds_toArray, List.set_cons_zero, List.set_cons_succ]
    refine ⟨?_, ?_, ?_, ?_, ?_, ?_, ?_, ?_, ?_, ?_, ?_, ?_, ?_, ?_, ?_, ?_, trivial⟩
    · exact ⟨_, _, rfl, Float.does_take (by intro w _; go_simp; try with_reducible rfl)⟩
    · exact ⟨_, _, rfl, Float.does_take (fun w hw => by have k0 := (KL.out.below hw).c0; have k2 := (KL.out.below hw).c2; have k3 := (KL.out.below hw).c3; have k4 := (KL.out.below hw).c4; go_simp; try with_reducible rfl)⟩
    · exact ⟨_, _, rfl, Float.does_call 31 (#[.int .u64 c]) (by intro w; go_simp; try with_reducible rfl) (fun w hw => (CM.out w).mono fun e w' ⟨he, hw2⟩ => ⟨he, hw2 ▸ Below.refl _ _⟩)⟩
    · exact ⟨_, _, rfl, Float.does_take (by intro w _; go_simp; try with_reducible rfl)⟩
    · exact ⟨_, _, rfl, Float.does_take (fun w hw => by have k0 := (KL.out.below hw).c0; have k2 := (KL.out.below hw).c2; have k3 := (KL.out.below hw).c3; have k4 := (KL.out.below hw).c4; go_simp; try with_reducible rfl)⟩
    · exact ⟨_, _, rfl, Float.does_take (by intro w _; go_simp; try with_reducible rfl)⟩
    · exact ⟨_, _, rfl, Float.does_call 19 (#[.float .f64 lo, .float .f64 x]) (by intro w; go_simp; try with_reducible rfl) (fun w hw => (CL.out w).mono fun e w' ⟨he, hw2⟩ => ⟨he, hw2 ▸ Below.refl _ _⟩)⟩
    · exact ⟨_, _, rfl, Float.does_take (by intro w _; go_simp; try with_reducible rfl)⟩
    · exact ⟨_, _, rfl, Float.does_take (fun w hw => by have k0 := (KL.out.below hw).c0; have k2 := (KL.out.below hw).c2; have k3 := (KL.out.below hw).c3; have k4 := (KL.out.below hw).c4; go_simp; try with_reducible rfl)⟩
    · exact ⟨_, _, rfl, Float.does_take (by intro w _; go_simp; try with_reducible rfl)⟩
    · exact ⟨_, _, rfl, Float.does_call 32 (#[.float .f64 hi, .float .f64 x]) (by intro w; go_simp; try with_reducible rfl) (fun w hw => (CG.out w).mono fun e w' ⟨he, hw2⟩ => ⟨he, hw2 ▸ Below.refl _ _⟩)⟩
    · exact ⟨_, _, rfl, Float.does_take (by intro w _; go_simp; try with_reducible rfl)⟩
    · exact ⟨_, _, rfl, Float.does_take (fun w hw => by have k0 := (KL.out.below hw).c0; have k2 := (KL.out.below hw).c2; have k3 := (KL.out.below hw).c3; have k4 := (KL.out.below hw).c4; go_simp; try with_reducible rfl)⟩
    · exact ⟨_, _, rfl, Float.does_take (by intro w _; go_simp; try with_reducible rfl)⟩
    · exact ⟨_, _, rfl, Float.does_call 33 (#[.float .f64 sm, .float .f64 x]) (by intro w; go_simp; try with_reducible rfl) (fun w hw => (CV.out w).mono fun e w' ⟨he, hw2⟩ => ⟨he, hw2 ▸ Below.refl _ _⟩)⟩
    · exact ⟨_, _, rfl, Float.does_take (by intro w _; go_simp; try with_reducible rfl)⟩
  · intro γ v hS hrows hne
    simp only [Float.puts, Act.put, List.setIfInBounds_toArray, List.set_cons_zero, List.set_cons_succ]
    clear hne hrows
    clear γ
    replace KL := Lib.hid (KL.out.below hS)
    replace KR := Lib.hid (KR.out.below hS)
    replace KB := Lib.hid (KB.out.trans (hS.mono (by omega)))
    replace hlt := KR.out.lt
    clear hS
    have k0 := KL.out.c0
    have k1 := KL.out.c1
    have k2 := KL.out.c2
    have k3 := KL.out.c3
    have k4 := KL.out.c4
    have f0 := KL.out.free 0
    have f1 := KL.out.free 1
    have f2 := KL.out.free 2
    have f3 := KL.out.free 3
    have f4 := KL.out.free 4
    have hst := fun (p : Addr) (z : Nat) (V : World) => run_store Try.prog V p (.float .f64 z) .plain rfl
    refine alone 16 rfl (by kernel_rfl) (by rfl) ?_
    intro K hK
    go_simp
    refine hK.out _ _ trivial ?_
    clear hK K
    try simp only [Act.put]
    refine alone 17 rfl (by kernel_rfl) (by rfl) ?_
    intro K hK
    go_simp
    refine hK.out _ _ trivial ?_
    clear hK K
    try simp only [Act.put]
    refine alone 18 rfl (by kernel_rfl) (by rfl) ?_
    intro K hK
    go_simp
    refine hK.out _ _ trivial ?_
    clear hK K
    try simp only [Act.put]
    refine alone 19 rfl (by kernel_rfl) (by rfl) ?_
    intro K hK
    go_simp
    refine hK.out _ _ trivial ?_
    clear hK K
    try simp only [Act.put]
    refine alone 20 rfl (by kernel_rfl) (by rfl) ?_
    intro K hK
    go_simp
    refine hK.out _ _ trivial ?_
    clear hK K
    try simp only [Act.put]
    refine alone 21 rfl (by kernel_rfl) (by rfl) ?_
    intro K hK
    go_simp
    refine hK.out _ _ trivial ?_
    clear hK K
    try simp only [Act.put]
    refine alone 22 rfl (by kernel_rfl) (by rfl) ?_
    intro K hK
    go_simp
    refine hK.out _ _ trivial ?_
    clear hK K
    try simp only [Act.put]
    clear hst
    refine region_end (by kernel_rfl) ?_
    refine cut_post (F := Exit.inBlock _ _) (fun U => GLies 38 U B c1 b lo1 hi1 sm1 ∧ GLies 38 U (B + 1) 0 0 0 0 0 ∧ Below B w U) ⟨KL.out.set0.set2.set3.set4, (((KR.out.far (by show B + 1 ≠ B; omega)).far (by show B + 1 ≠ B; omega)).far (by show B + 1 ≠ B; omega)).far (by show B + 1 ≠ B; omega), (((KB.out.setCell (by show B ≤ B; omega) _).setCell (by show B ≤ B; omega) _).setCell (by show B ≤ B; omega) _).setCell (by show B ≤ B; omega) _⟩ ?_
    clear k0 k1 k2 k3 k4 f0 f1 f2 f3 f4 KL KR KB hlt
    rintro W2 ⟨kl, kr, kb⟩
    have KL := Lib.hid kl
    have KR := Lib.hid kr
    have KB := Lib.hid kb
    have hlt := kr.lt
    clear kl kr kb CC CM CL CG CV
    go_upto_region 6 with fail
    refine region_drew (fun _ => True) (by kernel_rfl) trivial (fun _ => ?_)
    have hS : Below W2.heap.size W2 W2.drew := Below.drew (Below.refl _ _)
    refine Float.float (W := W2) [(0, 43, .is (.pointer (some ⟨B, 2, none⟩))), (1, 44, .is (.float .f64 lo1)), (2, 45, .is (.float .f64 lo1)), (3, 46, .is (.pointer (some ⟨B, 3, none⟩))), (4, 47, .is (.float .f64 hi1)), (5, 48, .is (.float .f64 hi1)), (6, 49, .is (.pointer (some ⟨B, 4, none⟩))), (7, 50, .is (.float .f64 sm1)), (8, 51, .is (.float .f64 sm1)), (9, 52, .is (.pointer (some ⟨B, 2, none⟩)))] [0, 1, 2, 3, 4, 5, 6, 7, 8, 9] 5 rfl (by rfl) (by kernel_rfl) (by kernel_rfl) (by kernel_rfl) (by kernel_rfl) (by kernel_rfl) (fun γ => rfl) hS (fun _ _ => trivial) ?_ ?_
    · intro γ
      simp only [Float.puts, Act.put, List.setIfInBounds_toArray, List.set_cons_zero, List.set_cons_succ]
      refine ⟨?_, ?_, ?_, ?_, ?_, ?_, ?_, ?_, ?_, ?_, trivial⟩
      · exact ⟨_, _, rfl, Float.does_take (by intro w _; go_simp; try with_reducible rfl)⟩
      · exact ⟨_, _, rfl, Float.does_take (fun w hw => by have k2 := (KL.out.below hw).c2; have k3 := (KL.out.below hw).c3; have k4 := (KL.out.below hw).c4; go_simp; try with_reducible rfl)⟩
      · exact ⟨_, _, rfl, Float.does_call 34 (#[.float .f64 lo1]) (by intro w; go_simp; try with_reducible rfl) (fun w hw => (T1.out w).mono fun e w' ⟨he, hw2⟩ => ⟨he, hw2 ▸ Below.refl _ _⟩)⟩
      · exact ⟨_, _, rfl, Float.does_take (by intro w _; go_simp; try with_reducible rfl)⟩
      · exact ⟨_, _, rfl, Float.does_take (fun w hw => by have k2 := (KL.out.below hw).c2; have k3 := (KL.out.below hw).c3; have k4 := (KL.out.below hw).c4; go_simp; try with_reducible rfl)⟩
      · exact ⟨_, _, rfl, Float.does_call 34 (#[.float .f64 hi1]) (by intro w; go_simp; try with_reducible rfl) (fun w hw => (T2.out w).mono fun e w' ⟨he, hw2⟩ => ⟨he, hw2 ▸ Below.refl _ _⟩)⟩
      · exact ⟨_, _, rfl, Float.does_take (by intro w _; go_simp; try with_reducible rfl)⟩
      · exact ⟨_, _, rfl, Float.does_take (fun w hw => by have k2 := (KL.out.below hw).c2; have k3 := (KL.out.below hw).c3; have k4 := (KL.out.below hw).c4; go_simp; try with_reducible rfl)⟩
      · exact ⟨_, _, rfl, Float.does_call 34 (#[.float .f64 sm1]) (by intro w; go_simp; try with_reducible rfl) (fun w hw => (T3.out w).mono fun e w' ⟨he, hw2⟩ => ⟨he, hw2 ▸ Below.refl _ _⟩)⟩
      · exact ⟨_, _, rfl, Float.does_take (by intro w _; go_simp; try with_reducible rfl)⟩
    · intro γ v hS hrows hne
      simp only [Float.puts, Act.put, List.setIfInBounds_toArray, List.set_cons_zero, List.set_cons_succ]
      clear hne hrows
      clear γ
      replace KL := Lib.hid (KL.out.below hS)
      replace KR := Lib.hid (KR.out.below hS)
      replace KB := Lib.hid (KB.out.trans (hS.mono (by omega)))
      replace hlt := KR.out.lt
      clear hS
      have k0 := KL.out.c0
      have k1 := KL.out.c1
      have k2 := KL.out.c2
      have k3 := KL.out.c3
      have k4 := KL.out.c4
      have f0 := KL.out.free 0
      have f1 := KL.out.free 1
      have f2 := KL.out.free 2
      have f3 := KL.out.free 3
      have f4 := KL.out.free 4
      have hst := fun (p : Addr) (z : Nat) (V : World) => run_store Try.prog V p (.float .f64 z) .plain rfl
      refine alone 10 rfl (by kernel_rfl) (by rfl) ?_
      intro K hK
      go_simp
      refine hK.out _ _ trivial ?_
      clear hK K
      try simp only [Act.put]
      refine alone 11 rfl (by kernel_rfl) (by rfl) ?_
      intro K hK
      go_simp
      refine hK.out _ _ trivial ?_
      clear hK K
      try simp only [Act.put]
      refine alone 12 rfl (by kernel_rfl) (by rfl) ?_
      intro K hK
      go_simp
      refine hK.out _ _ trivial ?_
      clear hK K
      try simp only [Act.put]
      refine alone 13 rfl (by kernel_rfl) (by rfl) ?_
      intro K hK
      go_simp
      refine hK.out _ _ trivial ?_
      clear hK K
      try simp only [Act.put]
      refine alone 14 rfl (by kernel_rfl) (by rfl) ?_
      intro K hK
      go_simp
      refine hK.out _ _ trivial ?_
      clear hK K
      try simp only [Act.put]
      clear hst
      refine region_end (by kernel_rfl) ?_
      refine cut_post (F := Exit.then _ _) (fun U => GLies 38 U B (c1) (b) (lo1) (hi1) (sm1) ∧ GLies 38 U (B + 1) 0 0 0 0 0 ∧ Below B w U) ⟨KL.out.set2.set3.set4, ((KR.out.far (by show B + 1 ≠ B; omega)).far (by show B + 1 ≠ B; omega)).far (by show B + 1 ≠ B; omega), ((KB.out.setCell (by show B ≤ B; omega) _).setCell (by show B ≤ B; omega) _).setCell (by show B ≤ B; omega) _⟩ ?_
      clear k0 k1 k2 k3 k4 f0 f1 f2 f3 f4 KL KR KB hlt
      rintro U ⟨kl, kr, kb⟩
      have KL := Lib.hid kl
      have KR := Lib.hid kr
      have KB := Lib.hid kb
      have hlt := kr.lt
      clear kl kr kb
      have k0 := KL.out.c0
      have k1 := KL.out.c1
      have k2 := KL.out.c2
      have k3 := KL.out.c3
      have k4 := KL.out.c4
      have f0 := KL.out.free 0
      have f1 := KL.out.free 1
      have f2 := KL.out.free 2
      have f3 := KL.out.free 3
      have f4 := KL.out.free 4
      go_wp2_with (refine wpList_store_row rfl 38 (.tmp 4) (.tmp 55) rfl (B + 1) #[.int .u64 ((c1 : Nat) : Int), .int .u64 ((b : Nat) : Int), .float .f64 lo1, .float .f64 hi1, .float .f64 sm1] rfl rfl 38 _ KR.out (by kernel_rfl) rfl (by simp [Value.oneCell']) ?_)
      refine bodyPost_ret (results_cell_row rfl _ _ (B + 1) 38 #[.int .u64 ((c1 : Nat) : Int), .int .u64 ((b : Nat) : Int), .float .f64 lo1, .float .f64 hi1, .float .f64 sm1] (0, 0) _ rfl (setRow_heap _ _ _ _ _ _ KR.out) rfl rfl (by kernel_rfl)) rfl ⟨rfl, by rw [HB0.out]; exact below_setRow KB.out (by omega) _⟩

end Gauge
end Go.Proofs.Yteombmahglbeeaa
