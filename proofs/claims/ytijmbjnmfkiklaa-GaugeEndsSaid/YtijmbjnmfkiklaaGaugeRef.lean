/- The document's own Note: what a gauge with a measure more has; and Note as one function. -/
import Derived.Test.YtijmbjnmfkiklaaGaugeNote
namespace Go.Proofs.Ytijmbjnmfkiklaa
namespace Gauge
open Go.ChangeShapes Go.WideShapes Go.ChangeAt Go.RowKit
open Num Mem Words Chacha Aead Poly Quiet Fl

/-- a gauge as a value -/
def gV (g : G) : Value := .agg #[.int .u64 (g.c : Nat), .int .u64 (g.b : Nat), .float .f64 g.lo, .float .f64 g.hi, .float .f64 g.sm]
theorem note_any (g : G) (h : g.ok) (hc : g.c < 18446744073709551615) (hb : g.b < 18446744073709551615) (x : Nat) (hx : x < 18446744073709551616) (w : World) :
    Calls Try.prog 37 #[gV g, .float .f64 x] w fun e w' => e = .returned (gV (note g x)) ∧ Below w.heap.size w w' := by
  obtain ⟨c, b, lo, hi, sm⟩ := g
  unfold note gV
  rcases hcx : counts x with _ | _
  · rw [if_neg (by simp)]
    exact note_bad c b lo hi sm x hx hcx hb h.lo.1 h.hi.1 h.sm.1 w
  · rw [if_pos rfl]
    by_cases h0 : c = 0
    · rw [if_pos h0]
      exact note_first c b lo hi sm x hx hcx h0 w
    · rw [if_neg h0]
      exact note_more c b lo hi sm x hx hcx h0 hc h.lo h.hi h.sm w

set_option maxRecDepth 100000 in
set_option maxHeartbeats 4000000 in
theorem rnote_bad (c b lo hi sm x : Nat) (hc : counts x = false) (hb : b < 18446744073709551615) (w : World) :
    Calls Try.prog 38 #[.agg #[.int .u64 (c : Nat), .int .u64 (b : Nat), .float .f64 lo, .float .f64 hi, .float .f64 sm], .float .f64 x] w fun e w' => e = .returned (.agg #[.int .u64 (c : Nat), .int .u64 (b + 1 : Nat), .float .f64 lo, .float .f64 hi, .float .f64 sm]) ∧ Below w.heap.size w w' := by
  have CC := Lib.hid (rcounts_any x)
  rw [hc] at CC
  have hq : IntKind.u64.wrap ((b + 1 : Nat) : Int) = ((b + 1 : Nat) : Int) := by rw [IntKind.wrap_u64]; omega
  have hq2 : (b : Int) + 1 = ((b + 1 : Nat) : Int) := by omega
  generalize b + 1 = b1 at *
  clear hc hb
  go_enter Try.func38, Try.ntmps38
  go_upto_region 1 with fail
  refine cut_world (fun W => GLies 55 W w.heap.size c b lo hi sm ∧ GLies 55 W (w.heap.size + 1) 0 0 0 0 0 ∧ Below w.heap.size w W) ⟨Whole.alloc (glies_new _ _ _ _ _ _ _) _, whole_new _ _ (by simp), below_alloc (below_alloc (Below.refl _ _) _) _⟩ ?_
  rintro W ⟨kl, kr, kb⟩
  have KL := Lib.hid kl
  have KR := Lib.hid kr
  have KB := Lib.hid kb
  have hlt := kr.lt
  clear kl kr kb
  generalize hB : w.heap.size = B at KL KR KB hlt ⊢
  have HB0 := Lib.hid hB
  clear hB
  go_wp2_with fail
  refine (CC.out _).mono ?_
  rintro e w1 ⟨rfl, rfl⟩
  have k0 := KL.out.c0
  have k1 := KL.out.c1
  have k2 := KL.out.c2
  have k3 := KL.out.c3
  have k4 := KL.out.c4
  have f0 := KL.out.free 0
  have f1 := KL.out.free 1
  have f2 := KL.out.free 2
  have f3 := KL.out.free 3
  have f4 := KL.out.free 4
  have hst := fun (p : Addr) (z : Nat) (V : World) => run_store Try.prog V p (.float .f64 z) .plain rfl
  go_upto_region 3 with fail
  clear hst
  refine cut_world (fun U => GLies 55 U B (c) (b1) (lo) (hi) (sm) ∧ GLies 55 U (B + 1) 0 0 0 0 0 ∧ Below B w U) ⟨KL.out.set1, (GLies.far KR.out (by show B + 1 ≠ B; omega)), (Below.setCell KB.out (by show B ≤ B; omega) _)⟩ ?_
  clear k0 k1 k2 k3 k4 f0 f1 f2 f3 f4 KL KR KB hlt
  rintro U ⟨kl, kr, kb⟩
  have KL := Lib.hid kl
  have KR := Lib.hid kr
  have KB := Lib.hid kb
  have hlt := kr.lt
  clear kl kr kb
  have k0 := KL.out.c0
  have k1 := KL.out.c1
  have k2 := KL.out.c2
  have k3 := KL.out.c3
  have k4 := KL.out.c4
  have f0 := KL.out.free 0
  have f1 := KL.out.free 1
  have f2 := KL.out.free 2
  have f3 := KL.out.free 3
  have f4 := KL.out.free 4
  go_wp2_with (refine wpList_store_row rfl 55 (.tmp 4) (.tmp 14) rfl (B + 1) #[.int .u64 ((c : Nat) : Int), .int .u64 ((b1 : Nat) : Int), .float .f64 lo, .float .f64 hi, .float .f64 sm] rfl rfl 55 _ KR.out (by kernel_rfl) rfl (by simp [Value.oneCell']) ?_)
  refine bodyPost_ret (results_cell_row rfl _ _ (B + 1) 55 #[.int .u64 ((c : Nat) : Int), .int .u64 ((b1 : Nat) : Int), .float .f64 lo, .float .f64 hi, .float .f64 sm] (0, 0) _ rfl (setRow_heap _ _ _ _ _ _ KR.out) rfl rfl (by kernel_rfl)) rfl ⟨rfl, by rw [HB0.out]; exact below_setRow KB.out (by omega) _⟩
set_option maxRecDepth 100000 in
set_option maxHeartbeats 4000000 in
theorem rnote_first (c b lo hi sm x : Nat) (hc : counts x = true) (h0 : c = 0) (w : World) :
    Calls Try.prog 38 #[.agg #[.int .u64 (c : Nat), .int .u64 (b : Nat), .float .f64 lo, .float .f64 hi, .float .f64 sm], .float .f64 x] w fun e w' => e = .returned (.agg #[.int .u64 1, .int .u64 (b : Nat), .float .f64 x, .float .f64 x, .float .f64 x]) ∧ Below w.heap.size w w' := by
  subst h0
  have CC := Lib.hid (rcounts_any x)
  rw [hc] at CC
  clear hc
  go_enter Try.func38, Try.ntmps38
  go_upto_region 1 with fail
  refine cut_world (fun W => GLies 55 W w.heap.size 0 b lo hi sm ∧ GLies 55 W (w.heap.size + 1) 0 0 0 0 0 ∧ Below w.heap.size w W) ⟨Whole.alloc (glies_new _ _ _ _ _ _ _) _, whole_new _ _ (by simp), below_alloc (below_alloc (Below.refl _ _) _) _⟩ ?_
  rintro W ⟨kl, kr, kb⟩
  have KL := Lib.hid kl
  have KR := Lib.hid kr
  have KB := Lib.hid kb
  have hlt := kr.lt
  clear kl kr kb
  generalize hB : w.heap.size = B at KL KR KB hlt ⊢
  have HB0 := Lib.hid hB
  clear hB
  go_wp2_with fail
  refine (CC.out _).mono ?_
  rintro e w1 ⟨rfl, rfl⟩
  have k0 := KL.out.c0
  have k1 := KL.out.c1
  have k2 := KL.out.c2
  have k3 := KL.out.c3
  have k4 := KL.out.c4
  have f0 := KL.out.free 0
  have f1 := KL.out.free 1
  have f2 := KL.out.free 2
  have f3 := KL.out.free 3
  have f4 := KL.out.free 4
  have hst := fun (p : Addr) (z : Nat) (V : World) => run_store Try.prog V p (.float .f64 z) .plain rfl
  go_upto_region 7 with fail
  clear hst
  refine cut_world (fun U => GLies 55 U B (1) (b) (x) (x) (x) ∧ GLies 55 U (B + 1) 0 0 0 0 0 ∧ Below B w U) ⟨KL.out.set0.set2.set3.set4, (GLies.far (GLies.far (GLies.far (GLies.far KR.out (by show B + 1 ≠ B; omega)) (by show B + 1 ≠ B; omega)) (by show B + 1 ≠ B; omega)) (by show B + 1 ≠ B; omega)), (Below.setCell (Below.setCell (Below.setCell (Below.setCell KB.out (by show B ≤ B; omega) _) (by show B ≤ B; omega) _) (by show B ≤ B; omega) _) (by show B ≤ B; omega) _)⟩ ?_
  clear k0 k1 k2 k3 k4 f0 f1 f2 f3 f4 KL KR KB hlt
  rintro U ⟨kl, kr, kb⟩
  have KL := Lib.hid kl
  have KR := Lib.hid kr
  have KB := Lib.hid kb
  have hlt := kr.lt
  clear kl kr kb
  have k0 := KL.out.c0
  have k1 := KL.out.c1
  have k2 := KL.out.c2
  have k3 := KL.out.c3
  have k4 := KL.out.c4
  have f0 := KL.out.free 0
  have f1 := KL.out.free 1
  have f2 := KL.out.free 2
  have f3 := KL.out.free 3
  have f4 := KL.out.free 4
  go_wp2_with (refine wpList_store_row rfl 55 (.tmp 4) (.tmp 28) rfl (B + 1) #[.int .u64 ((1 : Nat) : Int), .int .u64 ((b : Nat) : Int), .float .f64 x, .float .f64 x, .float .f64 x] rfl rfl 55 _ KR.out (by kernel_rfl) rfl (by simp [Value.oneCell']) ?_)
  refine bodyPost_ret (results_cell_row rfl _ _ (B + 1) 55 #[.int .u64 ((1 : Nat) : Int), .int .u64 ((b : Nat) : Int), .float .f64 x, .float .f64 x, .float .f64 x] (0, 0) _ rfl (setRow_heap _ _ _ _ _ _ KR.out) rfl rfl (by kernel_rfl)) rfl ⟨rfl, by rw [HB0.out]; exact below_setRow KB.out (by omega) _⟩
set_option maxRecDepth 100000 in
set_option maxHeartbeats 4000000 in
theorem rnote_more (c b lo hi sm x : Nat) (hc : counts x = true) (hx : x < 18446744073709551616) (h0 : c ≠ 0) (hcl : c < 18446744073709551615) (h1 : counts lo = true ∧ lo < 18446744073709551616) (h2 : counts hi = true ∧ hi < 18446744073709551616) (h3 : counts sm = true ∧ sm < 18446744073709551616) (w : World) :
    Calls Try.prog 38 #[.agg #[.int .u64 (c : Nat), .int .u64 (b : Nat), .float .f64 lo, .float .f64 hi, .float .f64 sm], .float .f64 x] w fun e w' => e = .returned (.agg #[.int .u64 (c + 1 : Nat), .int .u64 (b : Nat), .float .f64 (least lo x), .float .f64 (greatest hi x), .float .f64 (mv sm x)]) ∧ Below w.heap.size w w' := by
  have CC := Lib.hid (rcounts_any x)
  rw [hc] at CC
  obtain ⟨d, q, r, e1, e2, e3, hr, e⟩ := mv_some h3.1 hc
  have F1 := fop .sub 43 (show floatBits .sub .f64 x sm = some d from e1)
  have F2 := fop .quo 43 (show floatBits .quo .f64 d 4620693217682128896 = some q from e2)
  have F3 := fop .add 43 (show floatBits .add .f64 sm q = some r from e3)
  have CR := Lib.hid (rcounts_any r)
  rw [e]
  have OL := Lib.hid (rorder_any x lo hx h1.2)
  have OH := Lib.hid (rorder_any x hi hx h2.2)
  rw [show least lo x = (if place x < place lo then x else lo) from if_pos ⟨counts_num h1.1, counts_num hc⟩, show greatest hi x = (if place hi < place x then x else hi) from if_pos ⟨counts_num h2.1, counts_num hc⟩]
  have cl := ordI_cases x lo
  have ch := ordI_cases x hi
  generalize ordI x lo = v at *
  generalize ordI x hi = u at *
  have hq : IntKind.u64.wrap ((c + 1 : Nat) : Int) = ((c + 1 : Nat) : Int) := by rw [IntKind.wrap_u64]; omega
  have hq2 : (c : Int) + 1 = ((c + 1 : Nat) : Int) := by omega
  have hq3 : (((c + 1 : Nat) : Int) == 1) = false := by rw [beq_eq_false_iff_ne]; omega
  have hq4 : (((c + 1 : Nat) : Int) = 1) = False := eq_false (by omega)
  generalize c + 1 = c1 at *
  have kl : (v < 0 ∧ (if place x < place lo then x else lo) = x) ∨ (decide (v < 0) = false ∧ ¬ v < 0 ∧ (if place x < place lo then x else lo) = lo) := by
    rcases cl with ⟨h, rfl⟩ | ⟨h, rfl⟩ | ⟨h, rfl⟩
    · exact .inl ⟨by omega, if_pos h⟩
    · exact .inr ⟨rfl, by omega, if_neg (by omega)⟩
    · exact .inr ⟨rfl, by omega, if_neg (by omega)⟩
  have kh : (0 < u ∧ (if place hi < place x then x else hi) = x) ∨ (decide (0 < u) = false ∧ ¬ 0 < u ∧ (if place hi < place x then x else hi) = hi) := by
    rcases ch with ⟨h, rfl⟩ | ⟨h, rfl⟩ | ⟨h, rfl⟩
    · exact .inr ⟨rfl, by omega, if_neg (by omega)⟩
    · exact .inr ⟨rfl, by omega, if_neg (by omega)⟩
    · exact .inl ⟨by omega, if_pos h⟩
  have kr : (counts r = true ∧ (if counts r = true then r else x) = r) ∨ (counts r = false ∧ (if counts r = true then r else x) = x) := by
    rcases hcr : counts r with _ | _
    · exact .inr ⟨rfl, by simp⟩
    · exact .inl ⟨rfl, by simp⟩
  clear cl ch h1 h2 h3 e e1 e2 e3 hr hc hx h0 hcl
  rcases kl with kl | kl
  · rcases kh with kh | kh
    · rcases kr with kr | kr
      · rw [kr.1] at CR
        rw [kl.2, kh.2, kr.2]
        have kv := kl.1
        have ku := kh.1
        clear kl kh kr
        go_enter Try.func38, Try.ntmps38
        go_upto_region 1 with fail
        refine cut_world (fun W => GLies 55 W w.heap.size c b lo hi sm ∧ GLies 55 W (w.heap.size + 1) 0 0 0 0 0 ∧ Below w.heap.size w W) ⟨Whole.alloc (glies_new _ _ _ _ _ _ _) _, whole_new _ _ (by simp), below_alloc (below_alloc (Below.refl _ _) _) _⟩ ?_
        rintro W ⟨kl, kr, kb⟩
        have KL := Lib.hid kl
        have KR := Lib.hid kr
        have KB := Lib.hid kb
        have hlt := kr.lt
        clear kl kr kb
        generalize hB : w.heap.size = B at KL KR KB hlt ⊢
        have HB0 := Lib.hid hB
        clear hB
        go_wp2_with fail
        refine (CC.out _).mono ?_
        rintro e w1 ⟨rfl, rfl⟩
        have k0 := KL.out.c0
        have k1 := KL.out.c1
        have k2 := KL.out.c2
        have k3 := KL.out.c3
        have k4 := KL.out.c4
        have f0 := KL.out.free 0
        have f1 := KL.out.free 1
        have f2 := KL.out.free 2
        have f3 := KL.out.free 3
        have f4 := KL.out.free 4
        have hst := fun (p : Addr) (z : Nat) (V : World) => run_store Try.prog V p (.float .f64 z) .plain rfl
        go_wp2_with fail
        refine (OL.out _).mono ?_
        rintro e w1 ⟨rfl, rfl⟩
        go_wp2_with fail
        refine (OH.out _).mono ?_
        rintro e w1 ⟨rfl, rfl⟩
        go_wp2_with fail
        refine (CR.out _).mono ?_
        rintro e w1 ⟨rfl, rfl⟩
        go_upto_region 18 with fail
        clear hst
        refine cut_world (fun U => GLies 55 U B (c1) (b) (x) (x) (r) ∧ GLies 55 U (B + 1) 0 0 0 0 0 ∧ Below B w U) ⟨KL.out.set0.set2.set3.set4, (GLies.far (GLies.far (GLies.far (GLies.far KR.out (by show B + 1 ≠ B; omega)) (by show B + 1 ≠ B; omega)) (by show B + 1 ≠ B; omega)) (by show B + 1 ≠ B; omega)), (Below.setCell (Below.setCell (Below.setCell (Below.setCell KB.out (by show B ≤ B; omega) _) (by show B ≤ B; omega) _) (by show B ≤ B; omega) _) (by show B ≤ B; omega) _)⟩ ?_
        clear k0 k1 k2 k3 k4 f0 f1 f2 f3 f4 KL KR KB hlt
        rintro U ⟨kl, kr, kb⟩
        have KL := Lib.hid kl
        have KR := Lib.hid kr
        have KB := Lib.hid kb
        have hlt := kr.lt
        clear kl kr kb
        have k0 := KL.out.c0
        have k1 := KL.out.c1
        have k2 := KL.out.c2
        have k3 := KL.out.c3
        have k4 := KL.out.c4
        have f0 := KL.out.free 0
        have f1 := KL.out.free 1
        have f2 := KL.out.free 2
        have f3 := KL.out.free 3
        have f4 := KL.out.free 4
        go_wp2_with (refine wpList_store_row rfl 55 (.tmp 4) (.tmp 59) rfl (B + 1) #[.int .u64 ((c1 : Nat) : Int), .int .u64 ((b : Nat) : Int), .float .f64 x, .float .f64 x, .float .f64 r] rfl rfl 55 _ KR.out (by kernel_rfl) rfl (by simp [Value.oneCell']) ?_)
        refine bodyPost_ret (results_cell_row rfl _ _ (B + 1) 55 #[.int .u64 ((c1 : Nat) : Int), .int .u64 ((b : Nat) : Int), .float .f64 x, .float .f64 x, .float .f64 r] (0, 0) _ rfl (setRow_heap _ _ _ _ _ _ KR.out) rfl rfl (by kernel_rfl)) rfl ⟨rfl, by rw [HB0.out]; exact below_setRow KB.out (by omega) _⟩
      · rw [kr.1] at CR
        rw [kl.2, kh.2, kr.2]
        have kv := kl.1
        have ku := kh.1
        clear kl kh kr
        go_enter Try.func38, Try.ntmps38
        go_upto_region 1 with fail
        refine cut_world (fun W => GLies 55 W w.heap.size c b lo hi sm ∧ GLies 55 W (w.heap.size + 1) 0 0 0 0 0 ∧ Below w.heap.size w W) ⟨Whole.alloc (glies_new _ _ _ _ _ _ _) _, whole_new _ _ (by simp), below_alloc (below_alloc (Below.refl _ _) _) _⟩ ?_
        rintro W ⟨kl, kr, kb⟩
        have KL := Lib.hid kl
        have KR := Lib.hid kr
        have KB := Lib.hid kb
        have hlt := kr.lt
        clear kl kr kb
        generalize hB : w.heap.size = B at KL KR KB hlt ⊢
        have HB0 := Lib.hid hB
        clear hB
        go_wp2_with fail
        refine (CC.out _).mono ?_
        rintro e w1 ⟨rfl, rfl⟩
        have k0 := KL.out.c0
        have k1 := KL.out.c1
        have k2 := KL.out.c2
        have k3 := KL.out.c3
        have k4 := KL.out.c4
        have f0 := KL.out.free 0
        have f1 := KL.out.free 1
        have f2 := KL.out.free 2
        have f3 := KL.out.free 3
        have f4 := KL.out.free 4
        have hst := fun (p : Addr) (z : Nat) (V : World) => run_store Try.prog V p (.float .f64 z) .plain rfl
        go_wp2_with fail
        refine (OL.out _).mono ?_
        rintro e w1 ⟨rfl, rfl⟩
        go_wp2_with fail
        refine (OH.out _).mono ?_
        rintro e w1 ⟨rfl, rfl⟩
        go_wp2_with fail
        refine (CR.out _).mono ?_
        rintro e w1 ⟨rfl, rfl⟩
        go_upto_region 18 with fail
        clear hst
        refine cut_world (fun U => GLies 55 U B (c1) (b) (x) (x) (x) ∧ GLies 55 U (B + 1) 0 0 0 0 0 ∧ Below B w U) ⟨KL.out.set0.set2.set3.set4, (GLies.far (GLies.far (GLies.far (GLies.far KR.out (by show B + 1 ≠ B; omega)) (by show B + 1 ≠ B; omega)) (by show B + 1 ≠ B; omega)) (by show B + 1 ≠ B; omega)), (Below.setCell (Below.setCell (Below.setCell (Below.setCell KB.out (by show B ≤ B; omega) _) (by show B ≤ B; omega) _) (by show B ≤ B; omega) _) (by show B ≤ B; omega) _)⟩ ?_
        clear k0 k1 k2 k3 k4 f0 f1 f2 f3 f4 KL KR KB hlt
        rintro U ⟨kl, kr, kb⟩
        have KL := Lib.hid kl
        have KR := Lib.hid kr
        have KB := Lib.hid kb
        have hlt := kr.lt
        clear kl kr kb
        have k0 := KL.out.c0
        have k1 := KL.out.c1
        have k2 := KL.out.c2
        have k3 := KL.out.c3
        have k4 := KL.out.c4
        have f0 := KL.out.free 0
        have f1 := KL.out.free 1
        have f2 := KL.out.free 2
        have f3 := KL.out.free 3
        have f4 := KL.out.free 4
        go_wp2_with (refine wpList_store_row rfl 55 (.tmp 4) (.tmp 59) rfl (B + 1) #[.int .u64 ((c1 : Nat) : Int), .int .u64 ((b : Nat) : Int), .float .f64 x, .float .f64 x, .float .f64 x] rfl rfl 55 _ KR.out (by kernel_rfl) rfl (by simp [Value.oneCell']) ?_)
        refine bodyPost_ret (results_cell_row rfl _ _ (B + 1) 55 #[.int .u64 ((c1 : Nat) : Int), .int .u64 ((b : Nat) : Int), .float .f64 x, .float .f64 x, .float .f64 x] (0, 0) _ rfl (setRow_heap _ _ _ _ _ _ KR.out) rfl rfl (by kernel_rfl)) rfl ⟨rfl, by rw [HB0.out]; exact below_setRow KB.out (by omega) _⟩
    · rcases kr with kr | kr
      · rw [kr.1] at CR
        rw [kl.2, kh.2.2, kr.2]
        have kv := kl.1
        have ku := kh.1
        have ku2 := kh.2.1
        clear kl kh kr
        go_enter Try.func38, Try.ntmps38
        go_upto_region 1 with fail
        refine cut_world (fun W => GLies 55 W w.heap.size c b lo hi sm ∧ GLies 55 W (w.heap.size + 1) 0 0 0 0 0 ∧ Below w.heap.size w W) ⟨Whole.alloc (glies_new _ _ _ _ _ _ _) _, whole_new _ _ (by simp), below_alloc (below_alloc (Below.refl _ _) _) _⟩ ?_
        rintro W ⟨kl, kr, kb⟩
        have KL := Lib.hid kl
        have KR := Lib.hid kr
        have KB := Lib.hid kb
        have hlt := kr.lt
        clear kl kr kb
        generalize hB : w.heap.size = B at KL KR KB hlt ⊢
        have HB0 := Lib.hid hB
        clear hB
        go_wp2_with fail
        refine (CC.out _).mono ?_
        rintro e w1 ⟨rfl, rfl⟩
        have k0 := KL.out.c0
        have k1 := KL.out.c1
        have k2 := KL.out.c2
        have k3 := KL.out.c3
        have k4 := KL.out.c4
        have f0 := KL.out.free 0
        have f1 := KL.out.free 1
        have f2 := KL.out.free 2
        have f3 := KL.out.free 3
        have f4 := KL.out.free 4
        have hst := fun (p : Addr) (z : Nat) (V : World) => run_store Try.prog V p (.float .f64 z) .plain rfl
        go_wp2_with fail
        refine (OL.out _).mono ?_
        rintro e w1 ⟨rfl, rfl⟩
        go_wp2_with fail
        refine (OH.out _).mono ?_
        rintro e w1 ⟨rfl, rfl⟩
        go_wp2_with fail
        refine (CR.out _).mono ?_
        rintro e w1 ⟨rfl, rfl⟩
        go_upto_region 18 with fail
        clear hst
        refine cut_world (fun U => GLies 55 U B (c1) (b) (x) (hi) (r) ∧ GLies 55 U (B + 1) 0 0 0 0 0 ∧ Below B w U) ⟨KL.out.set0.set2.set4, (GLies.far (GLies.far (GLies.far KR.out (by show B + 1 ≠ B; omega)) (by show B + 1 ≠ B; omega)) (by show B + 1 ≠ B; omega)), (Below.setCell (Below.setCell (Below.setCell KB.out (by show B ≤ B; omega) _) (by show B ≤ B; omega) _) (by show B ≤ B; omega) _)⟩ ?_
        clear k0 k1 k2 k3 k4 f0 f1 f2 f3 f4 KL KR KB hlt
        rintro U ⟨kl, kr, kb⟩
        have KL := Lib.hid kl
        have KR := Lib.hid kr
        have KB := Lib.hid kb
        have hlt := kr.lt
        clear kl kr kb
        have k0 := KL.out.c0
        have k1 := KL.out.c1
        have k2 := KL.out.c2
        have k3 := KL.out.c3
        have k4 := KL.out.c4
        have f0 := KL.out.free 0
        have f1 := KL.out.free 1
        have f2 := KL.out.free 2
        have f3 := KL.out.free 3
        have f4 := KL.out.free 4
        go_wp2_with (refine wpList_store_row rfl 55 (.tmp 4) (.tmp 59) rfl (B + 1) #[.int .u64 ((c1 : Nat) : Int), .int .u64 ((b : Nat) : Int), .float .f64 x, .float .f64 hi, .float .f64 r] rfl rfl 55 _ KR.out (by kernel_rfl) rfl (by simp [Value.oneCell']) ?_)
        refine bodyPost_ret (results_cell_row rfl _ _ (B + 1) 55 #[.int .u64 ((c1 : Nat) : Int), .int .u64 ((b : Nat) : Int), .float .f64 x, .float .f64 hi, .float .f64 r] (0, 0) _ rfl (setRow_heap _ _ _ _ _ _ KR.out) rfl rfl (by kernel_rfl)) rfl ⟨rfl, by rw [HB0.out]; exact below_setRow KB.out (by omega) _⟩
      · rw [kr.1] at CR
        rw [kl.2, kh.2.2, kr.2]
        have kv := kl.1
        have ku := kh.1
        have ku2 := kh.2.1
        clear kl kh kr
        go_enter Try.func38, Try.ntmps38
        go_upto_region 1 with fail
        refine cut_world (fun W => GLies 55 W w.heap.size c b lo hi sm ∧ GLies 55 W (w.heap.size + 1) 0 0 0 0 0 ∧ Below w.heap.size w W) ⟨Whole.alloc (glies_new _ _ _ _ _ _ _) _, whole_new _ _ (by simp), below_alloc (below_alloc (Below.refl _ _) _) _⟩ ?_
        rintro W ⟨kl, kr, kb⟩
        have KL := Lib.hid kl
        have KR := Lib.hid kr
        have KB := Lib.hid kb
        have hlt := kr.lt
        clear kl kr kb
        generalize hB : w.heap.size = B at KL KR KB hlt ⊢
        have HB0 := Lib.hid hB
        clear hB
        go_wp2_with fail
        refine (CC.out _).mono ?_
        rintro e w1 ⟨rfl, rfl⟩
        have k0 := KL.out.c0
        have k1 := KL.out.c1
        have k2 := KL.out.c2
        have k3 := KL.out.c3
        have k4 := KL.out.c4
        have f0 := KL.out.free 0
        have f1 := KL.out.free 1
        have f2 := KL.out.free 2
        have f3 := KL.out.free 3
        have f4 := KL.out.free 4
        have hst := fun (p : Addr) (z : Nat) (V : World) => run_store Try.prog V p (.float .f64 z) .plain rfl
        go_wp2_with fail
        refine (OL.out _).mono ?_
        rintro e w1 ⟨rfl, rfl⟩
        go_wp2_with fail
        refine (OH.out _).mono ?_
        rintro e w1 ⟨rfl, rfl⟩
        go_wp2_with fail
        refine (CR.out _).mono ?_
        rintro e w1 ⟨rfl, rfl⟩
        go_upto_region 18 with fail
        clear hst
        refine cut_world (fun U => GLies 55 U B (c1) (b) (x) (hi) (x) ∧ GLies 55 U (B + 1) 0 0 0 0 0 ∧ Below B w U) ⟨KL.out.set0.set2.set4, (GLies.far (GLies.far (GLies.far KR.out (by show B + 1 ≠ B; omega)) (by show B + 1 ≠ B; omega)) (by show B + 1 ≠ B; omega)), (Below.setCell (Below.setCell (Below.setCell KB.out (by show B ≤ B; omega) _) (by show B ≤ B; omega) _) (by show B ≤ B; omega) _)⟩ ?_
        clear k0 k1 k2 k3 k4 f0 f1 f2 f3 f4 KL KR KB hlt
        rintro U ⟨kl, kr, kb⟩
        have KL := Lib.hid kl
        have KR := Lib.hid kr
        have KB := Lib.hid kb
        have hlt := kr.lt
        clear kl kr kb
        have k0 := KL.out.c0
        have k1 := KL.out.c1
        have k2 := KL.out.c2
        have k3 := KL.out.c3
        have k4 := KL.out.c4
        have f0 := KL.out.free 0
        have f1 := KL.out.free 1
        have f2 := KL.out.free 2
        have f3 := KL.out.free 3
        have f4 := KL.out.free 4
        go_wp2_with (refine wpList_store_row rfl 55 (.tmp 4) (.tmp 59) rfl (B + 1) #[.int .u64 ((c1 : Nat) : Int), .int .u64 ((b : Nat) : Int), .float .f64 x, .float .f64 hi, .float .f64 x] rfl rfl 55 _ KR.out (by kernel_rfl) rfl (by simp [Value.oneCell']) ?_)
        refine bodyPost_ret (results_cell_row rfl _ _ (B + 1) 55 #[.int .u64 ((c1 : Nat) : Int), .int .u64 ((b : Nat) : Int), .float .f64 x, .float .f64 hi, .float .f64 x] (0, 0) _ rfl (setRow_heap _ _ _ _ _ _ KR.out) rfl rfl (by kernel_rfl)) rfl ⟨rfl, by rw [HB0.out]; exact below_setRow KB.out (by omega) _⟩
  · rcases kh with kh | kh
    · rcases kr with kr | kr
      · rw [kr.1] at CR
        rw [kl.2.2, kh.2, kr.2]
        have kv := kl.1
        have ku := kh.1
        have kv2 := kl.2.1
        clear kl kh kr
        go_enter Try.func38, Try.ntmps38
        go_upto_region 1 with fail
        refine cut_world (fun W => GLies 55 W w.heap.size c b lo hi sm ∧ GLies 55 W (w.heap.size + 1) 0 0 0 0 0 ∧ Below w.heap.size w W) ⟨Whole.alloc (glies_new _ _ _ _ _ _ _) _, whole_new _ _ (by simp), below_alloc (below_alloc (Below.refl _ _) _) _⟩ ?_
        rintro W ⟨kl, kr, kb⟩
        have KL := Lib.hid kl
        have KR := Lib.hid kr
        have KB := Lib.hid kb
        have hlt := kr.lt
        clear kl kr kb
        generalize hB : w.heap.size = B at KL KR KB hlt ⊢
        have HB0 := Lib.hid hB
        clear hB
        go_wp2_with fail
        refine (CC.out _).mono ?_
        rintro e w1 ⟨rfl, rfl⟩
        have k0 := KL.out.c0
        have k1 := KL.out.c1
        have k2 := KL.out.c2
        have k3 := KL.out.c3
        have k4 := KL.out.c4
        have f0 := KL.out.free 0
        have f1 := KL.out.free 1
        have f2 := KL.out.free 2
        have f3 := KL.out.free 3
        have f4 := KL.out.free 4
        have hst := fun (p : Addr) (z : Nat) (V : World) => run_store Try.prog V p (.float .f64 z) .plain rfl
        go_wp2_with fail
        refine (OL.out _).mono ?_
        rintro e w1 ⟨rfl, rfl⟩
        go_wp2_with fail
        refine (OH.out _).mono ?_
        rintro e w1 ⟨rfl, rfl⟩
        go_wp2_with fail
        refine (CR.out _).mono ?_
        rintro e w1 ⟨rfl, rfl⟩
        go_upto_region 18 with fail
        clear hst
        refine cut_world (fun U => GLies 55 U B (c1) (b) (lo) (x) (r) ∧ GLies 55 U (B + 1) 0 0 0 0 0 ∧ Below B w U) ⟨KL.out.set0.set3.set4, (GLies.far (GLies.far (GLies.far KR.out (by show B + 1 ≠ B; omega)) (by show B + 1 ≠ B; omega)) (by show B + 1 ≠ B; omega)), (Below.setCell (Below.setCell (Below.setCell KB.out (by show B ≤ B; omega) _) (by show B ≤ B; omega) _) (by show B ≤ B; omega) _)⟩ ?_
        clear k0 k1 k2 k3 k4 f0 f1 f2 f3 f4 KL KR KB hlt
        rintro U ⟨kl, kr, kb⟩
        have KL := Lib.hid kl
        have KR := Lib.hid kr
        have KB := Lib.hid kb
        have hlt := kr.lt
        clear kl kr kb
        have k0 := KL.out.c0
        have k1 := KL.out.c1
        have k2 := KL.out.c2
        have k3 := KL.out.c3
        have k4 := KL.out.c4
        have f0 := KL.out.free 0
        have f1 := KL.out.free 1
        have f2 := KL.out.free 2
        have f3 := KL.out.free 3
        have f4 := KL.out.free 4
        go_wp2_with (refine wpList_store_row rfl 55 (.tmp 4) (.tmp 59) rfl (B + 1) #[.int .u64 ((c1 : Nat) : Int), .int .u64 ((b : Nat) : Int), .float .f64 lo, .float .f64 x, .float .f64 r] rfl rfl 55 _ KR.out (by kernel_rfl) rfl (by simp [Value.oneCell']) ?_)
        refine bodyPost_ret (results_cell_row rfl _ _ (B + 1) 55 #[.int .u64 ((c1 : Nat) : Int), .int .u64 ((b : Nat) : Int), .float .f64 lo, .float .f64 x, .float .f64 r] (0, 0) _ rfl (setRow_heap _ _ _ _ _ _ KR.out) rfl rfl (by kernel_rfl)) rfl ⟨rfl, by rw [HB0.out]; exact below_setRow KB.out (by omega) _⟩
      · rw [kr.1] at CR
        rw [kl.2.2, kh.2, kr.2]
        have kv := kl.1
        have ku := kh.1
        have kv2 := kl.2.1
        clear kl kh kr
        go_enter Try.func38, Try.ntmps38
        go_upto_region 1 with fail
        refine cut_world (fun W => GLies 55 W w.heap.size c b lo hi sm ∧ GLies 55 W (w.heap.size + 1) 0 0 0 0 0 ∧ Below w.heap.size w W) ⟨Whole.alloc (glies_new _ _ _ _ _ _ _) _, whole_new _ _ (by simp), below_alloc (below_alloc (Below.refl _ _) _) _⟩ ?_
        rintro W ⟨kl, kr, kb⟩
        have KL := Lib.hid kl
        have KR := Lib.hid kr
        have KB := Lib.hid kb
        have hlt := kr.lt
        clear kl kr kb
        generalize hB : w.heap.size = B at KL KR KB hlt ⊢
        have HB0 := Lib.hid hB
        clear hB
        go_wp2_with fail
        refine (CC.out _).mono ?_
        rintro e w1 ⟨rfl, rfl⟩
        have k0 := KL.out.c0
        have k1 := KL.out.c1
        have k2 := KL.out.c2
        have k3 := KL.out.c3
        have k4 := KL.out.c4
        have f0 := KL.out.free 0
        have f1 := KL.out.free 1
        have f2 := KL.out.free 2
        have f3 := KL.out.free 3
        have f4 := KL.out.free 4
        have hst := fun (p : Addr) (z : Nat) (V : World) => run_store Try.prog V p (.float .f64 z) .plain rfl
        go_wp2_with fail
        refine (OL.out _).mono ?_
        rintro e w1 ⟨rfl, rfl⟩
        go_wp2_with fail
        refine (OH.out _).mono ?_
        rintro e w1 ⟨rfl, rfl⟩
        go_wp2_with fail
        refine (CR.out _).mono ?_
        rintro e w1 ⟨rfl, rfl⟩
        go_upto_region 18 with fail
        clear hst
        refine cut_world (fun U => GLies 55 U B (c1) (b) (lo) (x) (x) ∧ GLies 55 U (B + 1) 0 0 0 0 0 ∧ Below B w U) ⟨KL.out.set0.set3.set4, (GLies.far (GLies.far (GLies.far KR.out (by show B + 1 ≠ B; omega)) (by show B + 1 ≠ B; omega)) (by show B + 1 ≠ B; omega)), (Below.setCell (Below.setCell (Below.setCell KB.out (by show B ≤ B; omega) _) (by show B ≤ B; omega) _) (by show B ≤ B; omega) _)⟩ ?_
        clear k0 k1 k2 k3 k4 f0 f1 f2 f3 f4 KL KR KB hlt
        rintro U ⟨kl, kr, kb⟩
        have KL := Lib.hid kl
        have KR := Lib.hid kr
        have KB := Lib.hid kb
        have hlt := kr.lt
        clear kl kr kb
        have k0 := KL.out.c0
        have k1 := KL.out.c1
        have k2 := KL.out.c2
        have k3 := KL.out.c3
        have k4 := KL.out.c4
        have f0 := KL.out.free 0
        have f1 := KL.out.free 1
        have f2 := KL.out.free 2
        have f3 := KL.out.free 3
        have f4 := KL.out.free 4
        go_wp2_with (refine wpList_store_row rfl 55 (.tmp 4) (.tmp 59) rfl (B + 1) #[.int .u64 ((c1 : Nat) : Int), .int .u64 ((b : Nat) : Int), .float .f64 lo, .float .f64 x, .float .f64 x] rfl rfl 55 _ KR.out (by kernel_rfl) rfl (by simp [Value.oneCell']) ?_)
        refine bodyPost_ret (results_cell_row rfl _ _ (B + 1) 55 #[.int .u64 ((c1 : Nat) : Int), .int .u64 ((b : Nat) : Int), .float .f64 lo, .float .f64 x, .float .f64 x] (0, 0) _ rfl (setRow_heap _ _ _ _ _ _ KR.out) rfl rfl (by kernel_rfl)) rfl ⟨rfl, by rw [HB0.out]; exact below_setRow KB.out (by omega) _⟩
    · rcases kr with kr | kr
      · rw [kr.1] at CR
        rw [kl.2.2, kh.2.2, kr.2]
        have kv := kl.1
        have ku := kh.1
        have kv2 := kl.2.1
        have ku2 := kh.2.1
        clear kl kh kr
        go_enter Try.func38, Try.ntmps38
        go_upto_region 1 with fail
        refine cut_world (fun W => GLies 55 W w.heap.size c b lo hi sm ∧ GLies 55 W (w.heap.size + 1) 0 0 0 0 0 ∧ Below w.heap.size w W) ⟨Whole.alloc (glies_new _ _ _ _ _ _ _) _, whole_new _ _ (by simp), below_alloc (below_alloc (Below.refl _ _) _) _⟩ ?_
        rintro W ⟨kl, kr, kb⟩
        have KL := Lib.hid kl
        have KR := Lib.hid kr
        have KB := Lib.hid kb
        have hlt := kr.lt
        clear kl kr kb
        generalize hB : w.heap.size = B at KL KR KB hlt ⊢
        have HB0 := Lib.hid hB
        clear hB
        go_wp2_with fail
        refine (CC.out _).mono ?_
        rintro e w1 ⟨rfl, rfl⟩
        have k0 := KL.out.c0
        have k1 := KL.out.c1
        have k2 := KL.out.c2
        have k3 := KL.out.c3
        have k4 := KL.out.c4
        have f0 := KL.out.free 0
        have f1 := KL.out.free 1
        have f2 := KL.out.free 2
        have f3 := KL.out.free 3
        have f4 := KL.out.free 4
        have hst := fun (p : Addr) (z : Nat) (V : World) => run_store Try.prog V p (.float .f64 z) .plain rfl
        go_wp2_with fail
        refine (OL.out _).mono ?_
        rintro e w1 ⟨rfl, rfl⟩
        go_wp2_with fail
        refine (OH.out _).mono ?_
        rintro e w1 ⟨rfl, rfl⟩
        go_wp2_with fail
        refine (CR.out _).mono ?_
        rintro e w1 ⟨rfl, rfl⟩
        go_upto_region 18 with fail
        clear hst
        refine cut_world (fun U => GLies 55 U B (c1) (b) (lo) (hi) (r) ∧ GLies 55 U (B + 1) 0 0 0 0 0 ∧ Below B w U) ⟨KL.out.set0.set4, (GLies.far (GLies.far KR.out (by show B + 1 ≠ B; omega)) (by show B + 1 ≠ B; omega)), (Below.setCell (Below.setCell KB.out (by show B ≤ B; omega) _) (by show B ≤ B; omega) _)⟩ ?_
        clear k0 k1 k2 k3 k4 f0 f1 f2 f3 f4 KL KR KB hlt
        rintro U ⟨kl, kr, kb⟩
        have KL := Lib.hid kl
        have KR := Lib.hid kr
        have KB := Lib.hid kb
        have hlt := kr.lt
        clear kl kr kb
        have k0 := KL.out.c0
        have k1 := KL.out.c1
        have k2 := KL.out.c2
        have k3 := KL.out.c3
        have k4 := KL.out.c4
        have f0 := KL.out.free 0
        have f1 := KL.out.free 1
        have f2 := KL.out.free 2
        have f3 := KL.out.free 3
        have f4 := KL.out.free 4
        go_wp2_with (refine wpList_store_row rfl 55 (.tmp 4) (.tmp 59) rfl (B + 1) #[.int .u64 ((c1 : Nat) : Int), .int .u64 ((b : Nat) : Int), .float .f64 lo, .float .f64 hi, .float .f64 r] rfl rfl 55 _ KR.out (by kernel_rfl) rfl (by simp [Value.oneCell']) ?_)
        refine bodyPost_ret (results_cell_row rfl _ _ (B + 1) 55 #[.int .u64 ((c1 : Nat) : Int), .int .u64 ((b : Nat) : Int), .float .f64 lo, .float .f64 hi, .float .f64 r] (0, 0) _ rfl (setRow_heap _ _ _ _ _ _ KR.out) rfl rfl (by kernel_rfl)) rfl ⟨rfl, by rw [HB0.out]; exact below_setRow KB.out (by omega) _⟩
      · rw [kr.1] at CR
        rw [kl.2.2, kh.2.2, kr.2]
        have kv := kl.1
        have ku := kh.1
        have kv2 := kl.2.1
        have ku2 := kh.2.1
        clear kl kh kr
        go_enter Try.func38, Try.ntmps38
        go_upto_region 1 with fail
        refine cut_world (fun W => GLies 55 W w.heap.size c b lo hi sm ∧ GLies 55 W (w.heap.size + 1) 0 0 0 0 0 ∧ Below w.heap.size w W) ⟨Whole.alloc (glies_new _ _ _ _ _ _ _) _, whole_new _ _ (by simp), below_alloc (below_alloc (Below.refl _ _) _) _⟩ ?_
        rintro W ⟨kl, kr, kb⟩
        have KL := Lib.hid kl
        have KR := Lib.hid kr
        have KB := Lib.hid kb
        have hlt := kr.lt
        clear kl kr kb
        generalize hB : w.heap.size = B at KL KR KB hlt ⊢
        have HB0 := Lib.hid hB
        clear hB
        go_wp2_with fail
        refine (CC.out _).mono ?_
        rintro e w1 ⟨rfl, rfl⟩
        have k0 := KL.out.c0
        have k1 := KL.out.c1
        have k2 := KL.out.c2
        have k3 := KL.out.c3
        have k4 := KL.out.c4
        have f0 := KL.out.free 0
        have f1 := KL.out.free 1
        have f2 := KL.out.free 2
        have f3 := KL.out.free 3
        have f4 := KL.out.free 4
        have hst := fun (p : Addr) (z : Nat) (V : World) => run_store Try.prog V p (.float .f64 z) .plain rfl
        go_wp2_with fail
        refine (OL.out _).mono ?_
        rintro e w1 ⟨rfl, rfl⟩
        go_wp2_with fail
        refine (OH.out _).mono ?_
        rintro e w1 ⟨rfl, rfl⟩
        go_wp2_with fail
        refine (CR.out _).mono ?_
        rintro e w1 ⟨rfl, rfl⟩
        go_upto_region 18 with fail
        clear hst
        refine cut_world (fun U => GLies 55 U B (c1) (b) (lo) (hi) (x) ∧ GLies 55 U (B + 1) 0 0 0 0 0 ∧ Below B w U) ⟨KL.out.set0.set4, (GLies.far (GLies.far KR.out (by show B + 1 ≠ B; omega)) (by show B + 1 ≠ B; omega)), (Below.setCell (Below.setCell KB.out (by show B ≤ B; omega) _) (by show B ≤ B; omega) _)⟩ ?_
        clear k0 k1 k2 k3 k4 f0 f1 f2 f3 f4 KL KR KB hlt
        rintro U ⟨kl, kr, kb⟩
        have KL := Lib.hid kl
        have KR := Lib.hid kr
        have KB := Lib.hid kb
        have hlt := kr.lt
        clear kl kr kb
        have k0 := KL.out.c0
        have k1 := KL.out.c1
        have k2 := KL.out.c2
        have k3 := KL.out.c3
        have k4 := KL.out.c4
        have f0 := KL.out.free 0
        have f1 := KL.out.free 1
        have f2 := KL.out.free 2
        have f3 := KL.out.free 3
        have f4 := KL.out.free 4
        go_wp2_with (refine wpList_store_row rfl 55 (.tmp 4) (.tmp 59) rfl (B + 1) #[.int .u64 ((c1 : Nat) : Int), .int .u64 ((b : Nat) : Int), .float .f64 lo, .float .f64 hi, .float .f64 x] rfl rfl 55 _ KR.out (by kernel_rfl) rfl (by simp [Value.oneCell']) ?_)
        refine bodyPost_ret (results_cell_row rfl _ _ (B + 1) 55 #[.int .u64 ((c1 : Nat) : Int), .int .u64 ((b : Nat) : Int), .float .f64 lo, .float .f64 hi, .float .f64 x] (0, 0) _ rfl (setRow_heap _ _ _ _ _ _ KR.out) rfl rfl (by kernel_rfl)) rfl ⟨rfl, by rw [HB0.out]; exact below_setRow KB.out (by omega) _⟩
theorem rnote_any (g : G) (h : g.ok) (hc : g.c < 18446744073709551615) (hb : g.b < 18446744073709551615) (x : Nat) (hx : x < 18446744073709551616) (w : World) :
    Calls Try.prog 38 #[gV g, .float .f64 x] w fun e w' => e = .returned (gV (note g x)) ∧ Below w.heap.size w w' := by
  obtain ⟨c, b, lo, hi, sm⟩ := g
  unfold note gV
  rcases hcx : counts x with _ | _
  · rw [if_neg (by simp)]
    exact rnote_bad c b lo hi sm x hcx hb w
  · rw [if_pos rfl]
    by_cases h0 : c = 0
    · rw [if_pos h0]
      exact rnote_first c b lo hi sm x hcx h0 w
    · rw [if_neg h0]
      exact rnote_more c b lo hi sm x hcx hx h0 hc h.lo h.hi h.sm w
end Gauge
end Go.Proofs.Ytijmbjnmfkiklaa
