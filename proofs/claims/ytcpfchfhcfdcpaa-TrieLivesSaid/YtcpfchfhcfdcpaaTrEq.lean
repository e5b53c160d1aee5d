/- Routes that are equal; As, Same. -/
import Derived.Test.YtcpfchfhcfdcpaaTrRoutes
import Derived.Deep.DeepCutAuto
import Derived.Great.Walk
namespace Go.Proofs.Ytcpfchfhcfdcpaa
namespace Tri
open Go.ChangeShapes Go.WideShapes Go.ChangeAt Go.RowKit
open Num Mem Words Chacha Aead Poly Quiet Ops Adr RowS

theorem rt_ext {x y : Rt} (hx : (x.p.length : Int) ≤ digitsI x.s) (hy : (y.p.length : Int) ≤ digitsI y.s) : x = y ↔ ((x.s = y.s ∧ ∀ i, i < 16 → byt x.p i = byt y.p i) ∧ (x.p.length : Int) = (y.p.length : Int)) ∧ x.o = y.o := by
  constructor
  · rintro rfl; exact ⟨⟨⟨rfl, fun _ _ => rfl⟩, rfl⟩, rfl⟩
  · rintro ⟨⟨⟨h1, h2⟩, h3⟩, h4⟩
    have := (right_eq (byt_lt x.p) (byt_lt y.p) (right_byt hx) (right_byt hy)).1 ⟨h2, by omega⟩
    rw [bs_byt, bs_byt] at this
    cases x; cases y
    simp at h1 h4 this
    simp [h1, h4, this]
theorem part_pref (x : Rt) (w : World) : (part 29 x.cells.toArray 0).run Try.prog w = .ok (.agg (prefL x.s (byt x.p) (x.p.length : Int)).toArray) w := by
  simp only [part, isAgg, run_underlying Try.underlying29, Sem.run_bind, Result.andThen_ok, Sem.run_pure, if_true, size18]
  congr 2
theorem part_own (x : Rt) (w : World) : (part 3 x.cells.toArray 18).run Try.prog w = .ok (.int .i64 x.o) w := by
  have e : x.cells.toArray[18]? = some (.int .i64 x.o) := by rw [List.getElem?_toArray]; exact route_own _ _ _ _
  simp only [part, isAgg, run_underlying Try.underlying3, Sem.run_bind, Result.andThen_ok, Sem.run_pure, e]
  rfl
theorem eqin_route (d : Nat) (x y : Rt) (hx : (x.p.length : Int) ≤ digitsI x.s) (hy : (y.p.length : Int) ≤ digitsI y.s) (r : Bool) (hr : r = true ↔ x = y) (w : World) :
    (Op.equalIn (d + 5) 38 (.agg x.cells.toArray) (.agg y.cells.toArray)).run Try.prog w = .ok r w := by
  rw [rt_ext hx hy] at hr
  rw [run_equalIn_struct w (d + 4) 38 _ _ (by simp only [Program.fieldsOf, Try.underlying38]) (by kernel_rfl)]
  have e : (Try.prog.fieldsOf 38).toList = [{ name := "Prefix", type := 29, offset := 0, embedded := false, tag := "", pkgPath := "", byteOffset := 0 }, { name := "Owner", type := 3, offset := 18, embedded := false, tag := "", pkgPath := "", byteOffset := 32 }] := by
    simp only [Program.fieldsOf, Try.underlying38]
  rw [e]
  have x1 : ∀ w, (Op.equalIn (d + 4) 29 (.agg (prefL x.s (byt x.p) (x.p.length : Int)).toArray) (.agg (prefL y.s (byt y.p) (y.p.length : Int)).toArray)).run Try.prog w = .ok (decide ((x.s = y.s ∧ ∀ i : Fin 16, byt x.p i.1 = byt y.p i.1) ∧ (x.p.length : Int) = (y.p.length : Int))) w := fun w =>
    eqin_pref d x.s y.s (byt x.p) (byt y.p) _ _ (byt_lt _) (byt_lt _) _ (by rw [decide_eq_true_eq]; exact ⟨fun h => ⟨⟨h.1.1, fun i hi => h.1.2 ⟨i, hi⟩⟩, h.2⟩, fun h => ⟨⟨h.1.1, fun i => h.1.2 i.1 i.2⟩, h.2⟩⟩) w
  have hr' : r = (decide ((x.s = y.s ∧ ∀ i : Fin 16, byt x.p i.1 = byt y.p i.1) ∧ (x.p.length : Int) = (y.p.length : Int)) && (x.o == y.o)) := by
    rw [Bool.eq_iff_iff, hr]
    simp only [Bool.and_eq_true, decide_eq_true_eq, beq_iff_eq]
    exact ⟨fun h => ⟨⟨⟨h.1.1.1, fun i => h.1.1.2 i.1 i.2⟩, h.1.2⟩, h.2⟩, fun h => ⟨⟨⟨h.1.1.1, fun i hi => h.1.1.2 ⟨i, hi⟩⟩, h.1.2⟩, h.2⟩⟩
  simp only [Op.eqFields]
  rw [if_pos (by decide)]
  simp only [Sem.run_bind, part_pref, Result.andThen_ok, x1]
  cases c : decide ((x.s = y.s ∧ ∀ i : Fin 16, byt x.p i.1 = byt y.p i.1) ∧ (x.p.length : Int) = (y.p.length : Int))
  · rw [c] at hr'
    subst hr'
    simp
  · rw [c] at hr'
    rw [Bool.true_and] at hr'
    subst hr'
    simp only [Bool.not_true, Bool.false_eq_true, if_false, ne_eq, String.reduceEq, not_false_eq_true, if_true, Sem.run_bind, part_own, Result.andThen_ok, run_equalIn_int w (d + 3) 3 .i64 .i64 x.o y.o Try.underlying3]
    cases x.o == y.o <;> simp
theorem eqin_refr (d : Nat) (x y : Rt) (hx : (x.p.length : Int) ≤ digitsI x.s) (hy : (y.p.length : Int) ≤ digitsI y.s) (r : Bool) (hr : r = true ↔ x = y) (w : World) :
    (Op.equalIn (d + 5) 41 (.agg x.cells.toArray) (.agg y.cells.toArray)).run Try.prog w = .ok r w := by
  rw [rt_ext hx hy] at hr
  rw [run_equalIn_struct w (d + 4) 41 _ _ (by simp only [Program.fieldsOf, Try.underlying41]) (by kernel_rfl)]
  have e : (Try.prog.fieldsOf 41).toList = [{ name := "Prefix", type := 29, offset := 0, embedded := false, tag := "", pkgPath := "", byteOffset := 0 }, { name := "Owner", type := 3, offset := 18, embedded := false, tag := "", pkgPath := "", byteOffset := 32 }] := by
    simp only [Program.fieldsOf, Try.underlying41]
  rw [e]
  have x1 : ∀ w, (Op.equalIn (d + 4) 29 (.agg (prefL x.s (byt x.p) (x.p.length : Int)).toArray) (.agg (prefL y.s (byt y.p) (y.p.length : Int)).toArray)).run Try.prog w = .ok (decide ((x.s = y.s ∧ ∀ i : Fin 16, byt x.p i.1 = byt y.p i.1) ∧ (x.p.length : Int) = (y.p.length : Int))) w := fun w =>
    eqin_pref d x.s y.s (byt x.p) (byt y.p) _ _ (byt_lt _) (byt_lt _) _ (by rw [decide_eq_true_eq]; exact ⟨fun h => ⟨⟨h.1.1, fun i hi => h.1.2 ⟨i, hi⟩⟩, h.2⟩, fun h => ⟨⟨h.1.1, fun i => h.1.2 i.1 i.2⟩, h.2⟩⟩) w
  have hr' : r = (decide ((x.s = y.s ∧ ∀ i : Fin 16, byt x.p i.1 = byt y.p i.1) ∧ (x.p.length : Int) = (y.p.length : Int)) && (x.o == y.o)) := by
    rw [Bool.eq_iff_iff, hr]
    simp only [Bool.and_eq_true, decide_eq_true_eq, beq_iff_eq]
    exact ⟨fun h => ⟨⟨⟨h.1.1.1, fun i => h.1.1.2 i.1 i.2⟩, h.1.2⟩, h.2⟩, fun h => ⟨⟨⟨h.1.1.1, fun i hi => h.1.1.2 ⟨i, hi⟩⟩, h.1.2⟩, h.2⟩⟩
  simp only [Op.eqFields]
  rw [if_pos (by decide)]
  simp only [Sem.run_bind, part_pref, Result.andThen_ok, x1]
  cases c : decide ((x.s = y.s ∧ ∀ i : Fin 16, byt x.p i.1 = byt y.p i.1) ∧ (x.p.length : Int) = (y.p.length : Int))
  · rw [c] at hr'
    subst hr'
    simp
  · rw [c] at hr'
    rw [Bool.true_and] at hr'
    subst hr'
    simp only [Bool.not_true, Bool.false_eq_true, if_false, ne_eq, String.reduceEq, not_false_eq_true, if_true, Sem.run_bind, part_own, Result.andThen_ok, run_equalIn_int w (d + 3) 3 .i64 .i64 x.o y.o Try.underlying3]
    cases x.o == y.o <;> simp
theorem refr_built (x : Rt) : Try.prog.built 41 [(0, .agg (prefL x.s (byt x.p) (x.p.length : Int)).toArray), (1, .int .i64 x.o)] = some x.cells.toArray := by kernel_rfl
theorem built_refr' (s : Bool) (f : Nat → Nat) (z o : Int) : Try.prog.builtSlice 41 1 [(0, .agg (routeL s f z o).toArray)] = some (routeL s f z o).toArray := by kernel_rfl
theorem built_refr (x : Rt) : Try.prog.builtSlice 41 1 [(0, .agg x.cells.toArray)] = some x.cells.toArray := built_refr' _ _ _ _
theorem info_refr : (Try.prog.info? 41).map (fun i => (i.zero, i.size, i.bytes)) = some (some (.agg (routeL false nought 0 0).toArray), 19, 40) := by kernel_rfl
end Tri
end Go.Proofs.Ytcpfchfhcfdcpaa
