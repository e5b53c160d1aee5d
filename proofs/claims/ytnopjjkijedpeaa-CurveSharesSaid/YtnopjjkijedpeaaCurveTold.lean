/- The ladder's calls in the words of the ladder over Fin P. -/
import Derived.Test.YtnopjjkijedpeaaCurveChange
import Derived.Test.YtnopjjkijedpeaaCurveStep
import Derived.Test.YtnopjjkijedpeaaCurveClamp
namespace Go.Proofs.Ytnopjjkijedpeaa
namespace Curve
open Go.ChangeShapes Go.WideShapes Go.ChangeAt Go.RowKit
open Num Mem Words Radix FieldN Chacha Quiet Go.Proofs.Ytnopjjkijedpeaa.Field Edwards

/-- what two pairs of bytes tell -/
structure Told (f2 q2 f3 q3 : Nat → Nat) (s : Four P) : Prop where
  l1 : ∀ i, f2 i < 256
  l2 : ∀ i, q2 i < 256
  l3 : ∀ i, f3 i < 256
  l4 : ∀ i, q3 i < 256
  x2 : tk f2 = s.x2.val
  z2 : tk q2 = s.z2.val
  x3 : tk f3 = s.x3.val
  z3 : tk q3 = s.z3.val
theorem Told.swap {f2 q2 f3 q3 : Nat → Nat} {s : Four P} (h : Told f2 q2 f3 q3 s) : Told f3 q3 f2 q2 (swapF s) := ⟨h.l3, h.l4, h.l1, h.l2, h.x3, h.z3, h.x2, h.z2⟩
theorem told_bytes (s : Four P) : Told (byteAt s.x2.val) (byteAt s.z2.val) (byteAt s.x3.val) (byteAt s.z3.val) s := ⟨byteAt_lt _, byteAt_lt _, byteAt_lt _, byteAt_lt _, tk_of _, tk_of _, tk_of _, tk_of _⟩

theorem change_told (A C : Nat) (hAC : A ≠ C) (d : Nat) (hd : d < 2) {f2 q2 f3 q3 : Nat → Nat} {s : Four P} (T : Told f2 q2 f3 q3 s) (w : World) (hA : Whole w A 78 (pw2 f2 q2)) (hC : Whole w C 78 (pw2 f3 q3)) :
    Calls Try.prog 55 #[.pointer (some ⟨A, 0, none⟩), .pointer (some ⟨C, 0, none⟩), .int .u8 d] w fun e w' => e = .returned (.tuple #[]) ∧ Kept A C w w' ∧ ∃ a2 b2 a3 b3, Told a2 b2 a3 b3 (if d = 1 then swapF s else s) ∧ Whole w' A 78 (pw2 a2 b2) ∧ Whole w' C 78 (pw2 a3 b3) := by
  refine (change_row A C hAC (pr f2 q2) (pr f3 q3) (pr_lt T.l1 T.l2) (pr_lt T.l3 T.l4) d hd w hA hC).mono ?_
  rintro e w' ⟨he, h1, h2, hk⟩
  refine ⟨he, hk, ?_⟩
  by_cases e1 : d = 1
  · simp only [e1, if_true] at h1 h2 ⊢
    exact ⟨f3, q3, f2, q2, T.swap, h1, h2⟩
  · simp only [e1, if_false] at h1 h2 ⊢
    exact ⟨f2, q2, f3, q3, T, h1, h2⟩

theorem step_told (x : Fin P) {f2 q2 f3 q3 : Nat → Nat} {s : Four P} (T : Told f2 q2 f3 q3 s) :
    ∃ a2 b2 a3 b3, Told a2 b2 a3 b3 (stepF kP x s) ∧ Gives 56 #[.agg (er x), .agg (pw2 f2 q2), .agg (pw2 f3 q3)] (.tuple #[.agg (pw2 a2 b2), .agg (pw2 a3 b3)]) :=
  ⟨_, _, _, _, told_bytes (stepF kP x s), fun w => step_any x s.x2 s.z2 s.x3 s.z3 f2 q2 f3 q3 T.l1 T.l2 T.l3 T.l4 T.x2 T.z2 T.x3 T.z3 w⟩

theorem round_is (u : Fin P) (d : Nat) (s : Four P) : (if d = 1 then swapF (stepF kP u (if d = 1 then swapF s else s)) else stepF kP u (if d = 1 then swapF s else s)) = roundF kP u d s := by
  unfold roundF
  by_cases e : d = 1
  · simp only [e, if_true]
  · simp only [e, if_false]

theorem byteAt_zero : byteAt 0 = fun _ => 0 := funext fun i => by unfold byteAt; rw [Nat.zero_div]
theorem tk_zero : tk (fun _ => 0) = (0 : Fin P).val := by
  rw [← byteAt_zero, tk_byteAt P_pos]
  rfl
theorem tk_one : tk (byteAt 1) = (1 : Fin P).val := by
  rw [tk_byteAt (by have := P_big; omega), val_one]
theorem start_told {f : Nat → Nat} (hf : ∀ i, f i < 256) {u : Fin P} (hu : tk f = u.val) : Told (byteAt 1) (fun _ => 0) f (byteAt 1) (startF u) := ⟨byteAt_lt 1, fun _ => by omega, hf, byteAt_lt 1, tk_one, tk_zero, hu, tk_one⟩

theorem invF {g : Nat → Nat} (hg : ∀ i, g i < 256) {z : Fin P} (h : tk g = z.val) : Gives 57 #[B32 g] (B32 (byteAt (ivP z).val)) := fun w => invV hg h (ivP_val z) w
theorem mulF {f : Nat → Nat} (hf : ∀ i, f i < 256) {x y : Fin P} (h : tk f = x.val) : Gives 39 #[B32 f, B32 (byteAt y.val)] (B32 (byteAt (x * y).val)) := fun w => mulV hf (byteAt_lt _) h (tk_of y) (val_mul x y) w
theorem lad_is (N : Nat) (u : Fin P) : (ladF kP u N 255 255).x2 * ivP (ladF kP u N 255 255).z2 = lad N u := by
  unfold lad out
  rw [iv_C]
theorem ladF_next (u : Fin P) (N i : Nat) : ladF kP u N 255 (i + 1) = roundF kP u (N / 2 ^ (255 - (i + 1)) % 2) (ladF kP u N 255 i) := rfl
theorem run_pair1 {o : Oper} {a : Act} {w : World} (x : Operand) (ho : o.op = .build 78 #[(0, x)]) (f : Nat → Nat) (hx : a.eval x = B32 f) : (execOp a.eval o).run Try.prog w = .ok (.value (.agg (pw2 f (fun _ => 0)))) w := by
  have e : Try.prog.built 78 (Array.map (fun (x : Nat × Operand) => (x.1, a.eval x.2)) #[(0, x)]).toList = some (pw2 f (fun _ => 0)) := by simpa [hx] using built_pair1 f
  unfold execOp
  simp only [ho, Sem.run_bind, run_build w 78 _ _ e, Result.andThen_ok, Sem.run_pure]

end Curve
end Go.Proofs.Ytnopjjkijedpeaa
