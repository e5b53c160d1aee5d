/- Package wheel: == of timers. -/
import Derived.Test.YtgbahkkccpcadaaWhAll
namespace Go.Proofs.Ytgbahkkccpcadaa
namespace Wh
open Go.ChangeShapes Go.WideShapes Go.ChangeAt Go.RowKit Go.Maps
open Num Mem Words Chacha Aead Poly Quiet RowV RowS Ops EqLits Stamp

theorem eqin_tm (d : Nat) (x y : Tm) (w : World) : (Op.equalIn (d + 3) 38 (.agg (tmL x).toArray) (.agg (tmL y).toArray)).run Try.prog w = .ok (decide (x = y)) w := by
  have hd : decide (x = y) = (x.o == y.o && (x.k == y.k && x.t == y.t)) := by
    rw [Bool.eq_iff_iff, decide_eq_true_eq]
    simp only [Bool.and_eq_true, beq_iff_eq]
    exact ⟨fun e => by rw [e]; exact ⟨rfl, rfl, rfl⟩, fun ⟨a, b, c⟩ => tm_ext a b c⟩
  rw [hd]
  have hp : ∀ (z : Tm) (w : World), (part 3 (tmL z).toArray 0).run Try.prog w = .ok (.int .i64 z.o) w ∧ (part 3 (tmL z).toArray 1).run Try.prog w = .ok (.int .i64 z.k) w ∧ (part 2 (tmL z).toArray 2).run Try.prog w = .ok (.int .i64 z.t) w := fun z w => by
    simp [part, isAgg, run_underlying Try.underlying3, run_underlying Try.underlying2, tmL]
  rw [run_equalIn_struct w (d + 2) 38 _ _ (by simp only [Program.fieldsOf, Try.underlying38]) (by kernel_rfl)]
  have e : (Try.prog.fieldsOf 38).toList = [{ name := "Owner", type := 3, offset := 0, embedded := false, tag := "", pkgPath := "", byteOffset := 0 }, { name := "Kind", type := 3, offset := 1, embedded := false, tag := "", pkgPath := "", byteOffset := 8 }, { name := "At", type := 2, offset := 2, embedded := false, tag := "", pkgPath := "", byteOffset := 16 }] := by
    simp only [Program.fieldsOf, Try.underlying38]
  rw [e]
  simp only [Op.eqFields]
  rw [if_pos (by decide), if_pos (by decide), if_pos (by decide)]
  simp only [Sem.run_bind, (hp x _).1, (hp y _).1, Result.andThen_ok, run_equalIn_int w (d + 1) 3 .i64 .i64 _ _ Try.underlying3]
  cases h1 : x.o == y.o
  · simp
  · simp only [Bool.not_true, Bool.false_eq_true, if_false, Bool.true_and, Sem.run_bind, (hp x _).2.1, (hp y _).2.1, Result.andThen_ok, run_equalIn_int w (d + 1) 3 .i64 .i64 _ _ Try.underlying3]
    cases h2 : x.k == y.k
    · simp
    · simp only [Bool.not_true, Bool.false_eq_true, if_false, Bool.true_and, Sem.run_bind, (hp x _).2.2, (hp y _).2.2, Result.andThen_ok, run_equalIn_int w (d + 1) 2 .i64 .i64 _ _ Try.underlying2]
      cases h3 : x.t == y.t <;> simp
theorem eqin_rtm (d : Nat) (x y : Tm) (w : World) : (Op.equalIn (d + 3) 43 (.agg (tmL x).toArray) (.agg (tmL y).toArray)).run Try.prog w = .ok (decide (x = y)) w := by
  have hd : decide (x = y) = (x.o == y.o && (x.k == y.k && x.t == y.t)) := by
    rw [Bool.eq_iff_iff, decide_eq_true_eq]
    simp only [Bool.and_eq_true, beq_iff_eq]
    exact ⟨fun e => by rw [e]; exact ⟨rfl, rfl, rfl⟩, fun ⟨a, b, c⟩ => tm_ext a b c⟩
  rw [hd]
  have hp : ∀ (z : Tm) (w : World), (part 3 (tmL z).toArray 0).run Try.prog w = .ok (.int .i64 z.o) w ∧ (part 3 (tmL z).toArray 1).run Try.prog w = .ok (.int .i64 z.k) w ∧ (part 2 (tmL z).toArray 2).run Try.prog w = .ok (.int .i64 z.t) w := fun z w => by
    simp [part, isAgg, run_underlying Try.underlying3, run_underlying Try.underlying2, tmL]
  rw [run_equalIn_struct w (d + 2) 43 _ _ (by simp only [Program.fieldsOf, Try.underlying43]) (by kernel_rfl)]
  have e : (Try.prog.fieldsOf 43).toList = [{ name := "Owner", type := 3, offset := 0, embedded := false, tag := "", pkgPath := "", byteOffset := 0 }, { name := "Kind", type := 3, offset := 1, embedded := false, tag := "", pkgPath := "", byteOffset := 8 }, { name := "At", type := 2, offset := 2, embedded := false, tag := "", pkgPath := "", byteOffset := 16 }] := by
    simp only [Program.fieldsOf, Try.underlying43]
  rw [e]
  simp only [Op.eqFields]
  rw [if_pos (by decide), if_pos (by decide), if_pos (by decide)]
  simp only [Sem.run_bind, (hp x _).1, (hp y _).1, Result.andThen_ok, run_equalIn_int w (d + 1) 3 .i64 .i64 _ _ Try.underlying3]
  cases h1 : x.o == y.o
  · simp
  · simp only [Bool.not_true, Bool.false_eq_true, if_false, Bool.true_and, Sem.run_bind, (hp x _).2.1, (hp y _).2.1, Result.andThen_ok, run_equalIn_int w (d + 1) 3 .i64 .i64 _ _ Try.underlying3]
    cases h2 : x.k == y.k
    · simp
    · simp only [Bool.not_true, Bool.false_eq_true, if_false, Bool.true_and, Sem.run_bind, (hp x _).2.2, (hp y _).2.2, Result.andThen_ok, run_equalIn_int w (d + 1) 2 .i64 .i64 _ _ Try.underlying2]
      cases h3 : x.t == y.t <;> simp
end Wh
end Go.Proofs.Ytgbahkkccpcadaa
