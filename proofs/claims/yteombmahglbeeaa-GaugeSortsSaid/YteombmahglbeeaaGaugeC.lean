/- Package gauge: Rate, and the document's own; pick; what is added to a smooth measure. -/
import Derived.Test.YteombmahglbeeaaGaugeB
import Derived.Test.YteombmahglbeeaaFloOps
namespace Go.Proofs.Yteombmahglbeeaa
namespace Gauge
open Go.ChangeShapes Go.WideShapes Go.ChangeAt Go.RowKit
open Num Mem Fl

theorem fop {x y r : Nat} (op : BinOp) (t : TypeId) (h : floatBits op .f64 x y = some r) : ∀ w, (binOp op t (.float .f64 x) (.float .f64 y)).run Try.prog w = .ok (.float .f64 r) w := fun w => run_float_arith w op t .f64 x y r h
theorem finf (w : World) : (callFunc 28 #[.int .u64 9218868437227405312]).run Try.prog w = .ok (.value (.float .f64 9218868437227405312)) w := ffrom 9218868437227405312 w
set_option maxRecDepth 100000 in
theorem inf_any (w : World) : Calls Try.prog 18 #[.int .i64 1] w fun e w' => e = .returned (.float .f64 9218868437227405312) ∧ w = w' := by
  have h := finf
  go_enter Try.func18, Try.ntmps18
  go_wp2
  go_ret
  exact ⟨rfl, rfl⟩

end Gauge
end Go.Proofs.Yteombmahglbeeaa
