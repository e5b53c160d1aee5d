/- Layer 16 (gauge): 'alive' of the statements. -/
import Derived.Test.YteombmahglbeeaaGaugeRef
import Derived.Test.YteombmahglbeeaaOps
namespace Go.Proofs.Yteombmahglbeeaa
namespace Gauge
open Go.ChangeShapes Go.WideShapes Go.ChangeAt Go.RowKit
open Num Mem Words Chacha Aead Poly Quiet Fl Ops

set_option maxRecDepth 100000 in
theorem copysign_c (w : World) : Calls Try.prog 15 #[.float .f64 0, .float .f64 13830554455654793216] w fun e w' => e = .returned (.float .f64 9223372036854775808) ∧ w = w' := by
  have h1 : ∀ w, (callFunc 29 #[.float .f64 0]).run Try.prog w = .ok (.value (.int .u64 0)) w := fun w => fbits 0 w
  have h2 : ∀ w, (callFunc 29 #[.float .f64 13830554455654793216]).run Try.prog w = .ok (.value (.int .u64 13830554455654793216)) w := fun w => fbits 13830554455654793216 w
  have h3 : bits .andNot .u64 0 9223372036854775808 = 0 := by decide +kernel
  have h4 : bits .and .u64 13830554455654793216 9223372036854775808 = 9223372036854775808 := by decide +kernel
  have h5 : bits .or .u64 0 9223372036854775808 = 9223372036854775808 := by decide +kernel
  have h6 : ∀ w, (callFunc 28 #[.int .u64 9223372036854775808]).run Try.prog w = .ok (.value (.float .f64 9223372036854775808)) w := fun w => ffrom 9223372036854775808 w
  go_enter Try.func15, Try.ntmps15
  go_wp2
  go_ret
  exact ⟨rfl, rfl⟩
set_option maxRecDepth 100000 in
theorem rate_00 (w : World) : Calls Try.prog 16 #[.int .u64 0, .int .i64 0] w fun e w' => e = .returned (.tuple #[.float .f64 NAN, .int .i64 0]) ∧ w = w' := by
  have C1 := Lib.hid none_any
  go_enter Try.func16, Try.ntmps16
  go_wp2_with fail
  refine (C1.out _).mono ?_
  rintro e w' ⟨rfl, rfl⟩
  go_wp2_with fail
  go_ret2
  exact ⟨rfl, rfl⟩
set_option maxRecDepth 100000 in
theorem rate_3 (w : World) : Calls Try.prog 16 #[.int .u64 3, .int .i64 1000] w fun e w' => e = .returned (.tuple #[.float .f64 4613937818241073152, .int .i64 0]) ∧ w = w' := by
  have h1 : floatOfInt .f64 3 = 4613937818241073152 := by decide +kernel
  have h2 : floatOfInt .f64 1000 = 4652007308841189376 := by decide +kernel
  have F1 := fop .mul 25 (show floatBits .mul .f64 4613937818241073152 4652007308841189376 = some 4658815484840378368 by decide +kernel)
  have F2 := fop .quo 25 (show floatBits .quo .f64 4658815484840378368 4652007308841189376 = some 4613937818241073152 by decide +kernel)
  go_enter Try.func16, Try.ntmps16
  go_wp2_with fail
  go_ret2
  exact ⟨rfl, rfl⟩
def g1 : G := ⟨1, 0, 4620693217682128896, 4620693217682128896, 4620693217682128896⟩
def g2 : G := ⟨2, 0, 4620693217682128896, 4625196817309499392, 4621256167635550208⟩
def g3 : G := ⟨2, 1, 4620693217682128896, 4625196817309499392, 4621256167635550208⟩
def zeroG : G := ⟨0, 0, 0, 0, 0⟩
theorem ok_zero : zeroG.ok := ⟨⟨by decide, by decide⟩, ⟨by decide, by decide⟩, ⟨by decide, by decide⟩⟩
theorem ok_g1 : g1.ok := ⟨⟨by decide, by decide⟩, ⟨by decide, by decide⟩, ⟨by decide, by decide⟩⟩
theorem ok_g2 : g2.ok := ⟨⟨by decide, by decide⟩, ⟨by decide, by decide⟩, ⟨by decide, by decide⟩⟩
theorem n1 : note zeroG 4620693217682128896 = g1 := by unfold note; rw [if_pos (by decide), if_pos (show zeroG.c = 0 from rfl)]; rfl
theorem n2 : note g1 4625196817309499392 = g2 := by
  unfold note
  rw [if_pos (by decide), if_neg (by decide)]
  rw [show least g1.lo 4625196817309499392 = 4620693217682128896 by decide +kernel, show greatest g1.hi 4625196817309499392 = 4625196817309499392 by decide +kernel, show mv g1.sm 4625196817309499392 = 4621256167635550208 by decide +kernel]
  rfl
theorem n3 : note g2 9218868437227405312 = g3 := by unfold note; rw [if_neg (by decide)]; rfl
theorem a1 (w : World) : Calls Try.prog 17 #[.agg #[.int .u64 0, .int .u64 0, .float .f64 0, .float .f64 0, .float .f64 0], .float .f64 4620693217682128896] w fun e w' => e = .returned (.agg #[.int .u64 1, .int .u64 0, .float .f64 4620693217682128896, .float .f64 4620693217682128896, .float .f64 4620693217682128896]) ∧ Below w.heap.size w w' := by
  have h := note_any zeroG ok_zero (by decide) (by decide) 4620693217682128896 (by decide) w
  rw [n1] at h
  exact h
theorem a2 (w : World) : Calls Try.prog 17 #[.agg #[.int .u64 1, .int .u64 0, .float .f64 4620693217682128896, .float .f64 4620693217682128896, .float .f64 4620693217682128896], .float .f64 4625196817309499392] w fun e w' => e = .returned (.agg #[.int .u64 2, .int .u64 0, .float .f64 4620693217682128896, .float .f64 4625196817309499392, .float .f64 4621256167635550208]) ∧ Below w.heap.size w w' := by
  have h := note_any g1 ok_g1 (by decide) (by decide) 4625196817309499392 (by decide) w
  rw [n2] at h
  exact h
theorem a3 (w : World) : Calls Try.prog 17 #[.agg #[.int .u64 2, .int .u64 0, .float .f64 4620693217682128896, .float .f64 4625196817309499392, .float .f64 4621256167635550208], .float .f64 9218868437227405312] w fun e w' => e = .returned (.agg #[.int .u64 2, .int .u64 1, .float .f64 4620693217682128896, .float .f64 4625196817309499392, .float .f64 4621256167635550208]) ∧ Below w.heap.size w w' := by
  have h := note_any g2 ok_g2 (by decide) (by decide) 9218868437227405312 (by decide) w
  rw [n3] at h
  exact h
theorem eq3 (w : World) : (Op.equalIn 10000 38 (.agg #[.int .u64 2, .int .u64 1, .float .f64 4620693217682128896, .float .f64 4625196817309499392, .float .f64 4621256167635550208]) (.agg #[.int .u64 2, .int .u64 1, .float .f64 4620693217682128896, .float .f64 4625196817309499392, .float .f64 4621256167635550208])).run Try.prog w = .ok true w := by kernel_rfl
set_option maxRecDepth 100000 in
set_option maxHeartbeats 2000000 in
theorem alive_any (w : World) : Calls Try.prog 5 #[] w fun e w' => e = .returned (.bool true) ∧ Below w.heap.size w w' := by
  have H1 := Lib.hid copysign_c
  have H2 := Lib.hid rate_00
  have H3 := Lib.hid rate_3
  have H4 := Lib.hid inf_any
  have H5 := Lib.hid (show ∀ w, Calls Try.prog 14 #[.float .f64 9223372036854775808, .float .f64 0] w fun e w' => e = .returned (.int .i64 (-1)) ∧ w = w' from fun w => order_any 9223372036854775808 0 (by decide) (by decide) w)
  have H6 := Lib.hid (show ∀ w, Calls Try.prog 19 #[.float .f64 0, .float .f64 9223372036854775808] w fun e w' => e = .returned (.float .f64 9223372036854775808) ∧ w = w' from fun w => least_any 0 9223372036854775808 (by decide) (by decide) w)
  have H7 := Lib.hid (show ∀ w, Calls Try.prog 13 #[.float .f64 9223372036854775808, .float .f64 9223372036854775808] w fun e w' => e = .returned (.bool true) ∧ w = w' from fun w => same_any 9223372036854775808 9223372036854775808 (by decide) (by decide) w)
  have q1 : (FloatKind.f64.format.order NAN NAN != some .eq) = true := by decide +kernel
  have q2 : (FloatKind.f64.format.order 4613937818241073152 4613937818241073152 == some .eq) = true := by decide +kernel
  go_enter Try.func5, Try.ntmps5
  go_wp2_with fail
  refine (H1.out _).mono ?_
  rintro e w1 ⟨rfl, rfl⟩
  go_wp2_with fail
  refine (H2.out _).mono ?_
  rintro e w1 ⟨rfl, rfl⟩
  go_wp2_with fail
  refine (H3.out _).mono ?_
  rintro e w1 ⟨rfl, rfl⟩
  go_wp2_with fail
  refine (a1 _).mono ?_
  rintro e w1 ⟨rfl, hb⟩
  have KB := Lib.hid hb
  clear hb
  go_wp2_with fail
  refine (a2 _).mono ?_
  rintro e w2 ⟨rfl, hb⟩
  replace KB := Lib.hid (below_trans KB.out hb)
  clear hb
  go_wp2_with fail
  refine (H4.out _).mono ?_
  rintro e w3 ⟨rfl, rfl⟩
  go_wp2_with fail
  refine (a3 _).mono ?_
  rintro e w4 ⟨rfl, hb⟩
  replace KB := Lib.hid (below_trans KB.out hb)
  clear hb
  go_upto_region 5 with (refine wpList_store_row rfl 38 (.tmp 6) (.tmp 20) rfl w4.heap.size #[.int .u64 2, .int .u64 1, .float .f64 4620693217682128896, .float .f64 4625196817309499392, .float .f64 4621256167635550208] rfl rfl 38 _ (Whole.new _ _ _) (by kernel_rfl) rfl (by simp [Value.oneCell']) ?_)
  try simp only [Act.put]
  refine cut_world (fun U => GLies 38 U w4.heap.size 2 1 4620693217682128896 4625196817309499392 4621256167635550208 ∧ Below w.heap.size w U) ⟨setRow_heap _ _ _ _ _ _ (Whole.new _ _ _), below_setRow (below_alloc KB.out _) KB.out.size _⟩ ?_
  clear KB
  generalize w4.heap.size = B4
  rintro U ⟨kl, kb⟩
  have KB := Lib.hid kb
  have k0 := kl.c0
  have k1 := kl.c1
  have k2 := kl.c2
  have k3 := kl.c3
  have k4 := kl.c4
  clear kl kb
  go_wp2_with fail
  refine (H5.out _).mono ?_
  rintro e w5 ⟨rfl, rfl⟩
  go_wp2_with fail
  refine (H6.out _).mono ?_
  rintro e w5 ⟨rfl, rfl⟩
  go_wp2_with fail
  refine (H7.out _).mono ?_
  rintro e w5 ⟨rfl, rfl⟩
  go_wp2_with (refine wpList_value_if (by rfl) (.bool true) (run_eql_op 38 (.tmp 48) (.tmp 49) _ rfl _ _ rfl rfl true (by kernel_rfl) eq3 _) ?_)
  go_ret
  exact ⟨rfl, KB.out⟩
end Gauge
end Go.Proofs.Yteombmahglbeeaa
