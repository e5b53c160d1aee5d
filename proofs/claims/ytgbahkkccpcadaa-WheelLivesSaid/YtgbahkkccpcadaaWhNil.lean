/- Package wheel: what a wheel that is nil, or that no call made, answers. -/
import Derived.Test.YtgbahkkccpcadaaAddr
import Derived.WalkMore
namespace Go.Proofs.Ytgbahkkccpcadaa
namespace Wh
open Go.ChangeShapes Go.WideShapes Go.ChangeAt Go.RowKit
open Num Mem Words Chacha Aead Poly Quiet Adr

set_option maxRecDepth 100000 in
theorem none_nil (w : World) : Calls Try.prog 26 #[.pointer none] w fun e w' => e = .returned (.bool true) ∧ w = w' := by
  go_enter Try.func26, Try.ntmps26
  go_wp2_with fail
  go_ret
  exact ⟨rfl, rfl⟩
set_option maxRecDepth 100000 in
theorem none_zero (g : Nat) (x y : Value) (w : World) (h : Whole w g 50 #[x, y, .pointer none]) : Calls Try.prog 26 #[.pointer (some ⟨g, 0, none⟩)] w fun e w' => e = .returned (.bool true) ∧ w = w' := by
  have c2 : w.cell? ⟨g, 2, none⟩ = some (.pointer none) := h.cell 2
  clear h
  go_enter Try.func26, Try.ntmps26
  go_wp2_with fail
  go_ret
  exact ⟨rfl, rfl⟩
set_option maxRecDepth 100000 in
theorem none_some (g s : Nat) (x y : Value) (w : World) (h : Whole w g 50 #[x, y, .pointer (some ⟨s, 0, none⟩)]) : Calls Try.prog 26 #[.pointer (some ⟨g, 0, none⟩)] w fun e w' => e = .returned (.bool false) ∧ w = w' := by
  have c2 : w.cell? ⟨g, 2, none⟩ = some (.pointer (some ⟨s, 0, none⟩)) := h.cell 2
  clear h
  go_enter Try.func26, Try.ntmps26
  go_wp2_with fail
  go_ret
  exact ⟨rfl, rfl⟩
/-- a pointer to a wheel that no call made -/
def No (w : World) (p : Value) : Prop := p = .pointer none ∨ ∃ g x y, p = .pointer (some ⟨g, 0, none⟩) ∧ Whole w g 50 #[x, y, .pointer none]
theorem none_no (p : Value) (w : World) (h : No w p) : Calls Try.prog 26 #[p] w fun e w' => e = .returned (.bool true) ∧ w = w' := by
  rcases h with rfl | ⟨g, x, y, rfl, h⟩
  · exact none_nil w
  · exact none_zero g x y w h
set_option maxRecDepth 100000 in
theorem now_no (p : Value) (w : World) (h : No w p) : Calls Try.prog 14 #[p] w fun e w' => e = .returned (.int .i64 0) ∧ w = w' := by
  have HN := Lib.hid (none_no p w h)
  clear h
  go_enter Try.func14, Try.ntmps14
  go_wp2_with fail
  refine HN.out.mono ?_
  rintro e w1 ⟨rfl, rfl⟩
  go_wp2_with fail
  go_ret
  exact ⟨rfl, rfl⟩
set_option maxRecDepth 100000 in
theorem count_no (p : Value) (w : World) (h : No w p) : Calls Try.prog 13 #[p] w fun e w' => e = .returned (.int .i64 0) ∧ w = w' := by
  have HN := Lib.hid (none_no p w h)
  clear h
  go_enter Try.func13, Try.ntmps13
  go_wp2_with fail
  refine HN.out.mono ?_
  rintro e w1 ⟨rfl, rfl⟩
  go_wp2_with fail
  go_ret
  exact ⟨rfl, rfl⟩
set_option maxRecDepth 100000 in
theorem get_no (p : Value) (o k : Int) (w : World) (h : No w p) : Calls Try.prog 10 #[p, .int .i64 o, .int .i64 k] w fun e w' => e = .returned (.tuple #[.int .i64 0, .bool false]) ∧ w = w' := by
  have HN := Lib.hid (none_no p w h)
  clear h
  go_enter Try.func10, Try.ntmps10
  go_wp2_with fail
  refine HN.out.mono ?_
  rintro e w1 ⟨rfl, rfl⟩
  go_wp2_with fail
  go_ret2
  exact ⟨rfl, rfl⟩
set_option maxRecDepth 100000 in
theorem clear_no (p : Value) (o k : Int) (w : World) (h : No w p) : Calls Try.prog 18 #[p, .int .i64 o, .int .i64 k] w fun e w' => e = .returned (.bool false) ∧ w = w' := by
  have HN := Lib.hid (get_no p o k w h)
  clear h
  go_enter Try.func18, Try.ntmps18
  go_wp2_with fail
  refine HN.out.mono ?_
  rintro e w1 ⟨rfl, rfl⟩
  go_wp2_with fail
  go_ret
  exact ⟨rfl, rfl⟩
set_option maxRecDepth 100000 in
theorem clearAll_no (p : Value) (o : Int) (w : World) (h : No w p) : Calls Try.prog 19 #[p, .int .i64 o] w fun e w' => e = .returned (.int .i64 0) ∧ w = w' := by
  have HN := Lib.hid (none_no p w h)
  clear h
  go_enter Try.func19, Try.ntmps19
  go_wp2_with fail
  refine HN.out.mono ?_
  rintro e w1 ⟨rfl, rfl⟩
  go_wp2_with fail
  go_ret
  exact ⟨rfl, rfl⟩
set_option maxRecDepth 100000 in
theorem set_no (p : Value) (o k t : Int) (w : World) (h : No w p) : Calls Try.prog 17 #[p, .int .i64 o, .int .i64 k, .int .i64 t] w fun e w' => e = .returned (.int .i64 6) ∧ w = w' := by
  have HN := Lib.hid (none_no p w h)
  clear h
  go_enter Try.func17, Try.ntmps17
  go_wp2_with fail
  refine HN.out.mono ?_
  rintro e w1 ⟨rfl, rfl⟩
  go_wp2_with fail
  go_ret
  exact ⟨rfl, rfl⟩
def zeroT : List Value := [.int .i64 0, .int .i64 0, .int .i64 0]
theorem built0T : Try.prog.built 38 [] = some zeroT.toArray := by kernel_rfl
theorem No.below {w w' : World} {p : Value} (h : No w p) (hb : Below w.heap.size w w') : No w' p := by
  rcases h with h | ⟨g, x, y, e, h⟩
  · exact .inl h
  · exact .inr ⟨g, x, y, e, h.below hb h.lt⟩
set_option maxRecDepth 100000 in
theorem next_nil (w : World) : Calls Try.prog 12 #[.pointer none] w fun e w' => e = .returned (.tuple #[.agg zeroT.toArray, .bool false]) ∧ Below w.heap.size w w' := by
  go_enter Try.func12, Try.ntmps12
  go_upto_region 1 with fail
  refine cut_world (fun X => Whole X w.heap.size 38 zeroT.toArray ∧ Below w.heap.size w X) ⟨whole_new _ _ rfl, below_alloc (Below.refl _ _) _⟩ ?_
  rintro X ⟨x1, x2⟩
  have X1 := Lib.hid x1
  have X2 := Lib.hid x2
  have HC := Lib.hid (none_nil X)
  clear x1 x2 
  obtain ⟨Z, hZ⟩ : ∃ Z, zeroT.toArray = Z := ⟨_, rfl⟩
  have HZS := Lib.hid (show Z.size = 3 by rw [← hZ]; rfl)
  have HZO := Lib.hid (show Z.all (·.oneCell') = true by rw [← hZ]; simp [zeroT, Value.oneCell'])
  have HZB := Lib.hid (show Try.prog.built 38 [] = some Z by rw [← hZ]; exact built0T)
  rw [hZ] at X1
  have HZE := Lib.hid hZ
  clear hZ
  generalize hN : w.heap.size = N at X1 X2 ⊢
  go_step3
  go_wp2_with fail
  refine HC.out.mono ?_
  rintro e w1 ⟨rfl, rfl⟩
  go_wp2_with (first | (refine wpList_built0 rfl 38 rfl Z HZB.out ?_) | (refine wpList_store_row rfl 38 (.tmp 2) (.tmp 11) rfl N Z rfl rfl 38 _ X1.out (by rw [HZS.out]; kernel_rfl) rfl HZO.out ?_))
  have hret : Whole (X.setRow N Z) N 38 Z := setRow_heap _ _ _ _ _ _ X1.out
  rw [Exit.noGoto_ret]
  refine bodyPost_ret (Poly.results_cell_tmp rfl _ _ N 38 Z.toList _ rfl (by simpa using hret) rfl rfl (by rw [Array.length_toList, HZS.out]; kernel_rfl)) rfl ?_
  exact ⟨by rw [HZE.out]; simp, by rw [hN]; exact below_setRow X2.out (Nat.le_refl _) _⟩
set_option maxRecDepth 100000 in
theorem next_zero (g : Nat) (x y : Value) (w : World) (h : Whole w g 50 #[x, y, .pointer none]) : Calls Try.prog 12 #[.pointer (some ⟨g, 0, none⟩)] w fun e w' => e = .returned (.tuple #[.agg zeroT.toArray, .bool false]) ∧ Below w.heap.size w w' := by
  go_enter Try.func12, Try.ntmps12
  go_upto_region 1 with fail
  refine cut_world (fun X => Whole X w.heap.size 38 zeroT.toArray ∧ Below w.heap.size w X) ⟨whole_new _ _ rfl, below_alloc (Below.refl _ _) _⟩ ?_
  rintro X ⟨x1, x2⟩
  have X1 := Lib.hid x1
  have X2 := Lib.hid x2
  have HC := Lib.hid (none_zero g x y X (h.below x2 h.lt))
  clear x1 x2 h
  obtain ⟨Z, hZ⟩ : ∃ Z, zeroT.toArray = Z := ⟨_, rfl⟩
  have HZS := Lib.hid (show Z.size = 3 by rw [← hZ]; rfl)
  have HZO := Lib.hid (show Z.all (·.oneCell') = true by rw [← hZ]; simp [zeroT, Value.oneCell'])
  have HZB := Lib.hid (show Try.prog.built 38 [] = some Z by rw [← hZ]; exact built0T)
  rw [hZ] at X1
  have HZE := Lib.hid hZ
  clear hZ
  generalize hN : w.heap.size = N at X1 X2 ⊢
  go_step3
  go_wp2_with fail
  refine HC.out.mono ?_
  rintro e w1 ⟨rfl, rfl⟩
  go_wp2_with (first | (refine wpList_built0 rfl 38 rfl Z HZB.out ?_) | (refine wpList_store_row rfl 38 (.tmp 2) (.tmp 11) rfl N Z rfl rfl 38 _ X1.out (by rw [HZS.out]; kernel_rfl) rfl HZO.out ?_))
  have hret : Whole (X.setRow N Z) N 38 Z := setRow_heap _ _ _ _ _ _ X1.out
  rw [Exit.noGoto_ret]
  refine bodyPost_ret (Poly.results_cell_tmp rfl _ _ N 38 Z.toList _ rfl (by simpa using hret) rfl rfl (by rw [Array.length_toList, HZS.out]; kernel_rfl)) rfl ?_
  exact ⟨by rw [HZE.out]; simp, by rw [hN]; exact below_setRow X2.out (Nat.le_refl _) _⟩
set_option maxRecDepth 100000 in
theorem advance_no (p : Value) (t : Int) (w : World) (h : No w p) : Calls Try.prog 16 #[p, .int .i64 t] w fun e w' => e = .returned (.tuple #[.slice none 0 0, .int .i64 6]) ∧ w = w' := by
  have HN := Lib.hid (none_no p w h)
  clear h
  go_enter Try.func16, Try.ntmps16
  go_wp2_with fail
  refine HN.out.mono ?_
  rintro e w1 ⟨rfl, rfl⟩
  go_wp2_with fail
  go_ret2
  exact ⟨rfl, rfl⟩
end Wh
end Go.Proofs.Ytgbahkkccpcadaa
