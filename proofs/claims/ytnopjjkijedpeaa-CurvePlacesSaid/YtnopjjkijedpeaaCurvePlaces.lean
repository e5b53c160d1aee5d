/- The walk of 'CurvePlaces'. -/
import Derived.Test.YtnopjjkijedpeaaCurveAlive
namespace Go.Proofs.Ytnopjjkijedpeaa
namespace CurvePlaces
open Go.ChangeShapes Go.WideShapes Go.ChangeAt Go.RowKit
open Num Mem Words Radix FieldN Chacha Quiet Go.Proofs.Ytnopjjkijedpeaa.Field Edwards Curve

set_option maxRecDepth 100000 in
set_option maxHeartbeats 4000000 in
theorem core (s f hi r1 m2 rf m3 cs m4 rx cc N0 N1 ls z1 z2 : Nat → Nat) (c1 : Gives 30 #[B32 s, B32 f] (B32 r1)) (c2 : Gives 30 #[B32 s, B32 hi] (B32 m2)) (c3 : Gives 13 #[B32 f] (B32 rf)) (c4 : Gives 30 #[B32 s, B32 rf] (B32 m3)) (c5 : Gives 29 #[B32 s] (B32 cs)) (c6 : Gives 30 #[B32 cs, B32 f] (B32 m4)) (c7 : Gives 13 #[B32 r1] (B32 rx)) (c8 : Gives 29 #[B32 cs] (B32 cc)) (e1 : ∀ w, (Op.equalIn 10000 22 (.agg (byteCells m2 32).toArray) (.agg (byteCells r1 32).toArray)).run Try.prog w = .ok true w) (e2 : ∀ w, (Op.equalIn 10000 22 (.agg (byteCells m3 32).toArray) (.agg (byteCells r1 32).toArray)).run Try.prog w = .ok true w) (e3 : ∀ w, (Op.equalIn 10000 22 (.agg (byteCells m4 32).toArray) (.agg (byteCells r1 32).toArray)).run Try.prog w = .ok true w) (e4 : ∀ w, (Op.equalIn 10000 22 (.agg (byteCells rx 32).toArray) (.agg (byteCells r1 32).toArray)).run Try.prog w = .ok true w) (e5 : ∀ w, (Op.equalIn 10000 22 (.agg (byteCells cc 32).toArray) (.agg (byteCells cs 32).toArray)).run Try.prog w = .ok true w) (cl : Gives 12 #[B32 N0, B32 N1] (B32 ls)) (d1 : Gives 36 #[B32 s, B32 N1] (.tuple #[B32 z1, .int .i64 30])) (d2 : Gives 36 #[B32 s, B32 ls] (.tuple #[B32 z2, .int .i64 30]))
    (b0 : Try.prog.built 22 [] = some (byteCells N0 32).toArray) (b1 : Try.prog.built 22 [(0, .int .u8 1)] = some (byteCells N1 32).toArray) (u v : Nat) (hu : f 31 = u) (hx : bits .xor .u8 (u : Int) 128 = (v : Int)) (hh : byteCells (fun i => if i = 31 then v else f i) 32 = byteCells hi 32) (w : World) :
    Calls Try.prog 9 #[B32 s, B32 f] w fun e w' => e = .returned (.bool true) ∧ Below w.heap.size w w' := by
  replace c1 := Lib.hid c1
  replace c2 := Lib.hid c2
  replace c3 := Lib.hid c3
  replace c4 := Lib.hid c4
  replace c5 := Lib.hid c5
  replace c6 := Lib.hid c6
  replace c7 := Lib.hid c7
  replace c8 := Lib.hid c8
  replace e1 := Lib.hid e1
  replace e2 := Lib.hid e2
  replace e3 := Lib.hid e3
  replace e4 := Lib.hid e4
  replace e5 := Lib.hid e5
  replace cl := Lib.hid cl
  replace d1 := Lib.hid d1
  replace d2 := Lib.hid d2
  replace b0 := Lib.hid b0
  replace b1 := Lib.hid b1
  replace hx := Lib.hid hx
  replace hh := Lib.hid hh
  replace hu := Lib.hid hu
  have HZ := Lib.hid (show ∀ f, (byteCells f 32).toArray.size = 32 from fun f => by rw [List.size_toArray, byteCells_length])
  unfold B32
  go_enter Try.func9, Try.ntmps9
  go_upto_region 1 with fail
  refine cut_world (fun W => Whole W (w.heap.size) 22 (byteCells s 32).toArray ∧ Whole W (w.heap.size + 1) 22 (byteCells f 32).toArray ∧ Below w.heap.size w W) ⟨?_, ?_, ?_⟩ ?_
  · exact (whole_new _ _ (by simp)).alloc _
  · exact whole_new _ _ (by simp)
  · exact below_alloc (below_alloc (Below.refl _ _) _) _
  rintro W ⟨k1, k2, kb⟩
  have K1 := Lib.hid k1
  have K2 := Lib.hid k2
  have KB := Lib.hid kb
  clear k1 k2 kb
  generalize hB : w.heap.size = B at K1 K2 KB ⊢
  have lt_K1 := K1.out.lt
  have lt_K2 := K2.out.lt
  go_upto_region 2 with (first | (refine wpList_load_row rfl 22 (.tmp 3) rfl (B + 1) rfl 22 (byteCells f 32).toArray (0, 0) _ K2.out rfl rfl (by rw [HZ.out]; kernel_rfl) ?_) | (refine wpList_store_row rfl 22 (.tmp 5) (.tmp 12) rfl W.heap.size (byteCells f 32).toArray rfl rfl 22 _ (Whole.new _ _ _) (by rw [HZ.out]; kernel_rfl) (by rw [HZ.out]; rfl) (bytes_one _ _) ?_))
  refine cut_world (fun X => Whole X (B) 22 (byteCells s 32).toArray ∧ Whole X (B + 1) 22 (byteCells f 32).toArray ∧ Whole X W.heap.size 22 (byteCells f 32).toArray ∧ Below B w X ∧ B + 1 < W.heap.size) ⟨Whole.farRow (K1.out.alloc _) (by omega) _, Whole.farRow (K2.out.alloc _) (by omega) _, setRow_heap _ _ _ _ _ _ (Whole.new _ _ _), below_setRow (KB.out.alloc (by omega) _) (by omega) _, by omega⟩ ?_
  clear KB K1 K2 lt_K1 lt_K2
  generalize W.heap.size = b5
  rintro X1 ⟨kK1, kK2, kK5, kb, loK5⟩
  have K1 := Lib.hid kK1
  have K2 := Lib.hid kK2
  have K5 := Lib.hid kK5
  have KB := Lib.hid kb
  clear kb kK1 kK2 kK5
  have f31 := K5.out.free 31
  have c31 := K5.out.bytes 31 (by omega)
  rw [Nat.zero_add, hu.out] at c31
  have h := K5.out.put 31 (.int .u8 (v : Nat))
  rw [byteCells_set, hh.out] at h
  have H5 := Lib.hid h
  clear h
  go_upto_region 3 with fail
  rw [hx.out]
  have lt_K1 := K1.out.lt
  have lt_K2 := K2.out.lt
  have lt_K5 := K5.out.lt
  refine cut_world (fun X => Whole X B 22 (byteCells s 32).toArray ∧ Whole X (B + 1) 22 (byteCells f 32).toArray ∧ Whole X b5 22 (byteCells hi 32).toArray ∧ Below B w X) ⟨K1.out.far (by simp; omega) _, K2.out.far (by simp; omega) _, H5.out, KB.out.setCell (by simp; omega) _⟩ ?_
  clear K1 K2 K5 KB H5 f31 c31 lt_K1 lt_K2 lt_K5
  rintro Y0 ⟨k1, k2, k5, kb⟩
  have K1 := Lib.hid k1
  have K2 := Lib.hid k2
  have K5 := Lib.hid k5
  have KB := Lib.hid kb
  clear k1 k2 k5 kb
  go_wp2_with (first | (refine wpList_none (by rfl) rfl (byteCells N0 32).toArray b0.out ?_) | (refine wpList_one (by rfl) 0 (.const (.int .u8 1)) rfl (.int .u8 1) rfl (byteCells N1 32).toArray b1.out ?_))
  refine (cl.out _).mono ?_
  rintro e Y1 ⟨rfl, hb⟩
  have lt_K1 := K1.out.lt
  have lt_K2 := K2.out.lt
  have lt_K5 := K5.out.lt
  replace K1 := Lib.hid (K1.out.below hb lt_K1)
  replace K2 := Lib.hid (K2.out.below hb lt_K2)
  replace K5 := Lib.hid (K5.out.below hb lt_K5)
  have hsz := hb.size
  replace KB := Lib.hid (KB.out.trans (hb.mono (by omega)))
  clear hb
  go_upto_region 4 with (refine wpList_store_row rfl 22 (.tmp 6) (.tmp 19) rfl Y1.heap.size (byteCells ls 32).toArray rfl rfl 22 _ (Whole.new _ _ _) (by rw [HZ.out]; kernel_rfl) (by rw [HZ.out]; rfl) (bytes_one _ _) ?_)
  refine cut_world (fun X => Whole X (B) 22 (byteCells s 32).toArray ∧ Whole X (B + 1) 22 (byteCells f 32).toArray ∧ Whole X (b5) 22 (byteCells hi 32).toArray ∧ Whole X Y1.heap.size 22 (byteCells ls 32).toArray ∧ Below B w X ∧ B + 1 < Y1.heap.size) ⟨Whole.farRow (K1.out.alloc _) (by omega) _, Whole.farRow (K2.out.alloc _) (by omega) _, Whole.farRow (K5.out.alloc _) (by omega) _, setRow_heap _ _ _ _ _ _ (Whole.new _ _ _), below_setRow (KB.out.alloc (by omega) _) (by omega) _, by omega⟩ ?_
  clear KB K1 K2 K5 lt_K1 lt_K2 lt_K5
  generalize Y1.heap.size = b6
  rintro X2 ⟨kK1, kK2, kK5, kK6, kb, loK6⟩
  have K1 := Lib.hid kK1
  have K2 := Lib.hid kK2
  have K5 := Lib.hid kK5
  have K6 := Lib.hid kK6
  have KB := Lib.hid kb
  clear kb kK1 kK2 kK5 kK6
  go_wp2_with (first | (refine wpList_load_row rfl 22 (.tmp 2) rfl (B) rfl 22 (byteCells s 32).toArray (0, 0) _ K1.out rfl rfl (by rw [HZ.out]; kernel_rfl) ?_) | (refine wpList_load_row rfl 22 (.tmp 3) rfl (B + 1) rfl 22 (byteCells f 32).toArray (0, 0) _ K2.out rfl rfl (by rw [HZ.out]; kernel_rfl) ?_))
  clear hsz
  refine (c1.out _).mono ?_
  rintro e Y2 ⟨rfl, hb⟩
  have lt_K1 := K1.out.lt
  have lt_K2 := K2.out.lt
  have lt_K5 := K5.out.lt
  have lt_K6 := K6.out.lt
  replace K1 := Lib.hid (K1.out.below hb lt_K1)
  replace K2 := Lib.hid (K2.out.below hb lt_K2)
  replace K5 := Lib.hid (K5.out.below hb lt_K5)
  replace K6 := Lib.hid (K6.out.below hb lt_K6)
  have hsz := hb.size
  replace KB := Lib.hid (KB.out.trans (hb.mono (by omega)))
  clear hb
  go_upto_region 5 with (refine wpList_store_row rfl 22 (.tmp 7) (.tmp 22) rfl Y2.heap.size (byteCells r1 32).toArray rfl rfl 22 _ (Whole.new _ _ _) (by rw [HZ.out]; kernel_rfl) (by rw [HZ.out]; rfl) (bytes_one _ _) ?_)
  refine cut_world (fun X => Whole X (B) 22 (byteCells s 32).toArray ∧ Whole X (B + 1) 22 (byteCells f 32).toArray ∧ Whole X (b5) 22 (byteCells hi 32).toArray ∧ Whole X (b6) 22 (byteCells ls 32).toArray ∧ Whole X Y2.heap.size 22 (byteCells r1 32).toArray ∧ Below B w X ∧ B + 1 < Y2.heap.size) ⟨Whole.farRow (K1.out.alloc _) (by omega) _, Whole.farRow (K2.out.alloc _) (by omega) _, Whole.farRow (K5.out.alloc _) (by omega) _, Whole.farRow (K6.out.alloc _) (by omega) _, setRow_heap _ _ _ _ _ _ (Whole.new _ _ _), below_setRow (KB.out.alloc (by omega) _) (by omega) _, by omega⟩ ?_
  clear KB K1 K2 K5 K6 lt_K1 lt_K2 lt_K5 lt_K6
  generalize Y2.heap.size = b7
  rintro X3 ⟨kK1, kK2, kK5, kK6, kK7, kb, loK7⟩
  have K1 := Lib.hid kK1
  have K2 := Lib.hid kK2
  have K5 := Lib.hid kK5
  have K6 := Lib.hid kK6
  have K7 := Lib.hid kK7
  have KB := Lib.hid kb
  clear kb kK1 kK2 kK5 kK6 kK7
  go_wp2_with (first | (refine wpList_load_row rfl 22 (.tmp 2) rfl (B) rfl 22 (byteCells s 32).toArray (0, 0) _ K1.out rfl rfl (by rw [HZ.out]; kernel_rfl) ?_) | (refine wpList_one (by rfl) 0 (.const (.int .u8 1)) rfl (.int .u8 1) rfl (byteCells N1 32).toArray b1.out ?_))
  clear hsz
  refine (d1.out _).mono ?_
  rintro e Y3 ⟨rfl, hb⟩
  have lt_K1 := K1.out.lt
  have lt_K2 := K2.out.lt
  have lt_K5 := K5.out.lt
  have lt_K6 := K6.out.lt
  have lt_K7 := K7.out.lt
  replace K1 := Lib.hid (K1.out.below hb lt_K1)
  replace K2 := Lib.hid (K2.out.below hb lt_K2)
  replace K5 := Lib.hid (K5.out.below hb lt_K5)
  replace K6 := Lib.hid (K6.out.below hb lt_K6)
  replace K7 := Lib.hid (K7.out.below hb lt_K7)
  have hsz := hb.size
  replace KB := Lib.hid (KB.out.trans (hb.mono (by omega)))
  clear hb
  go_upto_region 6 with (refine wpList_store_row rfl 22 (.tmp 8) (.tmp 27) rfl Y3.heap.size (byteCells z1 32).toArray rfl rfl 22 _ (Whole.new _ _ _) (by rw [HZ.out]; kernel_rfl) (by rw [HZ.out]; rfl) (bytes_one _ _) ?_)
  refine cut_world (fun X => Whole X (B) 22 (byteCells s 32).toArray ∧ Whole X (B + 1) 22 (byteCells f 32).toArray ∧ Whole X (b5) 22 (byteCells hi 32).toArray ∧ Whole X (b6) 22 (byteCells ls 32).toArray ∧ Whole X (b7) 22 (byteCells r1 32).toArray ∧ Whole X Y3.heap.size 22 (byteCells z1 32).toArray ∧ Below B w X ∧ B + 1 < Y3.heap.size) ⟨Whole.farRow (K1.out.alloc _) (by omega) _, Whole.farRow (K2.out.alloc _) (by omega) _, Whole.farRow (K5.out.alloc _) (by omega) _, Whole.farRow (K6.out.alloc _) (by omega) _, Whole.farRow (K7.out.alloc _) (by omega) _, setRow_heap _ _ _ _ _ _ (Whole.new _ _ _), below_setRow (KB.out.alloc (by omega) _) (by omega) _, by omega⟩ ?_
  clear KB K1 K2 K5 K6 K7 lt_K1 lt_K2 lt_K5 lt_K6 lt_K7
  generalize Y3.heap.size = b8
  rintro X4 ⟨kK1, kK2, kK5, kK6, kK7, kK8, kb, loK8⟩
  have K1 := Lib.hid kK1
  have K2 := Lib.hid kK2
  have K5 := Lib.hid kK5
  have K6 := Lib.hid kK6
  have K7 := Lib.hid kK7
  have K8 := Lib.hid kK8
  have KB := Lib.hid kb
  clear kb kK1 kK2 kK5 kK6 kK7 kK8
  go_wp2_with (first | (refine wpList_load_row rfl 22 (.tmp 2) rfl (B) rfl 22 (byteCells s 32).toArray (0, 0) _ K1.out rfl rfl (by rw [HZ.out]; kernel_rfl) ?_) | (refine wpList_load_row rfl 22 (.tmp 6) rfl (b6) rfl 22 (byteCells ls 32).toArray (0, 0) _ K6.out rfl rfl (by rw [HZ.out]; kernel_rfl) ?_))
  clear hsz
  refine (d2.out _).mono ?_
  rintro e Y4 ⟨rfl, hb⟩
  have lt_K1 := K1.out.lt
  have lt_K2 := K2.out.lt
  have lt_K5 := K5.out.lt
  have lt_K6 := K6.out.lt
  have lt_K7 := K7.out.lt
  have lt_K8 := K8.out.lt
  replace K1 := Lib.hid (K1.out.below hb lt_K1)
  replace K2 := Lib.hid (K2.out.below hb lt_K2)
  replace K5 := Lib.hid (K5.out.below hb lt_K5)
  replace K6 := Lib.hid (K6.out.below hb lt_K6)
  replace K7 := Lib.hid (K7.out.below hb lt_K7)
  replace K8 := Lib.hid (K8.out.below hb lt_K8)
  have hsz := hb.size
  replace KB := Lib.hid (KB.out.trans (hb.mono (by omega)))
  clear hb
  go_upto_region 7 with (refine wpList_store_row rfl 22 (.tmp 10) (.tmp 33) rfl Y4.heap.size (byteCells z2 32).toArray rfl rfl 22 _ (Whole.new _ _ _) (by rw [HZ.out]; kernel_rfl) (by rw [HZ.out]; rfl) (bytes_one _ _) ?_)
  refine cut_world (fun X => Whole X (B) 22 (byteCells s 32).toArray ∧ Whole X (B + 1) 22 (byteCells f 32).toArray ∧ Whole X (b5) 22 (byteCells hi 32).toArray ∧ Whole X (b6) 22 (byteCells ls 32).toArray ∧ Whole X (b7) 22 (byteCells r1 32).toArray ∧ Whole X (b8) 22 (byteCells z1 32).toArray ∧ Whole X Y4.heap.size 22 (byteCells z2 32).toArray ∧ Below B w X ∧ B + 1 < Y4.heap.size) ⟨Whole.farRow (K1.out.alloc _) (by omega) _, Whole.farRow (K2.out.alloc _) (by omega) _, Whole.farRow (K5.out.alloc _) (by omega) _, Whole.farRow (K6.out.alloc _) (by omega) _, Whole.farRow (K7.out.alloc _) (by omega) _, Whole.farRow (K8.out.alloc _) (by omega) _, setRow_heap _ _ _ _ _ _ (Whole.new _ _ _), below_setRow (KB.out.alloc (by omega) _) (by omega) _, by omega⟩ ?_
  clear KB K1 K2 K5 K6 K7 K8 lt_K1 lt_K2 lt_K5 lt_K6 lt_K7 lt_K8
  generalize Y4.heap.size = b10
  rintro X5 ⟨kK1, kK2, kK5, kK6, kK7, kK8, kK10, kb, loK10⟩
  have K1 := Lib.hid kK1
  have K2 := Lib.hid kK2
  have K5 := Lib.hid kK5
  have K6 := Lib.hid kK6
  have K7 := Lib.hid kK7
  have K8 := Lib.hid kK8
  have K10 := Lib.hid kK10
  have KB := Lib.hid kb
  clear kb kK1 kK2 kK5 kK6 kK7 kK8 kK10
  have hV : B ≤ X5.heap.size := by have := K1.out.lt; omega
  refine q_start (by kernel_rfl) (by kernel_rfl) ?_
  refine q_call (.bool true) 32 (#[]) (by rfl) (by intro w; go_simp; try with_reducible rfl) (fun x hx => (alive_six x).mono fun e w' ⟨he, hb⟩ => ⟨he, below_trans hx hb⟩) ?_
  try simp only [Act.put, List.setIfInBounds_toArray, List.set_cons_zero, List.set_cons_succ]
  refine q_take _ (by rfl) (by intro w _; go_simp; try with_reducible rfl) ?_
  try simp only [Act.put, List.setIfInBounds_toArray, List.set_cons_zero, List.set_cons_succ]
  refine q_take _ (by rfl) (fun x hx => run_load_in 22 (.tmp 2) rfl (B) rfl (byteCells (s) 32).toArray 32 (by rw [List.size_toArray, byteCells_length]) ((K1.out).below hx (K1.out).lt) rfl rfl (by kernel_rfl)) ?_
  try simp only [Act.put, List.setIfInBounds_toArray, List.set_cons_zero, List.set_cons_succ]
  refine q_take _ (by rfl) (fun x hx => run_load_in 22 (.tmp 5) rfl (b5) rfl (byteCells (hi) 32).toArray 32 (by rw [List.size_toArray, byteCells_length]) ((K5.out).below hx (K5.out).lt) rfl rfl (by kernel_rfl)) ?_
  try simp only [Act.put, List.setIfInBounds_toArray, List.set_cons_zero, List.set_cons_succ]
  refine q_call (B32 m2) 30 (#[B32 s, B32 hi]) (by rfl) (by intro w; go_simp; try with_reducible rfl) (fun x hx => (c2.out x).mono fun e w' ⟨he, hb⟩ => ⟨he, below_trans hx hb⟩) ?_
  try simp only [Act.put, List.setIfInBounds_toArray, List.set_cons_zero, List.set_cons_succ]
  refine q_take _ (by rfl) (fun x hx => run_load_in 22 (.tmp 7) rfl (b7) rfl (byteCells (r1) 32).toArray 32 (by rw [List.size_toArray, byteCells_length]) ((K7.out).below hx (K7.out).lt) rfl rfl (by kernel_rfl)) ?_
  try simp only [Act.put, List.setIfInBounds_toArray, List.set_cons_zero, List.set_cons_succ]
  refine q_take _ (by rfl) (by intro w _; go_simp; simp only [e1.out, Result.andThen_ok]; try with_reducible rfl) ?_
  try simp only [Act.put, List.setIfInBounds_toArray, List.set_cons_zero, List.set_cons_succ]
  refine q_take _ (by rfl) (by intro w _; go_simp; try with_reducible rfl) ?_
  try simp only [Act.put, List.setIfInBounds_toArray, List.set_cons_zero, List.set_cons_succ]
  refine q_take _ (by rfl) (by intro w _; go_simp; try with_reducible rfl) ?_
  try simp only [Act.put, List.setIfInBounds_toArray, List.set_cons_zero, List.set_cons_succ]
  refine q_take _ (by rfl) (fun x hx => run_load_in 22 (.tmp 2) rfl (B) rfl (byteCells (s) 32).toArray 32 (by rw [List.size_toArray, byteCells_length]) ((K1.out).below hx (K1.out).lt) rfl rfl (by kernel_rfl)) ?_
  try simp only [Act.put, List.setIfInBounds_toArray, List.set_cons_zero, List.set_cons_succ]
  refine q_take _ (by rfl) (fun x hx => run_load_in 22 (.tmp 3) rfl (B + 1) rfl (byteCells (f) 32).toArray 32 (by rw [List.size_toArray, byteCells_length]) ((K2.out).below hx (K2.out).lt) rfl rfl (by kernel_rfl)) ?_
  try simp only [Act.put, List.setIfInBounds_toArray, List.set_cons_zero, List.set_cons_succ]
  refine q_call (B32 rf) 13 (#[B32 f]) (by rfl) (by intro w; go_simp; try with_reducible rfl) (fun x hx => (c3.out x).mono fun e w' ⟨he, hb⟩ => ⟨he, below_trans hx hb⟩) ?_
  try simp only [Act.put, List.setIfInBounds_toArray, List.set_cons_zero, List.set_cons_succ]
  refine q_call (B32 m3) 30 (#[B32 s, B32 rf]) (by rfl) (by intro w; go_simp; try with_reducible rfl) (fun x hx => (c4.out x).mono fun e w' ⟨he, hb⟩ => ⟨he, below_trans hx hb⟩) ?_
  try simp only [Act.put, List.setIfInBounds_toArray, List.set_cons_zero, List.set_cons_succ]
  refine q_take _ (by rfl) (fun x hx => run_load_in 22 (.tmp 7) rfl (b7) rfl (byteCells (r1) 32).toArray 32 (by rw [List.size_toArray, byteCells_length]) ((K7.out).below hx (K7.out).lt) rfl rfl (by kernel_rfl)) ?_
  try simp only [Act.put, List.setIfInBounds_toArray, List.set_cons_zero, List.set_cons_succ]
  refine q_take _ (by rfl) (by intro w _; go_simp; simp only [e2.out, Result.andThen_ok]; try with_reducible rfl) ?_
  try simp only [Act.put, List.setIfInBounds_toArray, List.set_cons_zero, List.set_cons_succ]
  refine q_take _ (by rfl) (by intro w _; go_simp; try with_reducible rfl) ?_
  try simp only [Act.put, List.setIfInBounds_toArray, List.set_cons_zero, List.set_cons_succ]
  refine q_take _ (by rfl) (by intro w _; go_simp; try with_reducible rfl) ?_
  try simp only [Act.put, List.setIfInBounds_toArray, List.set_cons_zero, List.set_cons_succ]
  refine q_take _ (by rfl) (fun x hx => run_load_in 22 (.tmp 2) rfl (B) rfl (byteCells (s) 32).toArray 32 (by rw [List.size_toArray, byteCells_length]) ((K1.out).below hx (K1.out).lt) rfl rfl (by kernel_rfl)) ?_
  try simp only [Act.put, List.setIfInBounds_toArray, List.set_cons_zero, List.set_cons_succ]
  refine q_call (B32 cs) 29 (#[B32 s]) (by rfl) (by intro w; go_simp; try with_reducible rfl) (fun x hx => (c5.out x).mono fun e w' ⟨he, hb⟩ => ⟨he, below_trans hx hb⟩) ?_
  try simp only [Act.put, List.setIfInBounds_toArray, List.set_cons_zero, List.set_cons_succ]
  refine q_take _ (by rfl) (fun x hx => run_load_in 22 (.tmp 3) rfl (B + 1) rfl (byteCells (f) 32).toArray 32 (by rw [List.size_toArray, byteCells_length]) ((K2.out).below hx (K2.out).lt) rfl rfl (by kernel_rfl)) ?_
  try simp only [Act.put, List.setIfInBounds_toArray, List.set_cons_zero, List.set_cons_succ]
  refine q_call (B32 m4) 30 (#[B32 cs, B32 f]) (by rfl) (by intro w; go_simp; try with_reducible rfl) (fun x hx => (c6.out x).mono fun e w' ⟨he, hb⟩ => ⟨he, below_trans hx hb⟩) ?_
  try simp only [Act.put, List.setIfInBounds_toArray, List.set_cons_zero, List.set_cons_succ]
  refine q_take _ (by rfl) (fun x hx => run_load_in 22 (.tmp 7) rfl (b7) rfl (byteCells (r1) 32).toArray 32 (by rw [List.size_toArray, byteCells_length]) ((K7.out).below hx (K7.out).lt) rfl rfl (by kernel_rfl)) ?_
  try simp only [Act.put, List.setIfInBounds_toArray, List.set_cons_zero, List.set_cons_succ]
  refine q_take _ (by rfl) (by intro w _; go_simp; simp only [e3.out, Result.andThen_ok]; try with_reducible rfl) ?_
  try simp only [Act.put, List.setIfInBounds_toArray, List.set_cons_zero, List.set_cons_succ]
  refine q_take _ (by rfl) (by intro w _; go_simp; try with_reducible rfl) ?_
  try simp only [Act.put, List.setIfInBounds_toArray, List.set_cons_zero, List.set_cons_succ]
  refine q_take _ (by rfl) (by intro w _; go_simp; try with_reducible rfl) ?_
  try simp only [Act.put, List.setIfInBounds_toArray, List.set_cons_zero, List.set_cons_succ]
  refine q_take _ (by rfl) (fun x hx => run_load_in 22 (.tmp 7) rfl (b7) rfl (byteCells (r1) 32).toArray 32 (by rw [List.size_toArray, byteCells_length]) ((K7.out).below hx (K7.out).lt) rfl rfl (by kernel_rfl)) ?_
  try simp only [Act.put, List.setIfInBounds_toArray, List.set_cons_zero, List.set_cons_succ]
  refine q_call (B32 rx) 13 (#[B32 r1]) (by rfl) (by intro w; go_simp; try with_reducible rfl) (fun x hx => (c7.out x).mono fun e w' ⟨he, hb⟩ => ⟨he, below_trans hx hb⟩) ?_
  try simp only [Act.put, List.setIfInBounds_toArray, List.set_cons_zero, List.set_cons_succ]
  refine q_take _ (by rfl) (fun x hx => run_load_in 22 (.tmp 7) rfl (b7) rfl (byteCells (r1) 32).toArray 32 (by rw [List.size_toArray, byteCells_length]) ((K7.out).below hx (K7.out).lt) rfl rfl (by kernel_rfl)) ?_
  try simp only [Act.put, List.setIfInBounds_toArray, List.set_cons_zero, List.set_cons_succ]
  refine q_take _ (by rfl) (by intro w _; go_simp; simp only [e4.out, Result.andThen_ok]; try with_reducible rfl) ?_
  try simp only [Act.put, List.setIfInBounds_toArray, List.set_cons_zero, List.set_cons_succ]
  refine q_take _ (by rfl) (by intro w _; go_simp; try with_reducible rfl) ?_
  try simp only [Act.put, List.setIfInBounds_toArray, List.set_cons_zero, List.set_cons_succ]
  refine q_take _ (by rfl) (by intro w _; go_simp; try with_reducible rfl) ?_
  try simp only [Act.put, List.setIfInBounds_toArray, List.set_cons_zero, List.set_cons_succ]
  refine q_take _ (by rfl) (by intro w _; go_simp; try with_reducible rfl) ?_
  try simp only [Act.put, List.setIfInBounds_toArray, List.set_cons_zero, List.set_cons_succ]
  refine q_take _ (by rfl) (by intro w _; go_simp; try with_reducible rfl) ?_
  try simp only [Act.put, List.setIfInBounds_toArray, List.set_cons_zero, List.set_cons_succ]
  refine q_take _ (by rfl) (by intro w _; go_simp; try with_reducible rfl) ?_
  try simp only [Act.put, List.setIfInBounds_toArray, List.set_cons_zero, List.set_cons_succ]
  refine q_take _ (by rfl) (by intro w _; go_simp; try with_reducible rfl) ?_
  try simp only [Act.put, List.setIfInBounds_toArray, List.set_cons_zero, List.set_cons_succ]
  refine q_take _ (by rfl) (by intro w _; go_simp; try with_reducible rfl) ?_
  try simp only [Act.put, List.setIfInBounds_toArray, List.set_cons_zero, List.set_cons_succ]
  refine q_take _ (by rfl) (by intro w _; go_simp; try with_reducible rfl) ?_
  try simp only [Act.put, List.setIfInBounds_toArray, List.set_cons_zero, List.set_cons_succ]
  refine q_take _ (by rfl) (by intro w _; go_simp; try with_reducible rfl) ?_
  try simp only [Act.put, List.setIfInBounds_toArray, List.set_cons_zero, List.set_cons_succ]
  refine q_take _ (by rfl) (by intro w _; go_simp; try with_reducible rfl) ?_
  try simp only [Act.put, List.setIfInBounds_toArray, List.set_cons_zero, List.set_cons_succ]
  refine q_take _ (by rfl) (fun x hx => run_load_in 22 (.tmp 2) rfl (B) rfl (byteCells (s) 32).toArray 32 (by rw [List.size_toArray, byteCells_length]) ((K1.out).below hx (K1.out).lt) rfl rfl (by kernel_rfl)) ?_
  try simp only [Act.put, List.setIfInBounds_toArray, List.set_cons_zero, List.set_cons_succ]
  refine q_call (B32 cs) 29 (#[B32 s]) (by rfl) (by intro w; go_simp; try with_reducible rfl) (fun x hx => (c5.out x).mono fun e w' ⟨he, hb⟩ => ⟨he, below_trans hx hb⟩) ?_
  try simp only [Act.put, List.setIfInBounds_toArray, List.set_cons_zero, List.set_cons_succ]
  refine q_call (B32 cc) 29 (#[B32 cs]) (by rfl) (by intro w; go_simp; try with_reducible rfl) (fun x hx => (c8.out x).mono fun e w' ⟨he, hb⟩ => ⟨he, below_trans hx hb⟩) ?_
  try simp only [Act.put, List.setIfInBounds_toArray, List.set_cons_zero, List.set_cons_succ]
  refine q_take _ (by rfl) (fun x hx => run_load_in 22 (.tmp 2) rfl (B) rfl (byteCells (s) 32).toArray 32 (by rw [List.size_toArray, byteCells_length]) ((K1.out).below hx (K1.out).lt) rfl rfl (by kernel_rfl)) ?_
  try simp only [Act.put, List.setIfInBounds_toArray, List.set_cons_zero, List.set_cons_succ]
  refine q_call (B32 cs) 29 (#[B32 s]) (by rfl) (by intro w; go_simp; try with_reducible rfl) (fun x hx => (c5.out x).mono fun e w' ⟨he, hb⟩ => ⟨he, below_trans hx hb⟩) ?_
  try simp only [Act.put, List.setIfInBounds_toArray, List.set_cons_zero, List.set_cons_succ]
  refine q_take _ (by rfl) (by intro w _; go_simp; simp only [e5.out, Result.andThen_ok]; try with_reducible rfl) ?_
  try simp only [Act.put, List.setIfInBounds_toArray, List.set_cons_zero, List.set_cons_succ]
  refine q_take _ (by rfl) (by intro w _; go_simp; try with_reducible rfl) ?_
  try simp only [Act.put, List.setIfInBounds_toArray, List.set_cons_zero, List.set_cons_succ]
  refine q_take _ (by rfl) (by intro w _; go_simp; try with_reducible rfl) ?_
  try simp only [Act.put, List.setIfInBounds_toArray, List.set_cons_zero, List.set_cons_succ]
  refine wpQuiet_nil ?_
  intro w' hw'
  go_wp2_with fail
  go_ret
  exact ⟨rfl, by rw [hB]; exact KB.out.trans (hw'.mono hV)⟩

theorem walk (s f : Nat → Nat) (w : World) (hs : ∀ i, s i < 256) (hf : ∀ i, f i < 256) :
    Calls Try.prog 9 #[.agg (byteCells s 32).toArray, .agg (byteCells f 32).toArray] w fun e w' => e = .returned (.bool true) ∧ Below w.heap.size w w' := by
  obtain ⟨u, hu⟩ : ∃ u : Fin P, tk f = u.val := ⟨⟨tk f, tk_lt f⟩, rfl⟩
  have h1 := shared_any s (byteAt 1) hs (byteAt_lt 1) 1 tk_one true ⟨fun _ => mulN_one s hs, fun _ => rfl⟩
  have h2 := shared_any s _ hs (byteAt_lt _) (-1) tk_less true ⟨fun _ => mulN_less s hs, fun _ => rfl⟩
  rw [if_pos rfl] at h1 h2
  have hsub : Gives 12 #[B32 (byteAt 0), B32 (byteAt 1)] (B32 (byteAt ((0 + (P - 1)) % P))) := fun w => subV (byteAt_lt 0) (byteAt_lt 1) (tk_byteAt P_pos) (tk_byteAt (show 1 < P by have := P_big; omega)) rfl w
  have hred : Gives 13 #[B32 f] (B32 (byteAt u.val)) := fun w => redV hf hu w
  have hrx : ∀ v : Fin P, Gives 13 #[B32 (byteAt v.val)] (B32 (byteAt v.val)) := fun v w => redV (byteAt_lt _) (tk_of v) w
  refine core s f (hiF f) _ _ _ _ (clF s) _ _ _ _ _ _ _ _ (mul_any s f hs hf u hu) (mul_any s _ hs (hi_lt hf) u (by rw [tk_hi f hf]; exact hu)) hred (mul_any s _ hs (byteAt_lt _) u (tk_of u)) (clamp_any s hs) (mul_any _ f (clF_lt hs) hf u hu) (hrx _) (clamp_any _ (clF_lt hs))
    (same_of rfl) (same_of rfl) (same_of (by unfold mulN; rw [sk_clamp])) (same_of rfl) (eql32 _ _ (clF_lt (clF_lt hs)) (clF_lt hs) true ⟨fun _ i _ => cl_twice s i, fun _ => rfl⟩) hsub h1 h2 none_built one_built _ (f 31 ^^^ 128) rfl (u8_xor_nat _ 128 (hf 31) (by omega)) rfl w

end CurvePlaces
end Go.Proofs.Ytnopjjkijedpeaa
