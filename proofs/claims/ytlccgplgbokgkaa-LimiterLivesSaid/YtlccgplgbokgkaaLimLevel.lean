/- Package limiter: Level at any limiter; what a limiter says that is none. -/
import Derived.Test.YtlccgplgbokgkaaLimAsk
namespace Go.Proofs.Ytlccgplgbokgkaa
namespace Lim
open Go.ChangeShapes Go.WideShapes Go.ChangeAt Go.RowKit Go.Maps
open Num Mem Words Chacha Aead Poly Adr Ops Quiet Stamp RowV

set_option maxRecDepth 100000 in
theorem allow_nil (s : Bool) (f : Nat → Nat) (t : Int) (w : World) : Calls Try.prog 10 #[.pointer none, .agg (addrL s f).toArray, .int .i64 t] w fun e w' => e = .returned (.tuple #[.bool false, .int .i64 6]) ∧ Below w.heap.size w w' := by
  obtain ⟨A, hA⟩ : ∃ A, addrL s f = A := ⟨_, rfl⟩
  rw [hA]
  clear hA
  go_enter Try.func10, Try.ntmps10
  go_upto_region 1 with fail
  refine cut_world (fun X => Below w.heap.size w X) (below_alloc (Below.refl _ _) _) ?_
  intro X hb
  have HB := Lib.hid hb
  clear hb
  go_wp2_with fail
  refine (none_nil X).mono ?_
  rintro e w1 ⟨rfl, rfl⟩
  go_wp2_with fail
  go_ret2
  exact ⟨rfl, HB.out⟩
set_option maxRecDepth 100000 in
theorem count_nil (w : World) : Calls Try.prog 14 #[.pointer none] w fun e w' => e = .returned (.int .i64 0) ∧ w = w' := by
  go_enter Try.func14, Try.ntmps14
  go_wp2_with fail
  refine (none_nil w).mono ?_
  rintro e w1 ⟨rfl, rfl⟩
  go_wp2_with fail
  go_ret
  exact ⟨rfl, rfl⟩
set_option maxRecDepth 100000 in
theorem allow_zero (g : Nat) (x : Int) (s : Bool) (f : Nat → Nat) (t : Int) (w : World) (h : Whole w g 44 #[.map none, .int .i64 x]) : Calls Try.prog 10 #[.pointer (some ⟨g, 0, none⟩), .agg (addrL s f).toArray, .int .i64 t] w fun e w' => e = .returned (.tuple #[.bool false, .int .i64 6]) ∧ Below w.heap.size w w' := by
  obtain ⟨A, hA⟩ : ∃ A, addrL s f = A := ⟨_, rfl⟩
  rw [hA]
  clear hA
  go_enter Try.func10, Try.ntmps10
  go_upto_region 1 with fail
  refine cut_world (fun X => Whole X g 44 #[.map none, .int .i64 x] ∧ Below w.heap.size w X) (⟨Whole.alloc h _, below_alloc (Below.refl _ _) _⟩) ?_
  rintro X ⟨hx, hb⟩
  have HB := Lib.hid hb
  clear hb
  go_wp2_with fail
  refine (none_zero g x X hx).mono ?_
  rintro e w1 ⟨rfl, rfl⟩
  go_wp2_with fail
  go_ret2
  exact ⟨rfl, HB.out⟩
set_option maxRecDepth 100000 in
theorem count_zero (g : Nat) (x : Int) (w : World) (h : Whole w g 44 #[.map none, .int .i64 x]) : Calls Try.prog 14 #[.pointer (some ⟨g, 0, none⟩)] w fun e w' => e = .returned (.int .i64 0) ∧ w = w' := by
  go_enter Try.func14, Try.ntmps14
  go_wp2_with fail
  refine (none_zero g x w h).mono ?_
  rintro e w1 ⟨rfl, rfl⟩
  go_wp2_with fail
  go_ret
  exact ⟨rfl, rfl⟩
set_option maxRecDepth 100000 in
set_option maxHeartbeats 4000000 in
theorem level_nil (s : Bool) (f : Nat → Nat) (hf : ∀ i, f i < 256) (t : Int) (w : World) :
    Calls Try.prog 12 #[.pointer none, .agg (addrL s f).toArray, .int .i64 t] w fun e w' => e = .returned (.tuple #[.int .i64 0, .bool false]) ∧ Below w.heap.size w w' := by
  obtain ⟨zs, hz, hzs⟩ : ∃ zs : Array Value, (∀ w, (zeroValue 57).run Try.prog w = .ok (.agg zs) w) ∧ zs.size = 18 := ⟨_, zero_pref, pref_size _ _ _⟩
  have HZS := Lib.hid hzs
  have HC := Lib.hid (fun w => placeOf_any s f hf w)
  obtain ⟨M, hM, hMs, hMo⟩ : ∃ cs : Array Value, maskV s f (bitsOf s) = .agg cs ∧ cs.size = 18 ∧ cs.all (·.oneCell') = true := ⟨_, rfl, pref_size _ _ _, pref_one _ _ _⟩
  have HMS := Lib.hid hMs
  have HMO := Lib.hid hMo
  rw [hM] at HC
  obtain ⟨E, hE⟩ : ∃ E, maskE s f (bitsOf s) = E := ⟨_, rfl⟩
  rw [hE] at HC
  clear hzs hf hM hMs hMo hE
  obtain ⟨A, hA⟩ : ∃ A, addrL s f = A := ⟨_, rfl⟩
  have HAS := Lib.hid (show A.toArray.size = 17 from by rw [← hA, addr_size])
  rw [hA] at HC ⊢
  clear hA
  go_enter Try.func12, Try.ntmps12
  go_upto_region 1 with fail
  refine cut_world (fun X => Whole X w.heap.size 25 A.toArray ∧ Below w.heap.size w X) ⟨Whole.new _ _ _, below_alloc (Below.refl _ _) _⟩ ?_
  rintro W ⟨p1, p2⟩
  have P1 := Lib.hid p1
  have P2 := Lib.hid p2
  clear p1 p2
  go_wp2_with (first | (refine wpList_load_row rfl 25 (.tmp 4) rfl w.heap.size rfl 25 A.toArray (0, 0) _ P1.out rfl rfl (by rw [HAS.out]; kernel_rfl) ?_))
  refine (HC.out W).mono ?_
  rintro e w1 ⟨rfl, hb1⟩
  have P2' := Lib.hid (below_trans P2.out hb1)
  clear hb1 P1 P2 HC
  go_upto_region 2 with (first | (refine wpList_store_row rfl 57 (.tmp 8) (.tmp 15) rfl w1.heap.size M rfl rfl 57 _ (Whole.new _ _ zs) (by rw [HMS.out]; kernel_rfl) (by rw [HMS.out, HZS.out]) HMO.out ?_))
  generalize hP : w1.heap.size = P
  have hb2 : Below w1.heap.size w1 ((w1.alloc (.cells zs 57)).setRow P M) := by
    rw [← hP]; exact below_setRow (below_alloc (Below.refl _ _) _) (Nat.le_refl _) _
  refine cut_world (fun X => Whole X P 57 M ∧ Below w.heap.size w X) ⟨by rw [← hP]; exact setRow_heap _ _ _ _ _ _ (Whole.new _ _ zs), below_trans P2'.out hb2⟩ ?_
  clear hb2 P2'
  rintro X ⟨q1, q2⟩
  have HP := Lib.hid q1
  have HX := Lib.hid q2
  have hPw := Lib.hid hP
  clear q1 q2 hP
  go_wp2_with fail
  refine (none_nil X).mono ?_
  rintro e w2 ⟨rfl, rfl⟩
  go_wp2_with fail
  go_ret2
  exact ⟨rfl, HX.out⟩

set_option maxRecDepth 100000 in
set_option maxHeartbeats 4000000 in
theorem level_zero (g : Nat) (x : Int) (s : Bool) (f : Nat → Nat) (hf : ∀ i, f i < 256) (t : Int) (w : World) (h : Whole w g 44 #[.map none, .int .i64 x]) :
    Calls Try.prog 12 #[.pointer (some ⟨g, 0, none⟩), .agg (addrL s f).toArray, .int .i64 t] w fun e w' => e = .returned (.tuple #[.int .i64 0, .bool false]) ∧ Below w.heap.size w w' := by
  obtain ⟨zs, hz, hzs⟩ : ∃ zs : Array Value, (∀ w, (zeroValue 57).run Try.prog w = .ok (.agg zs) w) ∧ zs.size = 18 := ⟨_, zero_pref, pref_size _ _ _⟩
  have HZS := Lib.hid hzs
  have HC := Lib.hid (fun w => placeOf_any s f hf w)
  obtain ⟨M, hM, hMs, hMo⟩ : ∃ cs : Array Value, maskV s f (bitsOf s) = .agg cs ∧ cs.size = 18 ∧ cs.all (·.oneCell') = true := ⟨_, rfl, pref_size _ _ _, pref_one _ _ _⟩
  have HMS := Lib.hid hMs
  have HMO := Lib.hid hMo
  rw [hM] at HC
  obtain ⟨E, hE⟩ : ∃ E, maskE s f (bitsOf s) = E := ⟨_, rfl⟩
  rw [hE] at HC
  clear hzs hf hM hMs hMo hE
  obtain ⟨A, hA⟩ : ∃ A, addrL s f = A := ⟨_, rfl⟩
  have HAS := Lib.hid (show A.toArray.size = 17 from by rw [← hA, addr_size])
  rw [hA] at HC ⊢
  clear hA
  have HG := Lib.hid h
  clear h
  go_enter Try.func12, Try.ntmps12
  go_upto_region 1 with fail
  refine cut_world (fun X => Whole X w.heap.size 25 A.toArray ∧ Below w.heap.size w X) ⟨Whole.new _ _ _, below_alloc (Below.refl _ _) _⟩ ?_
  rintro W ⟨p1, p2⟩
  have P1 := Lib.hid p1
  have P2 := Lib.hid p2
  clear p1 p2
  go_wp2_with (first | (refine wpList_load_row rfl 25 (.tmp 4) rfl w.heap.size rfl 25 A.toArray (0, 0) _ P1.out rfl rfl (by rw [HAS.out]; kernel_rfl) ?_))
  refine (HC.out W).mono ?_
  rintro e w1 ⟨rfl, hb1⟩
  have P2' := Lib.hid (below_trans P2.out hb1)
  clear hb1 P1 P2 HC
  go_upto_region 2 with (first | (refine wpList_store_row rfl 57 (.tmp 8) (.tmp 15) rfl w1.heap.size M rfl rfl 57 _ (Whole.new _ _ zs) (by rw [HMS.out]; kernel_rfl) (by rw [HMS.out, HZS.out]) HMO.out ?_))
  generalize hP : w1.heap.size = P
  have hb2 : Below w1.heap.size w1 ((w1.alloc (.cells zs 57)).setRow P M) := by
    rw [← hP]; exact below_setRow (below_alloc (Below.refl _ _) _) (Nat.le_refl _) _
  refine cut_world (fun X => Whole X P 57 M ∧ Below w.heap.size w X) ⟨by rw [← hP]; exact setRow_heap _ _ _ _ _ _ (Whole.new _ _ zs), below_trans P2'.out hb2⟩ ?_
  clear hb2 P2'
  rintro X ⟨q1, q2⟩
  have HP := Lib.hid q1
  have HX := Lib.hid q2
  have hPw := Lib.hid hP
  clear q1 q2 hP
  go_wp2_with fail
  refine (none_zero g x X (Whole.below HG.out HX.out HG.out.lt)).mono ?_
  rintro e w2 ⟨rfl, rfl⟩
  go_wp2_with fail
  go_ret2
  exact ⟨rfl, HX.out⟩

set_option maxRecDepth 100000 in
set_option maxHeartbeats 4000000 in
theorem level_addr (g b : Nat) (L : List Bk) (last : Int) (D : DataW Unit) (s : Bool) (f : Nat → Nat) (hf : ∀ i, f i < 256) (t : Int) (hr : rightB s f = false) (w : World) (h : LW w g b L last D) :
    Calls Try.prog 12 #[.pointer (some ⟨g, 0, none⟩), .agg (addrL s f).toArray, .int .i64 t] w fun e w' => e = .returned (.tuple #[.int .i64 0, .bool false]) ∧ Below w.heap.size w w' := by
  obtain ⟨zs, hz, hzs⟩ : ∃ zs : Array Value, (∀ w, (zeroValue 57).run Try.prog w = .ok (.agg zs) w) ∧ zs.size = 18 := ⟨_, zero_pref, pref_size _ _ _⟩
  have HZS := Lib.hid hzs
  have HC := Lib.hid (fun w => placeOf_any s f hf w)
  have hEE := mask_ok (s := s) (f := f)
  rw [if_neg (by rw [hr]; decide)] at hEE
  obtain ⟨M, hM, hMs, hMo⟩ : ∃ cs : Array Value, maskV s f (bitsOf s) = .agg cs ∧ cs.size = 18 ∧ cs.all (·.oneCell') = true := ⟨_, rfl, pref_size _ _ _, pref_one _ _ _⟩
  have HMS := Lib.hid hMs
  have HMO := Lib.hid hMo
  rw [hM] at HC
  obtain ⟨E, hE⟩ : ∃ E, maskE s f (bitsOf s) = E := ⟨_, rfl⟩
  rw [hE] at HC hEE
  clear hzs hf hM hMs hMo hE
  obtain ⟨A, hA⟩ : ∃ A, addrL s f = A := ⟨_, rfl⟩
  have HAS := Lib.hid (show A.toArray.size = 17 from by rw [← hA, addr_size])
  rw [hA] at HC ⊢
  clear hA
  have H := Lib.hid h
  have HEE := Lib.hid hEE
  clear h hEE
  obtain rfl := HEE.out
  go_enter Try.func12, Try.ntmps12
  go_upto_region 1 with fail
  refine cut_world (fun X => Whole X w.heap.size 25 A.toArray ∧ Below w.heap.size w X) ⟨Whole.new _ _ _, below_alloc (Below.refl _ _) _⟩ ?_
  rintro W ⟨p1, p2⟩
  have P1 := Lib.hid p1
  have P2 := Lib.hid p2
  clear p1 p2
  go_wp2_with (first | (refine wpList_load_row rfl 25 (.tmp 4) rfl w.heap.size rfl 25 A.toArray (0, 0) _ P1.out rfl rfl (by rw [HAS.out]; kernel_rfl) ?_))
  refine (HC.out W).mono ?_
  rintro e w1 ⟨rfl, hb1⟩
  have P2' := Lib.hid (below_trans P2.out hb1)
  clear hb1 P1 P2 HC
  go_upto_region 2 with (first | (refine wpList_store_row rfl 57 (.tmp 8) (.tmp 15) rfl w1.heap.size M rfl rfl 57 _ (Whole.new _ _ zs) (by rw [HMS.out]; kernel_rfl) (by rw [HMS.out, HZS.out]) HMO.out ?_))
  generalize hP : w1.heap.size = P
  have hb2 : Below w1.heap.size w1 ((w1.alloc (.cells zs 57)).setRow P M) := by
    rw [← hP]; exact below_setRow (below_alloc (Below.refl _ _) _) (Nat.le_refl _) _
  refine cut_world (fun X => Whole X P 57 M ∧ Below w.heap.size w X) ⟨by rw [← hP]; exact setRow_heap _ _ _ _ _ _ (Whole.new _ _ zs), below_trans P2'.out hb2⟩ ?_
  clear hb2 P2'
  rintro X ⟨q1, q2⟩
  have HP := Lib.hid q1
  have HX := Lib.hid q2
  have hPw := Lib.hid hP
  clear q1 q2 hP
  have HLW := Lib.hid (H.out.below HX.out)
  go_wp2_with fail
  refine (none_some g b last X HLW.out.obj).mono ?_
  rintro e w2 ⟨rfl, rfl⟩
  go_wp2_with fail
  go_ret2
  exact ⟨rfl, HX.out⟩

set_option maxRecDepth 100000 in
set_option maxHeartbeats 4000000 in
theorem level_time (g b : Nat) (L : List Bk) (last : Int) (D : DataW Unit) (s : Bool) (f : Nat → Nat) (hf : ∀ i, f i < 256) (t : Int) (hr : rightB s f = true) (ht : ¬ okT t) (w : World) (h : LW w g b L last D) :
    Calls Try.prog 12 #[.pointer (some ⟨g, 0, none⟩), .agg (addrL s f).toArray, .int .i64 t] w fun e w' => e = .returned (.tuple #[.int .i64 0, .bool false]) ∧ Below w.heap.size w w' := by
  obtain ⟨zs, hz, hzs⟩ : ∃ zs : Array Value, (∀ w, (zeroValue 57).run Try.prog w = .ok (.agg zs) w) ∧ zs.size = 18 := ⟨_, zero_pref, pref_size _ _ _⟩
  have HZS := Lib.hid hzs
  have HC := Lib.hid (fun w => placeOf_any s f hf w)
  have hEE := mask_ok (s := s) (f := f)
  rw [if_pos hr] at hEE
  obtain ⟨M, hM, hMs, hMo⟩ : ∃ cs : Array Value, maskV s f (bitsOf s) = .agg cs ∧ cs.size = 18 ∧ cs.all (·.oneCell') = true := ⟨_, rfl, pref_size _ _ _, pref_one _ _ _⟩
  have HMS := Lib.hid hMs
  have HMO := Lib.hid hMo
  rw [hM] at HC
  obtain ⟨E, hE⟩ : ∃ E, maskE s f (bitsOf s) = E := ⟨_, rfl⟩
  rw [hE] at HC hEE
  clear hzs hf hM hMs hMo hE
  obtain ⟨A, hA⟩ : ∃ A, addrL s f = A := ⟨_, rfl⟩
  have HAS := Lib.hid (show A.toArray.size = 17 from by rw [← hA, addr_size])
  rw [hA] at HC ⊢
  clear hA
  have H := Lib.hid h
  have HEE := Lib.hid hEE
  clear h hEE
  obtain rfl := HEE.out
  go_enter Try.func12, Try.ntmps12
  go_upto_region 1 with fail
  refine cut_world (fun X => Whole X w.heap.size 25 A.toArray ∧ Below w.heap.size w X) ⟨Whole.new _ _ _, below_alloc (Below.refl _ _) _⟩ ?_
  rintro W ⟨p1, p2⟩
  have P1 := Lib.hid p1
  have P2 := Lib.hid p2
  clear p1 p2
  go_wp2_with (first | (refine wpList_load_row rfl 25 (.tmp 4) rfl w.heap.size rfl 25 A.toArray (0, 0) _ P1.out rfl rfl (by rw [HAS.out]; kernel_rfl) ?_))
  refine (HC.out W).mono ?_
  rintro e w1 ⟨rfl, hb1⟩
  have P2' := Lib.hid (below_trans P2.out hb1)
  clear hb1 P1 P2 HC
  go_upto_region 2 with (first | (refine wpList_store_row rfl 57 (.tmp 8) (.tmp 15) rfl w1.heap.size M rfl rfl 57 _ (Whole.new _ _ zs) (by rw [HMS.out]; kernel_rfl) (by rw [HMS.out, HZS.out]) HMO.out ?_))
  generalize hP : w1.heap.size = P
  have hb2 : Below w1.heap.size w1 ((w1.alloc (.cells zs 57)).setRow P M) := by
    rw [← hP]; exact below_setRow (below_alloc (Below.refl _ _) _) (Nat.le_refl _) _
  refine cut_world (fun X => Whole X P 57 M ∧ Below w.heap.size w X) ⟨by rw [← hP]; exact setRow_heap _ _ _ _ _ _ (Whole.new _ _ zs), below_trans P2'.out hb2⟩ ?_
  clear hb2 P2'
  rintro X ⟨q1, q2⟩
  have HP := Lib.hid q1
  have HX := Lib.hid q2
  have hPw := Lib.hid hP
  clear q1 q2 hP
  have HLW := Lib.hid (H.out.below HX.out)
  go_wp2_with fail
  refine (none_some g b last X HLW.out.obj).mono ?_
  rintro e w2 ⟨rfl, rfl⟩
  go_wp2_with fail
  refine (right_any t false ⟨fun e => (by cases e), fun k => absurd k ht⟩ X).mono ?_
  rintro e w2 ⟨rfl, rfl⟩
  go_wp2_with fail
  go_ret2
  exact ⟨rfl, HX.out⟩

set_option maxRecDepth 100000 in
set_option maxHeartbeats 4000000 in
theorem level_none (g b : Nat) (L : List Bk) (last : Int) (D : DataW Unit) (s : Bool) (f : Nat → Nat) (hf : ∀ i, f i < 256) (t : Int) (hr : rightB s f = true) (ht : okT t) (hn : lk L (klit Try.prog 57 s (maskF (bitsOf s) f) (bitsOf s)) = none) (w : World) (h : LW w g b L last D) :
    Calls Try.prog 12 #[.pointer (some ⟨g, 0, none⟩), .agg (addrL s f).toArray, .int .i64 t] w fun e w' => e = .returned (.tuple #[.int .i64 0, .bool false]) ∧ Below w.heap.size w w' := by
  obtain ⟨zs, hz, hzs⟩ : ∃ zs : Array Value, (∀ w, (zeroValue 57).run Try.prog w = .ok (.agg zs) w) ∧ zs.size = 18 := ⟨_, zero_pref, pref_size _ _ _⟩
  have HZS := Lib.hid hzs
  have HC := Lib.hid (fun w => placeOf_any s f hf w)
  have hEE := mask_ok (s := s) (f := f)
  rw [if_pos hr] at hEE
  have hkM := mask_key hf hr
  obtain ⟨k, hk⟩ : ∃ k, klit Try.prog 57 s (maskF (bitsOf s) f) (bitsOf s) = k := ⟨_, rfl⟩
  rw [hk] at hkM hn
  have HN := Lib.hid hn
  clear hn
  obtain ⟨M, hM, hMs, hMo⟩ : ∃ cs : Array Value, maskV s f (bitsOf s) = .agg cs ∧ cs.size = 18 ∧ cs.all (·.oneCell') = true := ⟨_, rfl, pref_size _ _ _, pref_one _ _ _⟩
  have HMS := Lib.hid hMs
  have HMO := Lib.hid hMo
  rw [hM] at HC hkM
  obtain ⟨E, hE⟩ : ∃ E, maskE s f (bitsOf s) = E := ⟨_, rfl⟩
  rw [hE] at HC hEE
  clear hzs hf hM hMs hMo hE
  obtain ⟨A, hA⟩ : ∃ A, addrL s f = A := ⟨_, rfl⟩
  have HAS := Lib.hid (show A.toArray.size = 17 from by rw [← hA, addr_size])
  rw [hA] at HC ⊢
  clear hA
  have H := Lib.hid h
  have HEE := Lib.hid hEE
  clear h hEE
  obtain rfl := HEE.out
  have HKM := Lib.hid hkM
  clear hkM
  go_enter Try.func12, Try.ntmps12
  go_upto_region 1 with fail
  refine cut_world (fun X => Whole X w.heap.size 25 A.toArray ∧ Below w.heap.size w X) ⟨Whole.new _ _ _, below_alloc (Below.refl _ _) _⟩ ?_
  rintro W ⟨p1, p2⟩
  have P1 := Lib.hid p1
  have P2 := Lib.hid p2
  clear p1 p2
  go_wp2_with (first | (refine wpList_load_row rfl 25 (.tmp 4) rfl w.heap.size rfl 25 A.toArray (0, 0) _ P1.out rfl rfl (by rw [HAS.out]; kernel_rfl) ?_))
  refine (HC.out W).mono ?_
  rintro e w1 ⟨rfl, hb1⟩
  have P2' := Lib.hid (below_trans P2.out hb1)
  clear hb1 P1 P2 HC
  go_upto_region 2 with (first | (refine wpList_store_row rfl 57 (.tmp 8) (.tmp 15) rfl w1.heap.size M rfl rfl 57 _ (Whole.new _ _ zs) (by rw [HMS.out]; kernel_rfl) (by rw [HMS.out, HZS.out]) HMO.out ?_))
  generalize hP : w1.heap.size = P
  have hb2 : Below w1.heap.size w1 ((w1.alloc (.cells zs 57)).setRow P M) := by
    rw [← hP]; exact below_setRow (below_alloc (Below.refl _ _) _) (Nat.le_refl _) _
  refine cut_world (fun X => Whole X P 57 M ∧ Below w.heap.size w X) ⟨by rw [← hP]; exact setRow_heap _ _ _ _ _ _ (Whole.new _ _ zs), below_trans P2'.out hb2⟩ ?_
  clear hb2 P2'
  rintro X ⟨q1, q2⟩
  have HP := Lib.hid q1
  have HX := Lib.hid q2
  have hPw := Lib.hid hP
  clear q1 q2 hP
  have HLW := Lib.hid (H.out.below HX.out)
  go_wp2_with fail
  refine (none_some g b last X HLW.out.obj).mono ?_
  rintro e w2 ⟨rfl, rfl⟩
  go_wp2_with fail
  refine (right_any t true ⟨fun _ => ht, fun _ => rfl⟩ X).mono ?_
  rintro e w2 ⟨rfl, rfl⟩
  go_upto_region 4 with fail
  have HLK := Lib.hid (fun (Y : World) (hx : Below X.heap.size X Y) => (show (Instr.lookup 42 (.map (some b)) (.agg M) true).run Try.prog Y = .ok (.tuple #[.agg #[.int .i64 0, .int .i64 0], .bool false]) Y from by
    have h := look_any ((HLW.out.below hx).own) HLW.out.ag HKM.out
    rw [HN.out] at h
    exact h))
  refine region_drew (fun _ => True) (by kernel_rfl) trivial (fun _ => ?_)
  have hS : Below X.heap.size X X.drew := Below.drew (Below.refl _ _)
  refine Float.float_one (W := X) [(0, 29, .is (.pointer (some ⟨g, 0, none⟩))), (1, 30, .is (.pointer (some ⟨g, 0, none⟩))), (2, 31, .is (.pointer (some ⟨g, 0, none⟩))), (3, 32, .is (.map (some b))), (4, 33, .is (.agg M)), (5, 34, .is (.tuple #[.agg #[.int .i64 0, .int .i64 0], .bool false])), (6, 28, .is (.tuple #[.agg #[.int .i64 0, .int .i64 0], .bool false])), (7, 35, .is (.agg #[.int .i64 0, .int .i64 0])), (8, 36, .is (.bool false)), (9, 10, .row 64 #[.int .i64 0, .int .i64 0])] [0, 1, 2, 3, 4, 5, 6, 7, 8, 9] 8 2 rfl (by rfl) (by kernel_rfl) (by kernel_rfl) (by kernel_rfl) (by kernel_rfl) (by kernel_rfl) (fun γ => rfl) rfl (.bool false) rfl (by kernel_rfl) (by kernel_rfl) (by kernel_rfl) (fun _ _ _ h => h) hS (fun _ _ => trivial) ?_ ?_ ?_
  · intro γ w
    simp only [Float.puts, Act.put, List.setIfInBounds_toArray, List.set_cons_zero, List.set_cons_succ]
    go_simp
    try with_reducible rfl
  · intro γ
    simp only [Float.puts, Act.put, List.setIfInBounds_toArray, List.set_cons_zero, List.set_cons_succ]
    refine ⟨?_, ?_, ?_, ?_, ?_, ?_, ?_, ?_, ?_, ?_, trivial⟩
    · exact ⟨_, _, rfl, Float.does_take (by intro w _; go_simp; try with_reducible rfl)⟩
    · exact ⟨_, _, rfl, Float.does_take (by intro w _; go_simp; try with_reducible rfl)⟩
    · exact ⟨_, _, rfl, Float.does_take (by intro w _; go_simp; try with_reducible rfl)⟩
    · exact ⟨_, _, rfl, Float.does_take (fun w hw => by have c0 := (HLW.out.below hw).obj.cell 0; go_simp; try with_reducible rfl)⟩
    · exact ⟨_, _, rfl, Float.does_take (fun w hw => run_load_in 57 (.tmp 8) rfl P rfl M 18 HMS.out (Whole.below HP.out hw HP.out.lt) rfl rfl (by kernel_rfl))⟩
    · exact ⟨_, _, rfl, Float.does_take (fun w hw => by have hl := HLK.out w hw; go_simp; try with_reducible rfl)⟩
    · exact ⟨_, _, rfl, Float.does_take (by intro w _; go_simp; try with_reducible rfl)⟩
    · exact ⟨_, _, rfl, Float.does_take (by intro w _; go_simp; try with_reducible rfl)⟩
    · exact ⟨_, _, rfl, Float.does_take (by intro w _; go_simp; try with_reducible rfl)⟩
    · exact ⟨_, _, rfl, fun w => by go_simp; try rfl⟩
  · intro γ v hS hrows hne
    simp only [Float.puts, Act.put, List.setIfInBounds_toArray, List.set_cons_zero, List.set_cons_succ]
    obtain ⟨⟨hge10, hg10⟩, -⟩ := hrows
    clear hne
    generalize γ 9 = b10 at *
    have Hg10 := Lib.hid hg10
    clear hg10
    clear γ
    have a0 := Hg10.out.cell 0
    have a1 := Hg10.out.cell 1
    have f0 := Hg10.out.free 0
    have f1 := Hg10.out.free 1
    refine alone 10 rfl (by kernel_rfl) (by rfl) ?_
    intro K hK
    go_simp
    refine hK.out _ _ trivial ?_
    clear hK K
    try simp only [Act.put]
    refine alone 11 rfl (by kernel_rfl) (by rfl) ?_
    intro K hK
    go_simp
    refine hK.out _ _ trivial ?_
    clear hK K
    try simp only [Act.put]
    refine region_end (by kernel_rfl) ?_
    refine cut_post (F := Exit.then _ _) (fun Y => Below w.heap.size w Y ∧ Whole Y b10 64 #[.int .i64 0, .int .i64 0]) ?_ ?_
    · refine ⟨?_, (Hg10.out.put 0 (.int .i64 0)).put 1 (.int .i64 0)⟩
      have hbb : w.heap.size ≤ b10 := Nat.le_trans HX.out.size hge10
      exact ((below_trans HX.out hS).setCell (by show w.heap.size ≤ b10; exact hbb) _).setCell (by show w.heap.size ≤ b10; exact hbb) _
    clear HLW hS a0 a1 f0 f1 Hg10 HLK HX
    rintro Y ⟨hy, hq⟩
    have HY := Lib.hid hy
    have HQ := Lib.hid hq
    clear hy hq
    go_wp2_with fail
    go_ret2
    exact ⟨rfl, HY.out⟩

set_option maxRecDepth 100000 in
set_option maxHeartbeats 4000000 in
theorem level_some (g b : Nat) (L : List Bk) (last : Int) (D : DataW Unit) (s : Bool) (f : Nat → Nat) (hf : ∀ i, f i < 256) (t : Int) (hr : rightB s f = true) (ht : okT t) (x y : Int) (hn : lk L (klit Try.prog 57 s (maskF (bitsOf s) f) (bitsOf s)) = some (x, y)) (w : World) (h : LW w g b L last D) :
    Calls Try.prog 12 #[.pointer (some ⟨g, 0, none⟩), .agg (addrL s f).toArray, .int .i64 t] w fun e w' => e = .returned (.tuple #[.int .i64 (lev (x, y) t), .bool true]) ∧ Below w.heap.size w w' := by
  obtain ⟨zs, hz, hzs⟩ : ∃ zs : Array Value, (∀ w, (zeroValue 57).run Try.prog w = .ok (.agg zs) w) ∧ zs.size = 18 := ⟨_, zero_pref, pref_size _ _ _⟩
  have HZS := Lib.hid hzs
  have HC := Lib.hid (fun w => placeOf_any s f hf w)
  have hEE := mask_ok (s := s) (f := f)
  rw [if_pos hr] at hEE
  have hkM := mask_key hf hr
  obtain ⟨k, hk⟩ : ∃ k, klit Try.prog 57 s (maskF (bitsOf s) f) (bitsOf s) = k := ⟨_, rfl⟩
  rw [hk] at hkM hn
  have HN := Lib.hid hn
  have hvb := h.good.lk hn
  have HLV := Lib.hid (level_any (x, y) t hvb.1 hvb.2.1 hvb.2.2.1 ht)
  obtain ⟨n, hnn⟩ : ∃ n, lev (x, y) t = n := ⟨_, rfl⟩
  rw [hnn] at HLV ⊢
  simp only [bkV] at HLV
  clear hn hnn hvb
  obtain ⟨M, hM, hMs, hMo⟩ : ∃ cs : Array Value, maskV s f (bitsOf s) = .agg cs ∧ cs.size = 18 ∧ cs.all (·.oneCell') = true := ⟨_, rfl, pref_size _ _ _, pref_one _ _ _⟩
  have HMS := Lib.hid hMs
  have HMO := Lib.hid hMo
  rw [hM] at HC hkM
  obtain ⟨E, hE⟩ : ∃ E, maskE s f (bitsOf s) = E := ⟨_, rfl⟩
  rw [hE] at HC hEE
  clear hzs hf hM hMs hMo hE
  obtain ⟨A, hA⟩ : ∃ A, addrL s f = A := ⟨_, rfl⟩
  have HAS := Lib.hid (show A.toArray.size = 17 from by rw [← hA, addr_size])
  rw [hA] at HC ⊢
  clear hA
  have H := Lib.hid h
  have HEE := Lib.hid hEE
  clear h hEE
  obtain rfl := HEE.out
  have HKM := Lib.hid hkM
  clear hkM
  go_enter Try.func12, Try.ntmps12
  go_upto_region 1 with fail
  refine cut_world (fun X => Whole X w.heap.size 25 A.toArray ∧ Below w.heap.size w X) ⟨Whole.new _ _ _, below_alloc (Below.refl _ _) _⟩ ?_
  rintro W ⟨p1, p2⟩
  have P1 := Lib.hid p1
  have P2 := Lib.hid p2
  clear p1 p2
  go_wp2_with (first | (refine wpList_load_row rfl 25 (.tmp 4) rfl w.heap.size rfl 25 A.toArray (0, 0) _ P1.out rfl rfl (by rw [HAS.out]; kernel_rfl) ?_))
  refine (HC.out W).mono ?_
  rintro e w1 ⟨rfl, hb1⟩
  have P2' := Lib.hid (below_trans P2.out hb1)
  clear hb1 P1 P2 HC
  go_upto_region 2 with (first | (refine wpList_store_row rfl 57 (.tmp 8) (.tmp 15) rfl w1.heap.size M rfl rfl 57 _ (Whole.new _ _ zs) (by rw [HMS.out]; kernel_rfl) (by rw [HMS.out, HZS.out]) HMO.out ?_))
  generalize hP : w1.heap.size = P
  have hb2 : Below w1.heap.size w1 ((w1.alloc (.cells zs 57)).setRow P M) := by
    rw [← hP]; exact below_setRow (below_alloc (Below.refl _ _) _) (Nat.le_refl _) _
  refine cut_world (fun X => Whole X P 57 M ∧ Below w.heap.size w X) ⟨by rw [← hP]; exact setRow_heap _ _ _ _ _ _ (Whole.new _ _ zs), below_trans P2'.out hb2⟩ ?_
  clear hb2 P2'
  rintro X ⟨q1, q2⟩
  have HP := Lib.hid q1
  have HX := Lib.hid q2
  have hPw := Lib.hid hP
  clear q1 q2 hP
  have HLW := Lib.hid (H.out.below HX.out)
  go_wp2_with fail
  refine (none_some g b last X HLW.out.obj).mono ?_
  rintro e w2 ⟨rfl, rfl⟩
  go_wp2_with fail
  refine (right_any t true ⟨fun _ => ht, fun _ => rfl⟩ X).mono ?_
  rintro e w2 ⟨rfl, rfl⟩
  go_upto_region 4 with fail
  have HLK := Lib.hid (fun (Y : World) (hx : Below X.heap.size X Y) => (show (Instr.lookup 42 (.map (some b)) (.agg M) true).run Try.prog Y = .ok (.tuple #[.agg #[.int .i64 x, .int .i64 y], .bool true]) Y from by
    have h := look_any ((HLW.out.below hx).own) HLW.out.ag HKM.out
    rw [HN.out] at h
    exact h))
  refine region_drew (fun _ => True) (by kernel_rfl) trivial (fun _ => ?_)
  have hS : Below X.heap.size X X.drew := Below.drew (Below.refl _ _)
  refine Float.float_one (W := X) [(0, 29, .is (.pointer (some ⟨g, 0, none⟩))), (1, 30, .is (.pointer (some ⟨g, 0, none⟩))), (2, 31, .is (.pointer (some ⟨g, 0, none⟩))), (3, 32, .is (.map (some b))), (4, 33, .is (.agg M)), (5, 34, .is (.tuple #[.agg #[.int .i64 x, .int .i64 y], .bool true])), (6, 28, .is (.tuple #[.agg #[.int .i64 x, .int .i64 y], .bool true])), (7, 35, .is (.agg #[.int .i64 x, .int .i64 y])), (8, 36, .is (.bool true)), (9, 10, .row 64 #[.int .i64 0, .int .i64 0])] [0, 1, 2, 3, 4, 5, 6, 7, 8, 9] 8 2 rfl (by rfl) (by kernel_rfl) (by kernel_rfl) (by kernel_rfl) (by kernel_rfl) (by kernel_rfl) (fun γ => rfl) rfl (.bool true) rfl (by kernel_rfl) (by kernel_rfl) (by kernel_rfl) (fun _ _ _ h => h) hS (fun _ _ => trivial) ?_ ?_ ?_
  · intro γ w
    simp only [Float.puts, Act.put, List.setIfInBounds_toArray, List.set_cons_zero, List.set_cons_succ]
    go_simp
    try with_reducible rfl
  · intro γ
    simp only [Float.puts, Act.put, List.setIfInBounds_toArray, List.set_cons_zero, List.set_cons_succ]
    refine ⟨?_, ?_, ?_, ?_, ?_, ?_, ?_, ?_, ?_, ?_, trivial⟩
    · exact ⟨_, _, rfl, Float.does_take (by intro w _; go_simp; try with_reducible rfl)⟩
    · exact ⟨_, _, rfl, Float.does_take (by intro w _; go_simp; try with_reducible rfl)⟩
    · exact ⟨_, _, rfl, Float.does_take (by intro w _; go_simp; try with_reducible rfl)⟩
    · exact ⟨_, _, rfl, Float.does_take (fun w hw => by have c0 := (HLW.out.below hw).obj.cell 0; go_simp; try with_reducible rfl)⟩
    · exact ⟨_, _, rfl, Float.does_take (fun w hw => run_load_in 57 (.tmp 8) rfl P rfl M 18 HMS.out (Whole.below HP.out hw HP.out.lt) rfl rfl (by kernel_rfl))⟩
    · exact ⟨_, _, rfl, Float.does_take (fun w hw => by have hl := HLK.out w hw; go_simp; try with_reducible rfl)⟩
    · exact ⟨_, _, rfl, Float.does_take (by intro w _; go_simp; try with_reducible rfl)⟩
    · exact ⟨_, _, rfl, Float.does_take (by intro w _; go_simp; try with_reducible rfl)⟩
    · exact ⟨_, _, rfl, Float.does_take (by intro w _; go_simp; try with_reducible rfl)⟩
    · exact ⟨_, _, rfl, fun w => by go_simp; try rfl⟩
  · intro γ v hS hrows hne
    simp only [Float.puts, Act.put, List.setIfInBounds_toArray, List.set_cons_zero, List.set_cons_succ]
    obtain ⟨⟨hge10, hg10⟩, -⟩ := hrows
    clear hne
    generalize γ 9 = b10 at *
    have Hg10 := Lib.hid hg10
    clear hg10
    clear γ
    have a0 := Hg10.out.cell 0
    have a1 := Hg10.out.cell 1
    have f0 := Hg10.out.free 0
    have f1 := Hg10.out.free 1
    refine alone 10 rfl (by kernel_rfl) (by rfl) ?_
    intro K hK
    go_simp
    refine hK.out _ _ trivial ?_
    clear hK K
    try simp only [Act.put]
    refine alone 11 rfl (by kernel_rfl) (by rfl) ?_
    intro K hK
    go_simp
    refine hK.out _ _ trivial ?_
    clear hK K
    try simp only [Act.put]
    refine region_end (by kernel_rfl) ?_
    refine cut_post (F := Exit.then _ _) (fun Y => Below w.heap.size w Y ∧ Whole Y b10 64 #[.int .i64 x, .int .i64 y]) ?_ ?_
    · refine ⟨?_, (Hg10.out.put 0 (.int .i64 x)).put 1 (.int .i64 y)⟩
      have hbb : w.heap.size ≤ b10 := Nat.le_trans HX.out.size hge10
      exact ((below_trans HX.out hS).setCell (by show w.heap.size ≤ b10; exact hbb) _).setCell (by show w.heap.size ≤ b10; exact hbb) _
    clear HLW hS a0 a1 f0 f1 Hg10 HLK HX
    rintro Y ⟨hy, hq⟩
    have HY := Lib.hid hy
    have HQ := Lib.hid hq
    clear hy hq
    go_wp2_with (refine wpList_load_row rfl 64 (.tmp 10) rfl b10 rfl 64 #[.int .i64 x, .int .i64 y] (0, 0) _ HQ.out rfl rfl (by kernel_rfl) ?_)
    refine (HLV.out _).mono ?_
    rintro e w4 ⟨rfl, hb4⟩
    have HY4 := Lib.hid (below_trans HY.out hb4)
    clear hb4
    go_wp2_with fail
    go_ret2
    exact ⟨rfl, HY4.out⟩

/-- what Level answers -/
def tell (L : List Bk) (p : Option Lit) (t : Int) : Int × Bool :=
  match p with
  | none => (0, false)
  | some k => if okT t then (match lk L k with | none => (0, false) | some v => (lev v t, true)) else (0, false)
/-- Level, at any limiter -/
theorem tell_any (g b : Nat) (L : List Bk) (last : Int) (D : DataW Unit) (s : Bool) (f : Nat → Nat) (hf : ∀ i, f i < 256) (t : Int) (w : World) (h : LW w g b L last D) :
    Calls Try.prog 12 #[.pointer (some ⟨g, 0, none⟩), .agg (addrL s f).toArray, .int .i64 t] w fun e w' => e = .returned (.tuple #[.int .i64 (tell L (placeO Try.prog 57 s f) t).1, .bool (tell L (placeO Try.prog 57 s f) t).2]) ∧ Below w.heap.size w w' := by
  unfold tell
  cases hr : rightB s f
  · rw [place_none hr]
    exact level_addr g b L last D s f hf t hr w h
  · rw [place_some hr]
    dsimp only
    by_cases ht : okT t
    · rw [if_pos ht]
      cases hn : lk L (klit Try.prog 57 s (maskF (bitsOf s) f) (bitsOf s)) with
      | none => exact level_none g b L last D s f hf t hr ht hn w h
      | some v => exact level_some g b L last D s f hf t hr ht v.1 v.2 hn w h
    · rw [if_neg ht]
      exact level_time g b L last D s f hf t hr ht w h
end Lim
end Go.Proofs.Ytlccgplgbokgkaa
