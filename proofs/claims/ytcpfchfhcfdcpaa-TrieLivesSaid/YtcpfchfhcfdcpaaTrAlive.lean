/- aditlaw14: Ten, alive. -/
import Derived.Test.YtcpfchfhcfdcpaaTrDrop
namespace Go.Proofs.Ytcpfchfhcfdcpaa
namespace Tri
open Go.ChangeShapes Go.WideShapes Go.ChangeAt Go.RowKit
open Num Mem Words Chacha Aead Poly Quiet Ops Adr

def g8 (i : Nat) : Nat := if i = 0 then 10 else 0
def g16 (i : Nat) : Nat := if i = 0 then 10 else if i = 1 then 1 else 0
def gx (i : Nat) : Nat := if i = 0 then 10 else if i = 1 then 1 else if i = 2 then 2 else if i = 3 then 3 else 0
def gy (i : Nat) : Nat := if i = 0 then 10 else if i = 1 then 2 else 0
theorem g8_lt (i : Nat) : g8 i < 256 := by unfold g8; split <;> omega
theorem g16_lt (i : Nat) : g16 i < 256 := by unfold g16; repeat' (split <;> try omega)
theorem gx_lt (i : Nat) : gx i < 256 := by unfold gx; repeat' (split <;> try omega)
theorem gy_lt (i : Nat) : gy i < 256 := by unfold gy; repeat' (split <;> try omega)
def T1 : Tr := insA false (bs g8 8) 1 .nil
def T2 : Tr := insA false (bs g16 16) 2 T1
theorem wpList_built4 {P : Program} {ops : Array Oper} {rest : List Oper} {o : Oper} {a : Act} {w : World} {Q : Exit → Act → World → Prop} (hg : o.guard = none) (t : TypeId) (k1 k2 k3 k4 : Nat) (x1 x2 x3 x4 : Operand) (ho : o.op = .build t #[(k1, x1), (k2, x2), (k3, x3), (k4, x4)]) (v1 v2 v3 v4 : Value)
    (h1 : a.eval x1 = v1) (h2 : a.eval x2 = v2) (h3 : a.eval x3 = v3) (h4 : a.eval x4 = v4) (vs : Array Value) (hb : P.built t [(k1, v1), (k2, v2), (k3, v3), (k4, v4)] = some vs) (h : wpList P ops Q rest (a.put o.dst (.agg vs)) w) : wpList P ops Q (o :: rest) a w :=
  wpList_plain hg fun K hK => by
    have e : P.built t ((#[(k1, x1), (k2, x2), (k3, x3), (k4, x4)] : Array (Nat × Operand)).map fun (i, x) => (i, a.eval x)).toList = some vs := by simpa [h1, h2, h3, h4] using hb
    unfold Oper.wp execOp
    simp only [ho, Sem.run_bind, run_build w t _ vs e, Result.andThen_ok, Sem.run_pure]
    exact hK _ _ h
theorem results_rowcell {fn : Func} {p : Tmp} {ty : TypeId} {P : Program} (h : fn.results = #[.cell p ty]) (tmps : Array Value) (w : World) (g : Nat) (t : TypeId) (cs : List Value) (d : TypeDesc)
    (hp : tmps.getD p undef = .pointer (some ⟨g, 0, none⟩)) (hg : Whole w g t cs.toArray) (hu : P.underlying ty = some d) (hd : d.isRow = true) (hi : (P.info? ty).map (·.size) = some cs.length) :
    (results fn tmps).run P w = .ok (.agg cs.toArray) w := by
  have hp' : tmps[p]?.getD undef = .pointer (some ⟨g, 0, none⟩) := by simpa using hp
  simp [results, h, hp', asAddr, run_loadVar_mid w g 0 ty cs d (Poly.whole_range hg) hu hd hi]
set_option maxRecDepth 100000 in
set_option maxHeartbeats 4000000 in
theorem ten8 (w : World) : Calls Try.prog 32 #[.int .i64 8] w fun e w' => e = .returned (.agg (prefL false g8 8).toArray) ∧ Below w.heap.size w w' := by
  have h1 := Lib.hid (show Try.prog.built 25 [(0, .int .u8 10)] = some (byteCells g8 16).toArray by kernel_rfl)
  have h2 := Lib.hid (show Try.prog.built 27 [(1, .agg (byteCells g8 16).toArray)] = some (addrL false g8).toArray by kernel_rfl)
  have h3 := Lib.hid (pref_built2 false g8 8)
  have hzp := zero_pref
  have HPS := Lib.hid (pref_size false g8 8)
  have HPO := Lib.hid (pref_one false g8 8)
  have HPL := Lib.hid (prefL_length false g8 8)
  obtain ⟨R, hR⟩ : ∃ R, (byteCells g8 16).toArray = R := ⟨_, rfl⟩
  rw [hR] at h1 h2
  obtain ⟨AL, hAL⟩ : ∃ AL, (addrL false g8).toArray = AL := ⟨_, rfl⟩
  rw [hAL] at h2 h3
  obtain ⟨PL, hPL⟩ : ∃ PL, prefL false g8 8 = PL := ⟨_, rfl⟩
  rw [hPL] at h3 HPS HPO HPL ⊢
  obtain ⟨Z, hZ⟩ : ∃ Z, (prefL false nought 0).toArray = Z := ⟨_, rfl⟩
  have HZS := Lib.hid (show Z.size = 18 by rw [← hZ]; exact pref_size _ _ _)
  rw [hZ] at hzp
  clear hR hAL hPL hZ
  go_enter Try.func32, Try.ntmps32
  go_upto_region 2 with (first
    | (refine wpList_built1 rfl 25 0 (.const (.int .u8 10)) rfl (.int .u8 10) rfl R h1.out ?_)
    | (refine wpList_built1 rfl 27 1 (.tmp 4) rfl (.agg R) rfl AL h2.out ?_)
    | (refine wpList_built2' rfl 29 0 1 (.tmp 5) (.tmp 6) rfl (.agg AL) (.int .i64 8) rfl rfl PL.toArray h3.out ?_)
    | (refine wpList_store_row rfl 29 (.tmp 3) (.tmp 7) rfl (w.heap.size + 1) PL.toArray rfl rfl 29 Z (whole_new _ _ (by simp)) (by rw [HPS.out]; kernel_rfl) (by rw [HZS.out, HPS.out]) HPO.out ?_))
  refine cut_world (fun X => Whole X w.heap.size 29 Z ∧ Whole X (w.heap.size + 1) 29 PL.toArray ∧ Below w.heap.size w X) ⟨Whole.farRow ((Whole.new _ _ _).alloc _) (by omega) _, setRow_heap _ _ _ _ _ _ (whole_new _ _ (by simp)), below_setRow (((Below.refl _ w).alloc (Nat.le_refl _) _).alloc (by simp) _) (Nat.le_succ _) _⟩ ?_
  rintro X hX
  have HX := Lib.hid hX
  clear hX
  have HRET := Lib.hid (show Whole (X.setRow w.heap.size PL.toArray) w.heap.size 29 PL.toArray ∧ Below w.heap.size w (X.setRow w.heap.size PL.toArray) from ⟨setRow_heap _ _ _ _ _ _ HX.out.1, below_setRow HX.out.2.2 (Nat.le_refl _) _⟩)
  go_wp2_with (first
    | (refine wpList_load_row rfl 29 (.tmp 3) rfl (w.heap.size + 1) rfl 29 PL.toArray (0, 0) _ HX.out.2.1 rfl rfl (by rw [HPS.out]; kernel_rfl) ?_)
    | (refine wpList_store_row rfl 29 (.tmp 2) (.tmp 13) rfl w.heap.size PL.toArray rfl rfl 29 Z HX.out.1 (by rw [HPS.out]; kernel_rfl) (by rw [HZS.out, HPS.out]) HPO.out ?_))
  refine bodyPost_ret (results_rowcell rfl _ _ w.heap.size 29 PL _ rfl HRET.out.1 rfl rfl (by rw [HPL.out]; kernel_rfl)) rfl ?_
  exact ⟨rfl, HRET.out.2⟩
set_option maxRecDepth 100000 in
set_option maxHeartbeats 4000000 in
theorem ten16 (w : World) : Calls Try.prog 32 #[.int .i64 16] w fun e w' => e = .returned (.agg (prefL false g16 16).toArray) ∧ Below w.heap.size w w' := by
  have HRS := Lib.hid (pref_size false g16 16)
  have HRO := Lib.hid (pref_one false g16 16)
  have HRL := Lib.hid (prefL_length false g16 16)
  have HSET := Lib.hid (show (prefL false g8 16).toArray.setIfInBounds 2 (.int .u8 1) = (prefL false g16 16).toArray from rfl)
  have HC2 := Lib.hid (show (prefL false g8 16)[2]? = some (.int .u8 0) from rfl)
  obtain ⟨RL, hRL⟩ : ∃ RL, prefL false g16 16 = RL := ⟨_, rfl⟩
  rw [hRL] at HRS HRO HRL HSET ⊢
  clear hRL
  have h1 := Lib.hid (show Try.prog.built 25 [(0, .int .u8 10)] = some (byteCells g8 16).toArray by kernel_rfl)
  have h2 := Lib.hid (show Try.prog.built 27 [(1, .agg (byteCells g8 16).toArray)] = some (addrL false g8).toArray by kernel_rfl)
  have h3 := Lib.hid (pref_built2 false g8 16)
  have hzp := zero_pref
  have HPS := Lib.hid (pref_size false g8 16)
  have HPO := Lib.hid (pref_one false g8 16)
  have HPL := Lib.hid (prefL_length false g8 16)
  obtain ⟨R, hR⟩ : ∃ R, (byteCells g8 16).toArray = R := ⟨_, rfl⟩
  rw [hR] at h1 h2
  obtain ⟨AL, hAL⟩ : ∃ AL, (addrL false g8).toArray = AL := ⟨_, rfl⟩
  rw [hAL] at h2 h3
  obtain ⟨PL, hPL⟩ : ∃ PL, prefL false g8 16 = PL := ⟨_, rfl⟩
  rw [hPL] at h3 HPS HPO HPL HSET HC2
  obtain ⟨Z, hZ⟩ : ∃ Z, (prefL false nought 0).toArray = Z := ⟨_, rfl⟩
  have HZS := Lib.hid (show Z.size = 18 by rw [← hZ]; exact pref_size _ _ _)
  rw [hZ] at hzp
  clear hR hAL hPL hZ
  go_enter Try.func32, Try.ntmps32
  go_upto_region 2 with (first
    | (refine wpList_built1 rfl 25 0 (.const (.int .u8 10)) rfl (.int .u8 10) rfl R h1.out ?_)
    | (refine wpList_built1 rfl 27 1 (.tmp 4) rfl (.agg R) rfl AL h2.out ?_)
    | (refine wpList_built2' rfl 29 0 1 (.tmp 5) (.tmp 6) rfl (.agg AL) (.int .i64 16) rfl rfl PL.toArray h3.out ?_)
    | (refine wpList_store_row rfl 29 (.tmp 3) (.tmp 7) rfl (w.heap.size + 1) PL.toArray rfl rfl 29 Z (whole_new _ _ (by simp)) (by rw [HPS.out]; kernel_rfl) (by rw [HZS.out, HPS.out]) HPO.out ?_))
  refine cut_world (fun X => Whole X w.heap.size 29 Z ∧ Whole X (w.heap.size + 1) 29 PL.toArray ∧ Below w.heap.size w X) ⟨Whole.farRow ((Whole.new _ _ _).alloc _) (by omega) _, setRow_heap _ _ _ _ _ _ (whole_new _ _ (by simp)), below_setRow (((Below.refl _ w).alloc (Nat.le_refl _) _).alloc (by simp) _) (Nat.le_succ _) _⟩ ?_
  rintro X hX
  have HX := Lib.hid hX
  clear hX
  have c2 : X.cell? ⟨w.heap.size + 1, 2, none⟩ = some (.int .u8 0) := by rw [HX.out.2.1.cell, List.getElem?_toArray]; exact HC2.out
  have f2 := HX.out.2.1.free 2
  go_upto_region 4 with fail
  refine cut_world (fun X => Whole X w.heap.size 29 Z ∧ Whole X (w.heap.size + 1) 29 RL.toArray ∧ Below w.heap.size w X) ⟨HX.out.1.far (p := ⟨w.heap.size + 1, 2, none⟩) (by simp) _, by have := HX.out.2.1.put 2 (.int .u8 1); rw [HSET.out] at this; exact this, HX.out.2.2.setCell (p := ⟨w.heap.size + 1, 2, none⟩) (Nat.le_succ _) _⟩ ?_
  clear c2 f2 HX HSET HC2
  clear X
  rintro X hX
  have HX := Lib.hid hX
  clear hX
  have HRET := Lib.hid (show Whole (X.setRow w.heap.size RL.toArray) w.heap.size 29 RL.toArray ∧ Below w.heap.size w (X.setRow w.heap.size RL.toArray) from ⟨setRow_heap _ _ _ _ _ _ HX.out.1, below_setRow HX.out.2.2 (Nat.le_refl _) _⟩)
  go_wp2_with (first
    | (refine wpList_load_row rfl 29 (.tmp 3) rfl (w.heap.size + 1) rfl 29 RL.toArray (0, 0) _ HX.out.2.1 rfl rfl (by rw [HRS.out]; kernel_rfl) ?_)
    | (refine wpList_store_row rfl 29 (.tmp 2) (.tmp 13) rfl w.heap.size RL.toArray rfl rfl 29 Z HX.out.1 (by rw [HRS.out]; kernel_rfl) (by rw [HZS.out, HRS.out]) HRO.out ?_))
  refine bodyPost_ret (results_rowcell rfl _ _ w.heap.size 29 RL _ rfl HRET.out.1 rfl rfl (by rw [HRL.out]; kernel_rfl)) rfl ?_
  exact ⟨rfl, HRET.out.2⟩
set_option maxRecDepth 100000 in
set_option maxHeartbeats 8000000 in
theorem alive_any (w : World) : Calls Try.prog 18 #[] w fun e w' => e = .returned (.bool true) ∧ Below w.heap.size w w' := by
  have hz := zero_route
  have HZS := Lib.hid (show (routeL false nought 0 0).toArray.size = 19 by rw [List.size_toArray, routeL_length])
  obtain ⟨Z, hZ⟩ : ∃ Z, (routeL false nought 0 0).toArray = Z := ⟨_, rfl⟩
  rw [hZ] at hz HZS
  clear hZ
  have HP1 := Lib.hid (fun X => put_any (A := fun _ => True) (w := X) (ta := .nil) (tb := .nil) (q := none) ⟨rfl, rfl⟩ trivial trivial false g8 g8_lt 8 (by decide) (by decide) 1 (by unfold okI; decide) (by decide))
  have e1 : putE false g8 8 1 .nil .nil = 0 := by decide +kernel
  rw [e1] at HP1
  have HP2 := Lib.hid (fun X k (h : IsTrie (fun _ => True) X T1 .nil k) => put_any h (by unfold T1 insA; exact ins_ok trivial) trivial false g16 g16_lt 16 (by decide) (by decide) 2 (by unfold okI; decide) (by decide +kernel))
  have e2 : putE false g16 16 2 T1 .nil = 0 := by decide +kernel
  rw [e2] at HP2
  have HF := Lib.hid (fun X k (h : IsTrie (fun _ => True) X T2 .nil k) => find_any h (by unfold T2 insA T1 insA; exact ins_ok (ins_ok trivial)) trivial false gx gx_lt)
  have e3 : (lastR (holdR false gx T2 .nil)).o = 2 := by decide +kernel
  have HF2 := Lib.hid (fun X k (h : IsTrie (fun _ => True) X T2 .nil k) => find_any h (by unfold T2 insA T1 insA; exact ins_ok (ins_ok trivial)) trivial false gy gy_lt)
  have e4 : (lastR (holdR false gy T2 .nil)).o = 1 := by decide +kernel
  have HD := Lib.hid (fun X => drop_any (A := fun _ => True) (w := X) (ta := .nil) (tb := .nil) (q := none) ⟨rfl, rfl⟩ trivial trivial false g8 g8_lt 8 (by decide) (by decide))
  have e5 : dropE false g8 8 .nil .nil = 4 := by decide +kernel
  rw [e5] at HD
  have HC := Lib.hid (fun X k (h : IsTrie (fun _ => True) X T2 .nil k) => count_any h (by decide +kernel))
  have e6 : (routes2 T2 .nil).length = 2 := by decide +kernel
  rw [e6] at HC
  have HC1 := Lib.hid (fun X k (h : IsTrie (fun _ => True) X T1 .nil k) => count_any h (by decide +kernel))
  have e7 : (routes2 T1 .nil).length = 1 := by decide +kernel
  rw [e7] at HC1
  have hA1 := Lib.hid (show Try.prog.built 25 [(0, .int .u8 10), (1, .int .u8 1), (2, .int .u8 2), (3, .int .u8 3)] = some (byteCells gx 16).toArray by kernel_rfl)
  have hA2 := Lib.hid (show Try.prog.built 27 [(1, .agg (byteCells gx 16).toArray)] = some (addrL false gx).toArray by kernel_rfl)
  have hA3 := Lib.hid (show Try.prog.built 25 [(0, .int .u8 10), (1, .int .u8 2)] = some (byteCells gy 16).toArray by kernel_rfl)
  have hA4 := Lib.hid (show Try.prog.built 27 [(1, .agg (byteCells gy 16).toArray)] = some (addrL false gy).toArray by kernel_rfl)
  have HLX := Lib.hid (show (lastR (holdR false gx T2 .nil)).cells.length = 19 ∧ (lastR (holdR false gx T2 .nil)).cells.toArray.all (·.oneCell') = true ∧ (lastR (holdR false gx T2 .nil)).cells[18]? = some (.int .i64 2) from ⟨Rt.len _, by rw [List.all_toArray, List.all_eq_true]; exact Rt.each _, by rw [Rt.own, e3]⟩)
  have HLY := Lib.hid (show (lastR (holdR false gy T2 .nil)).cells.length = 19 ∧ (lastR (holdR false gy T2 .nil)).cells.toArray.all (·.oneCell') = true ∧ (lastR (holdR false gy T2 .nil)).cells[18]? = some (.int .i64 1) from ⟨Rt.len _, by rw [List.all_toArray, List.all_eq_true]; exact Rt.each _, by rw [Rt.own, e4]⟩)
  rw [e3] at HF
  rw [e4] at HF2
  obtain ⟨CX, hCX⟩ : ∃ CX, (lastR (holdR false gx T2 .nil)).cells = CX := ⟨_, rfl⟩
  obtain ⟨CY, hCY⟩ : ∃ CY, (lastR (holdR false gy T2 .nil)).cells = CY := ⟨_, rfl⟩
  rw [hCX] at HF HLX
  rw [hCY] at HF2 HLY
  obtain ⟨RX, hRX⟩ : ∃ RX, (byteCells gx 16).toArray = RX := ⟨_, rfl⟩
  obtain ⟨RY, hRY⟩ : ∃ RY, (byteCells gy 16).toArray = RY := ⟨_, rfl⟩
  rw [hRX] at hA1 hA2
  rw [hRY] at hA3 hA4
  obtain ⟨AX, hAX⟩ : ∃ AX, (addrL false gx).toArray = AX := ⟨_, rfl⟩
  obtain ⟨AY, hAY⟩ : ∃ AY, (addrL false gy).toArray = AY := ⟨_, rfl⟩
  rw [hAX] at hA2 HF
  rw [hAY] at hA4 HF2
  obtain ⟨P8, hP8⟩ : ∃ P8, (prefL false g8 8).toArray = P8 := ⟨_, rfl⟩
  have HT8 := Lib.hid (fun X => ten8 X)
  rw [hP8] at HT8 HP1 HD
  obtain ⟨P16, hP16⟩ : ∃ P16, (prefL false g16 16).toArray = P16 := ⟨_, rfl⟩
  have HT16 := Lib.hid (fun X => ten16 X)
  rw [hP16] at HT16 HP2
  clear hCX hCY hRX hRY hAX hAY hP8 hP16 e1 e2 e3 e4 e5 e6 e7
  go_enter Try.func18, Try.ntmps18
  go_upto_region 3 with (first
    | (go_at_call 32; refine (HT8.out _).mono ?_; rintro e X1 ⟨rfl, hb1⟩; have HB1 := Lib.hid hb1; clear hb1)
    | (go_at_call 21; refine (HP1.out _).mono ?_; rintro e X2 ⟨k1, rfl, hb2, _, hk⟩; obtain ⟨r1, rfl, ht1⟩ := hk (by trivial); have HX2 := Lib.hid (show IsTrie (fun _ => True) X2 T1 .nil (some r1) ∧ Below w.heap.size w X2 from ⟨ht1, HB1.out.trans (hb2.mono HB1.out.size)⟩); clear hk hb2 ht1 HB1 HP1))
  go_upto_region 4 with (first
    | (go_at_call 32; refine (HT16.out _).mono ?_; rintro e X3 ⟨rfl, hb3⟩; have HX3 := Lib.hid (show IsTrie (fun _ => True) X3 T1 .nil (some r1) ∧ Below w.heap.size w X3 from ⟨HX2.out.1.below hb3, HX2.out.2.trans (hb3.mono HX2.out.2.size)⟩); clear hb3 HX2)
    | (go_at_call 21; refine (HP2.out _ (some r1) HX3.out.1).mono ?_; rintro e X4 ⟨k2, rfl, hb4, _, hk⟩; obtain ⟨r2, rfl, ht2⟩ := hk (by trivial); have HX4 := Lib.hid (show IsTrie (fun _ => True) X4 T1 .nil (some r1) ∧ IsTrie (fun _ => True) X4 T2 .nil (some r2) ∧ Below w.heap.size w X4 from ⟨HX3.out.1.below hb4, ht2, HX3.out.2.trans (hb4.mono HX3.out.2.size)⟩); clear hk hb4 ht2 HX3 HP2))
  go_upto_region 5 with (first
    | (refine wpList_built4 rfl 25 0 1 2 3 (.const (.int .u8 10)) (.const (.int .u8 1)) (.const (.int .u8 2)) (.const (.int .u8 3)) rfl (.int .u8 10) (.int .u8 1) (.int .u8 2) (.int .u8 3) rfl rfl rfl rfl RX hA1.out ?_)
    | (refine wpList_built1 rfl 27 1 (.tmp 26) rfl (.agg RX) rfl AX hA2.out ?_)
    | (go_at_call 10; refine (HF.out _ (some r2) HX4.out.2.1).mono ?_; rintro e X5 ⟨rfl, hb5⟩; have HX5 := Lib.hid (show IsTrie (fun _ => True) X5 T1 .nil (some r1) ∧ IsTrie (fun _ => True) X5 T2 .nil (some r2) ∧ Below w.heap.size w X5 from ⟨HX4.out.1.below hb5, HX4.out.2.1.below hb5, HX4.out.2.2.trans (hb5.mono HX4.out.2.2.size)⟩); clear hb5 HX4)
    | (refine wpList_store_row rfl 38 (.tmp 6) (.tmp 29) rfl X5.heap.size CX.toArray rfl rfl 38 Z (Whole.new _ _ _) (by rw [List.size_toArray, HLX.out.1]; kernel_rfl) (by rw [HZS.out, List.size_toArray, HLX.out.1]) HLX.out.2.1 ?_))
  refine cut_world (fun X => Whole X X5.heap.size 38 CX.toArray ∧ IsTrie (fun _ => True) X T1 .nil (some r1) ∧ IsTrie (fun _ => True) X T2 .nil (some r2) ∧ Below w.heap.size w X) ⟨setRow_heap _ _ _ _ _ _ (Whole.new _ _ _), HX5.out.1.below (below_var _ _ _ _), HX5.out.2.1.below (below_var _ _ _ _), HX5.out.2.2.trans ((below_var _ _ _ _).mono HX5.out.2.2.size)⟩ ?_
  rintro X6 h6
  have HX6 := Lib.hid h6
  clear h6 HX5 HF
  generalize X5.heap.size = N6 at HX6 ⊢
  go_upto_region 6 with (first
    | (refine wpList_built2' rfl 25 0 1 (.const (.int .u8 10)) (.const (.int .u8 2)) rfl (.int .u8 10) (.int .u8 2) rfl rfl RY hA3.out ?_)
    | (refine wpList_built1 rfl 27 1 (.tmp 33) rfl (.agg RY) rfl AY hA4.out ?_)
    | (go_at_call 10; refine (HF2.out _ (some r2) HX6.out.2.2.1).mono ?_; rintro e X7 ⟨rfl, hb7⟩; have HX7 := Lib.hid (show Whole X7 N6 38 CX.toArray ∧ IsTrie (fun _ => True) X7 T1 .nil (some r1) ∧ IsTrie (fun _ => True) X7 T2 .nil (some r2) ∧ Below w.heap.size w X7 from ⟨HX6.out.1.below hb7 HX6.out.1.lt, HX6.out.2.1.below hb7, HX6.out.2.2.1.below hb7, HX6.out.2.2.2.trans (hb7.mono HX6.out.2.2.2.size)⟩); clear hb7 HX6)
    | (refine wpList_store_row rfl 38 (.tmp 8) (.tmp 36) rfl X7.heap.size CY.toArray rfl rfl 38 Z (Whole.new _ _ _) (by rw [List.size_toArray, HLY.out.1]; kernel_rfl) (by rw [HZS.out, List.size_toArray, HLY.out.1]) HLY.out.2.1 ?_))
  refine cut_world (fun X => Whole X X7.heap.size 38 CY.toArray ∧ Whole X N6 38 CX.toArray ∧ IsTrie (fun _ => True) X T1 .nil (some r1) ∧ IsTrie (fun _ => True) X T2 .nil (some r2) ∧ Below w.heap.size w X) ⟨setRow_heap _ _ _ _ _ _ (Whole.new _ _ _), HX7.out.1.below (below_var _ _ _ _) HX7.out.1.lt, HX7.out.2.1.below (below_var _ _ _ _), HX7.out.2.2.1.below (below_var _ _ _ _), HX7.out.2.2.2.trans ((below_var _ _ _ _).mono HX7.out.2.2.2.size)⟩ ?_
  rintro X8 h8
  have HX8 := Lib.hid h8
  clear h8 HX7 HF2
  generalize X7.heap.size = N8 at HX8 ⊢
  go_upto_region 7 with (first
    | (go_at_call 32; refine (HT8.out _).mono ?_; rintro e X9 ⟨rfl, hb9⟩; have HX9 := Lib.hid (show Whole X9 N8 38 CY.toArray ∧ Whole X9 N6 38 CX.toArray ∧ IsTrie (fun _ => True) X9 T1 .nil (some r1) ∧ IsTrie (fun _ => True) X9 T2 .nil (some r2) ∧ Below w.heap.size w X9 from ⟨HX8.out.1.below hb9 HX8.out.1.lt, HX8.out.2.1.below hb9 HX8.out.2.1.lt, HX8.out.2.2.1.below hb9, HX8.out.2.2.2.1.below hb9, HX8.out.2.2.2.2.trans (hb9.mono HX8.out.2.2.2.2.size)⟩); clear hb9 HX8)
    | (go_at_call 22; refine (HD.out _).mono ?_; rintro e Xa ⟨k3, rfl, hba, _, _⟩; have HXa := Lib.hid (show Whole Xa N8 38 CY.toArray ∧ Whole Xa N6 38 CX.toArray ∧ IsTrie (fun _ => True) Xa T1 .nil (some r1) ∧ IsTrie (fun _ => True) Xa T2 .nil (some r2) ∧ Below w.heap.size w Xa from ⟨HX9.out.1.below hba HX9.out.1.lt, HX9.out.2.1.below hba HX9.out.2.1.lt, HX9.out.2.2.1.below hba, HX9.out.2.2.2.1.below hba, HX9.out.2.2.2.2.trans (hba.mono HX9.out.2.2.2.2.size)⟩); clear hba HX9))
  have c6 : Xa.cell? ⟨N6, 18, none⟩ = some (.int .i64 2) := by rw [HXa.out.2.1.cell, List.getElem?_toArray]; exact HLX.out.2.2
  have c8 : Xa.cell? ⟨N8, 18, none⟩ = some (.int .i64 1) := by rw [HXa.out.1.cell, List.getElem?_toArray]; exact HLY.out.2.2
  clear HT8 HT16 HD
  go_wp2_with fail
  refine (HC.out _ (some r2) HXa.out.2.2.2.1).mono ?_
  rintro e Xb ⟨rfl, hbb⟩
  have HXb := Lib.hid (show IsTrie (fun _ => True) Xb T1 .nil (some r1) ∧ Below w.heap.size w Xb from ⟨HXa.out.2.2.1.below hbb, HXa.out.2.2.2.2.trans (hbb.mono HXa.out.2.2.2.2.size)⟩)
  clear hbb HXa HC
  go_wp2_with fail
  refine (HC1.out _ (some r1) HXb.out.1).mono ?_
  rintro e Xc ⟨rfl, hbc⟩
  have HBE := Lib.hid (HXb.out.2.trans (hbc.mono HXb.out.2.size))
  clear hbc
  go_wp2_with fail
  go_ret
  exact ⟨rfl, HBE.out⟩
end Tri
end Go.Proofs.Ytcpfchfhcfdcpaa
