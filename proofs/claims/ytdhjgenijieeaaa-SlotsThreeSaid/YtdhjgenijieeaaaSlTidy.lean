/- Package slots: places, tidy. -/
import Derived.Test.YtdhjgenijieeaaaSlNum
import Derived.BigQuiet
namespace Go.Proofs.Ytdhjgenijieeaaa
namespace Sl
open Go.ChangeShapes Go.WideShapes Go.ChangeAt Go.RowKit
open Num Mem Words Chacha Aead Poly Ops Quiet WinT Win Pr

theorem run_built2 {P : Program} {o : Oper} {a : Act} {w : World} (t : TypeId) (k m : Nat) (x y : Operand) (ho : o.op = .build t #[(k, x), (m, y)])
    (v u : Value) (hx : a.eval x = v) (hy : a.eval y = u) (vs : Array Value) (hb : P.built t [(k, v), (m, u)] = some vs) : (execOp a.eval o).run P w = .ok (.value (.agg vs)) w := by
  have e : P.built t ((#[(k, x), (m, y)] : Array (Nat × Operand)).map fun (i, x) => (i, a.eval x)).toList = some vs := by simpa [hx, hy] using hb
  unfold execOp
  simp only [ho, Sem.run_bind, run_build w t _ vs e, Result.andThen_ok, Sem.run_pure]
theorem run_built3 {P : Program} {o : Oper} {a : Act} {w : World} (t : TypeId) (k m l : Nat) (x y z : Operand) (ho : o.op = .build t #[(k, x), (m, y), (l, z)])
    (v u r : Value) (hx : a.eval x = v) (hy : a.eval y = u) (hz : a.eval z = r) (vs : Array Value) (hb : P.built t [(k, v), (m, u), (l, r)] = some vs) : (execOp a.eval o).run P w = .ok (.value (.agg vs)) w := by
  have e : P.built t ((#[(k, x), (m, y), (l, z)] : Array (Nat × Operand)).map fun (i, x) => (i, a.eval x)).toList = some vs := by simpa [hx, hy, hz] using hb
  unfold execOp
  simp only [ho, Sem.run_bind, run_build w t _ vs e, Result.andThen_ok, Sem.run_pure]
theorem results_rowcell {fn : Func} {p : Tmp} {ty : TypeId} {P : Program} (h : fn.results = #[.cell p ty]) (tmps : Array Value) (w : World) (g : Nat) (t : TypeId) (cs : List Value) (d : TypeDesc)
    (hp : tmps.getD p undef = .pointer (some ⟨g, 0, none⟩)) (hg : Whole w g t cs.toArray) (hu : P.underlying ty = some d) (hd : d.isRow = true) (hi : (P.info? ty).map (·.size) = some cs.length) :
    (results fn tmps).run P w = .ok (.agg cs.toArray) w := by
  have hp' : tmps[p]?.getD undef = .pointer (some ⟨g, 0, none⟩) := by simpa using hp
  simp [results, h, hp', asAddr, run_loadVar_mid w g 0 ty cs d (Poly.whole_range hg) hu hd hi]
theorem below_var (w : World) (zs cs : Array Value) (t : TypeId) : Below w.heap.size w ((w.alloc (.cells zs t)).setRow w.heap.size cs) := below_setRow (below_alloc (Below.refl _ _) _) (Nat.le_refl _) _
def p2 (B b q : Nat) : List Value := [.pointer (some ⟨B, b, none⟩), .pointer (some ⟨B, q, none⟩)]
def plcL (B : Nat) : List Value := [.pointer (some ⟨B, 1, none⟩), .pointer (some ⟨B, 75, none⟩), .pointer (some ⟨B, 2, none⟩), .pointer (some ⟨B, 147, none⟩), .pointer (some ⟨B, 0, none⟩), .pointer (some ⟨B, 3, none⟩)]
theorem plc_one (B : Nat) : (plcL B).toArray.all (·.oneCell') = true := by simp [plcL, Value.oneCell']
theorem p2_one (B b q : Nat) : (p2 B b q).toArray.all (·.oneCell') = true := by simp [p2, Value.oneCell']
theorem zero_plc (w : World) : (zeroValue 71).run Try.prog w = .ok (.agg #[.pointer none, .pointer none, .pointer none, .pointer none, .pointer none, .pointer none]) w := by kernel_rfl
theorem zero_place (w : World) : (zeroValue 70).run Try.prog w = .ok (.agg #[.pointer none, .pointer none]) w := by kernel_rfl
theorem zero_slots (w : World) : (zeroValue 36).run Try.prog w = .ok (.agg (slL noS).toArray) w := by kernel_rfl
theorem p2_built (B b q : Nat) : Try.prog.built 70 [(0, .pointer (some ⟨B, b, none⟩)), (1, .pointer (some ⟨B, q, none⟩))] = some (p2 B b q).toArray := by kernel_rfl
theorem plc_built (B : Nat) : Try.prog.built 71 [(0, .agg (p2 B 1 75).toArray), (1, .agg (p2 B 2 147).toArray), (2, .agg (p2 B 0 3).toArray)] = some (plcL B).toArray := by kernel_rfl
theorem wpList_index {P : Program} {ops : Array Oper} {rest : List Oper} {o : Oper} {a : Act} {w : World} {Q : Exit → Act → World → Prop} (hg : o.guard = none) (t : TypeId) (x ix : Operand) (ho : o.op = .index t x ix) (u i v : Value) (hx : a.eval x = u) (hi : a.eval ix = i)
    (h : (Instr.index t u i).run P w = .ok v w) (hk : wpList P ops Q rest (a.put o.dst v) w) : wpList P ops Q (o :: rest) a w :=
  wpList_plain hg fun _ hK => by
    unfold Oper.wp execOp
    simp only [ho, hx, hi, Sem.run_bind, h, Result.andThen_ok, Sem.run_pure]
    exact hK _ _ hk
theorem index0 (B : Nat) (w : World) : (Instr.index 71 (.agg (plcL B).toArray) (.int .i64 0)).run Try.prog w = .ok (.agg (p2 B 1 75).toArray) w := by kernel_rfl
theorem index1 (B : Nat) (w : World) : (Instr.index 71 (.agg (plcL B).toArray) (.int .i64 1)).run Try.prog w = .ok (.agg (p2 B 2 147).toArray) w := by kernel_rfl
theorem index2 (B : Nat) (w : World) : (Instr.index 71 (.agg (plcL B).toArray) (.int .i64 2)).run Try.prog w = .ok (.agg (p2 B 0 3).toArray) w := by kernel_rfl
set_option maxRecDepth 100000 in
set_option maxHeartbeats 4000000 in
theorem places_any (B : Nat) (w : World) : Calls Try.prog 20 #[.pointer (some ⟨B, 0, none⟩)] w fun e w' => e = .returned (.agg (plcL B).toArray) ∧ Below w.heap.size w w' := by
  have hz := zero_plc
  go_enter Try.func20, Try.ntmps20
  go_upto_region 1 with fail
  refine cut_world (fun X => Whole X w.heap.size 71 #[.pointer none, .pointer none, .pointer none, .pointer none, .pointer none, .pointer none] ∧ Below w.heap.size w X) ⟨Whole.new _ _ _, below_alloc (Below.refl _ _) _⟩ ?_
  rintro X hX
  have HX := Lib.hid hX
  clear hX hz
  refine region_drew (fun V => Below w.heap.size w V) (by kernel_rfl) HX.out.2.drew (fun hS => ?_)
  refine take 0 _ rfl (by kernel_rfl) (by kernel_rfl) (by kernel_rfl) (fun _ _ _ h => h) (by rfl) hS (by intro w _; go_simp; with_reducible rfl) ?_
  try simp only [Act.put, List.setIfInBounds_toArray, List.set_cons_zero, List.set_cons_succ]
  refine take 1 _ rfl (by kernel_rfl) (by kernel_rfl) (by kernel_rfl) (fun _ _ _ h => h) (by rfl) hS (by intro w _; go_simp; with_reducible rfl) ?_
  try simp only [Act.put, List.setIfInBounds_toArray, List.set_cons_zero, List.set_cons_succ]
  refine take 2 _ rfl (by kernel_rfl) (by kernel_rfl) (by kernel_rfl) (fun _ _ _ h => h) (by rfl) hS (by intro w _; go_simp; with_reducible rfl) ?_
  try simp only [Act.put, List.setIfInBounds_toArray, List.set_cons_zero, List.set_cons_succ]
  refine take 3 _ rfl (by kernel_rfl) (by kernel_rfl) (by kernel_rfl) (fun _ _ _ h => h) (by rfl) hS (by intro w _; go_simp; with_reducible rfl) ?_
  try simp only [Act.put, List.setIfInBounds_toArray, List.set_cons_zero, List.set_cons_succ]
  refine take 4 _ rfl (by kernel_rfl) (by kernel_rfl) (by kernel_rfl) (fun _ _ _ h => h) (by rfl) hS (by intro w _; go_simp; with_reducible rfl) ?_
  try simp only [Act.put, List.setIfInBounds_toArray, List.set_cons_zero, List.set_cons_succ]
  refine take 5 _ rfl (by kernel_rfl) (by kernel_rfl) (by kernel_rfl) (fun _ _ _ h => h) (by rfl) hS (by intro w _; go_simp; with_reducible rfl) ?_
  try simp only [Act.put, List.setIfInBounds_toArray, List.set_cons_zero, List.set_cons_succ]
  refine take 6 (.agg (p2 B 1 75).toArray) rfl (by kernel_rfl) (by kernel_rfl) (by kernel_rfl) (fun _ _ _ h => h) (by rfl) hS (fun w0 hw => run_built2 70 0 1 (.tmp 5) (.tmp 8) rfl _ _ rfl rfl _ (p2_built B 1 75)) ?_
  try simp only [Act.put, List.setIfInBounds_toArray, List.set_cons_zero, List.set_cons_succ]
  refine take 7 _ rfl (by kernel_rfl) (by kernel_rfl) (by kernel_rfl) (fun _ _ _ h => h) (by rfl) hS (by intro w _; go_simp; with_reducible rfl) ?_
  try simp only [Act.put, List.setIfInBounds_toArray, List.set_cons_zero, List.set_cons_succ]
  refine take 8 _ rfl (by kernel_rfl) (by kernel_rfl) (by kernel_rfl) (fun _ _ _ h => h) (by rfl) hS (by intro w _; go_simp; with_reducible rfl) ?_
  try simp only [Act.put, List.setIfInBounds_toArray, List.set_cons_zero, List.set_cons_succ]
  refine take 9 _ rfl (by kernel_rfl) (by kernel_rfl) (by kernel_rfl) (fun _ _ _ h => h) (by rfl) hS (by intro w _; go_simp; with_reducible rfl) ?_
  try simp only [Act.put, List.setIfInBounds_toArray, List.set_cons_zero, List.set_cons_succ]
  refine take 10 _ rfl (by kernel_rfl) (by kernel_rfl) (by kernel_rfl) (fun _ _ _ h => h) (by rfl) hS (by intro w _; go_simp; with_reducible rfl) ?_
  try simp only [Act.put, List.setIfInBounds_toArray, List.set_cons_zero, List.set_cons_succ]
  refine take 11 _ rfl (by kernel_rfl) (by kernel_rfl) (by kernel_rfl) (fun _ _ _ h => h) (by rfl) hS (by intro w _; go_simp; with_reducible rfl) ?_
  try simp only [Act.put, List.setIfInBounds_toArray, List.set_cons_zero, List.set_cons_succ]
  refine take 12 _ rfl (by kernel_rfl) (by kernel_rfl) (by kernel_rfl) (fun _ _ _ h => h) (by rfl) hS (by intro w _; go_simp; with_reducible rfl) ?_
  try simp only [Act.put, List.setIfInBounds_toArray, List.set_cons_zero, List.set_cons_succ]
  refine take 13 (.agg (p2 B 2 147).toArray) rfl (by kernel_rfl) (by kernel_rfl) (by kernel_rfl) (fun _ _ _ h => h) (by rfl) hS (fun w0 hw => run_built2 70 0 1 (.tmp 12) (.tmp 15) rfl _ _ rfl rfl _ (p2_built B 2 147)) ?_
  try simp only [Act.put, List.setIfInBounds_toArray, List.set_cons_zero, List.set_cons_succ]
  refine take 14 _ rfl (by kernel_rfl) (by kernel_rfl) (by kernel_rfl) (fun _ _ _ h => h) (by rfl) hS (by intro w _; go_simp; with_reducible rfl) ?_
  try simp only [Act.put, List.setIfInBounds_toArray, List.set_cons_zero, List.set_cons_succ]
  refine take 15 _ rfl (by kernel_rfl) (by kernel_rfl) (by kernel_rfl) (fun _ _ _ h => h) (by rfl) hS (by intro w _; go_simp; with_reducible rfl) ?_
  try simp only [Act.put, List.setIfInBounds_toArray, List.set_cons_zero, List.set_cons_succ]
  refine take 16 _ rfl (by kernel_rfl) (by kernel_rfl) (by kernel_rfl) (fun _ _ _ h => h) (by rfl) hS (by intro w _; go_simp; with_reducible rfl) ?_
  try simp only [Act.put, List.setIfInBounds_toArray, List.set_cons_zero, List.set_cons_succ]
  refine take 17 _ rfl (by kernel_rfl) (by kernel_rfl) (by kernel_rfl) (fun _ _ _ h => h) (by rfl) hS (by intro w _; go_simp; with_reducible rfl) ?_
  try simp only [Act.put, List.setIfInBounds_toArray, List.set_cons_zero, List.set_cons_succ]
  refine take 18 _ rfl (by kernel_rfl) (by kernel_rfl) (by kernel_rfl) (fun _ _ _ h => h) (by rfl) hS (by intro w _; go_simp; with_reducible rfl) ?_
  try simp only [Act.put, List.setIfInBounds_toArray, List.set_cons_zero, List.set_cons_succ]
  refine take 19 _ rfl (by kernel_rfl) (by kernel_rfl) (by kernel_rfl) (fun _ _ _ h => h) (by rfl) hS (by intro w _; go_simp; with_reducible rfl) ?_
  try simp only [Act.put, List.setIfInBounds_toArray, List.set_cons_zero, List.set_cons_succ]
  refine take 20 (.agg (p2 B 0 3).toArray) rfl (by kernel_rfl) (by kernel_rfl) (by kernel_rfl) (fun _ _ _ h => h) (by rfl) hS (fun w0 hw => run_built2 70 0 1 (.tmp 19) (.tmp 22) rfl _ _ rfl rfl _ (p2_built B 0 3)) ?_
  try simp only [Act.put, List.setIfInBounds_toArray, List.set_cons_zero, List.set_cons_succ]
  refine take 21 (.agg (plcL B).toArray) rfl (by kernel_rfl) (by kernel_rfl) (by kernel_rfl) (fun _ _ _ h => h) (by rfl) hS (fun w0 hw => run_built3 71 0 1 2 (.tmp 9) (.tmp 16) (.tmp 23) rfl _ _ _ rfl rfl rfl _ (plc_built B)) ?_
  try simp only [Act.put, List.setIfInBounds_toArray, List.set_cons_zero, List.set_cons_succ]
  refine alone 22 rfl (by kernel_rfl) (by rfl) ?_
  intro K hK
  refine wp_store_row 71 (.tmp 2) (.tmp 24) rfl w.heap.size (plcL B).toArray (by rfl) (by rfl) 71 _ HX.out.1.drew (by kernel_rfl) (by kernel_rfl) (plc_one B) ?_
  have HE := Lib.hid (show Whole (X.drew.setRow w.heap.size (plcL B).toArray) w.heap.size 71 (plcL B).toArray ∧ Below w.heap.size w (X.drew.setRow w.heap.size (plcL B).toArray) from ⟨setRow_heap _ _ _ _ _ _ HX.out.1.drew, below_setRow HX.out.2.drew (Nat.le_refl _) _⟩)
  refine hK.out _ _ HE.out.2 ?_
  clear hK K
  try simp only [Act.put]
  refine region_end (by kernel_rfl) ?_
  go_wp2_with fail
  refine bodyPost_ret (results_rowcell rfl _ _ w.heap.size 71 (plcL B) _ rfl HE.out.1 rfl rfl (by kernel_rfl)) rfl ?_
  exact ⟨rfl, HE.out.2⟩
structure TdW (w : World) (B : Nat) (x : SS) (X : World) : Prop where
  arg : Whole X B 36 (slL x).toArray
  res : Whole X (B + 1) 36 (slL noS).toArray
  bel : Below B w X
theorem TdW.below {w : World} {B : Nat} {x : SS} {X Y : World} (h : TdW w B x X) (hb : Below X.heap.size X Y) : TdW w B x Y :=
  ⟨h.arg.below hb h.arg.lt, h.res.below hb h.res.lt, h.bel.trans (hb.mono (Nat.le_of_lt h.arg.lt))⟩
theorem TdW.setP {w : World} {B : Nat} {x : SS} {X : World} (h : TdW w B x X) (q : PS) : TdW w B { x with p := q } (X.setCells B 3 (pairL q)) := ⟨put_p h.arg q, whole_cells _ _ (by omega) h.res, below_cells _ _ h.bel⟩
theorem TdW.setC {w : World} {B : Nat} {x : SS} {X : World} (h : TdW w B x X) (q : PS) : TdW w B { x with c := q } (X.setCells B 75 (pairL q)) := ⟨put_c h.arg q, whole_cells _ _ (by omega) h.res, below_cells _ _ h.bel⟩
theorem TdW.setN {w : World} {B : Nat} {x : SS} {X : World} (h : TdW w B x X) (q : PS) : TdW w B { x with n := q } (X.setCells B 147 (pairL q)) := ⟨put_n h.arg q, whole_cells _ _ (by omega) h.res, below_cells _ _ h.bel⟩
def t1 (x : SS) : SS := { x with c := if x.hc = true then x.c else noP }
def t2 (x : SS) : SS := { t1 x with n := if x.hn = true then x.n else noP }
theorem tidy_t2 (x : SS) : tidy x = { t2 x with p := if x.hp = true then x.p else noP } := rfl
set_option maxRecDepth 100000 in
set_option maxHeartbeats 8000000 in
theorem tidy_any (x : SS) (w : World) : Calls Try.prog 16 #[slV x] w fun e w' => e = .returned (slV (tidy x)) ∧ Below w.heap.size w w' := by
  unfold slV
  have hz := zero_slots
  have hz2 := zero_place
  have HPC := Lib.hid places_any
  have HSZ := Lib.hid (And.intro (slL_length x) (sl_one x))
  have HT1 := Lib.hid (show (x.hc = true → t1 x = x) ∧ (x.hc = false → t1 x = { x with c := noP }) from ⟨fun h => by unfold t1; rw [if_pos h], fun h => by unfold t1; rw [h]; rfl⟩)
  have HT2 := Lib.hid (show ((t1 x).hn = true → t2 x = t1 x) ∧ ((t1 x).hn = false → t2 x = { t1 x with n := noP }) from ⟨fun h => by unfold t2; rw [if_pos (show x.hn = true from h)]; rfl, fun h => by unfold t2; rw [show x.hn = false from h]; rfl⟩)
  have HT3 := Lib.hid (show ((t2 x).hp = true → tidy x = t2 x) ∧ ((t2 x).hp = false → tidy x = { t2 x with p := noP }) from ⟨fun h => by rw [tidy_t2, if_pos (show x.hp = true from h)]; rfl, fun h => by rw [tidy_t2, show x.hp = false from h]; rfl⟩)
  have HFL := Lib.hid (And.intro (slL_length (tidy x)) (sl_one (tidy x)))
  have HNB := Lib.hid pair_built0
  have HNL := Lib.hid (And.intro (pairL_length noP) (pair_one noP))
  have HPUTP := Lib.hid (fun (V : World) (y : SS) (h : TdW w w.heap.size y V) => h.setP noP)
  have HPUTC := Lib.hid (fun (V : World) (y : SS) (h : TdW w w.heap.size y V) => h.setC noP)
  have HPUTN := Lib.hid (fun (V : World) (y : SS) (h : TdW w w.heap.size y V) => h.setN noP)
  obtain ⟨NP, hNP⟩ : ∃ L, pairL noP = L := ⟨_, rfl⟩
  rw [hNP] at HNB HNL HPUTP HPUTC HPUTN
  obtain ⟨L, hL⟩ : ∃ L, slL x = L := ⟨_, rfl⟩
  have HL := Lib.hid hL
  rw [hL] at HSZ ⊢
  obtain ⟨L3, hL3⟩ : ∃ L, slL (tidy x) = L := ⟨_, rfl⟩
  have HL3 := Lib.hid hL3
  rw [hL3] at HFL ⊢
  clear hNP hL hL3
  go_enter Try.func16, Try.ntmps16
  go_upto_region 1 with fail
  refine cut_world (fun X => TdW w w.heap.size x X) ⟨by rw [HL.out]; exact (Whole.new _ _ _).alloc _, whole_new _ _ (by simp), below_alloc (below_alloc (Below.refl _ _) _) _⟩ ?_
  rintro X hX
  generalize hB : w.heap.size = B at hX HPUTP HPUTC HPUTN ⊢
  have HB := Lib.hid hB
  have HX := Lib.hid hX
  clear hB hX hz
  go_wp2_with (go_at_call 20; refine (HPC.out B _).mono ?_; rintro e X1 ⟨rfl, hb1⟩; have HX1 := Lib.hid (HX.out.below hb1); clear hb1)
  go_loopw [6] (fun i X => (i = .int .i64 0 ∧ TdW w B x X) ∨ (i = .int .i64 1 ∧ TdW w B (t1 x) X) ∨ (i = .int .i64 2 ∧ TdW w B (t2 x) X) ∨ (i = .int .i64 3 ∧ TdW w B (tidy x) X)) (fun i _ => 3 - (intOf i).toNat)
  case atStart => exact .inl ⟨rfl, HX1.out⟩
  case round =>
    clear HX HX1
    rcases hrel with ⟨rfl, hT⟩ | ⟨rfl, hT⟩ | ⟨rfl, hT⟩ | ⟨rfl, hT⟩
    · have HPUT := HPUTC
      have HT := Lib.hid hT
      clear hT
      obtain ⟨hb, hhb⟩ : ∃ b, (x).hc = b := ⟨_, rfl⟩
      have HHB := Lib.hid hhb
      have HCL := Lib.hid (show ∀ V, TdW w B (x) V → V.cell? ⟨B, 1, none⟩ = some (.bool hb) from fun V hV => by rw [← HHB.out]; exact at_hc hV.arg)
      clear hhb
      go_upto_region 4 with (first
        | (refine wpList_index rfl 71 (.tmp 5) (.tmp 6) rfl _ _ _ rfl rfl (index0 B _) ?_)
        | (refine wpList_store_row rfl 70 (.tmp 4) (.tmp 8) rfl wr.heap.size (p2 B 1 75).toArray rfl rfl 70 _ (Whole.new _ _ _) (by kernel_rfl) (by kernel_rfl) (p2_one B 1 75) ?_))
      refine cut_world (fun V => TdW w B (x) V ∧ Whole V wr.heap.size 70 (p2 B 1 75).toArray) ⟨HT.out.below (below_var _ _ _ _), setRow_heap _ _ _ _ _ _ (Whole.new _ _ _)⟩ ?_
      rintro V hV
      have HV := Lib.hid hV
      generalize wr.heap.size = M at HV ⊢
      clear hV HT
      have c0 : V.cell? ⟨M, 0, none⟩ = some (.pointer (some ⟨B, 1, none⟩)) := HV.out.2.cell 0
      have c1 : V.cell? ⟨M, 1, none⟩ = some (.pointer (some ⟨B, 75, none⟩)) := HV.out.2.cell 1
      have cb := HCL.out _ HV.out.1
      cases hb with
      | true =>
        go_wp2_with fail
        go_round
        case rel => exact .inr (.inl ⟨rfl, by rw [HT1.out.1 HHB.out]; exact HV.out.1⟩)
        case measure => simp only [intOf]; omega
      | false =>
        go_wp2_with (first
          | (refine wpList_built0 rfl 34 rfl NP.toArray HNB.out ?_)
          | (refine wpList_store_mid rfl 34 (.tmp 17) (.tmp 16) rfl B 75 NP.toArray rfl rfl (by rw [List.size_toArray, HNL.out.1]; exact there_at HV.out.1.arg _ _ (by omega)) (by rw [List.size_toArray, HNL.out.1]; kernel_rfl) HNL.out.2 ?_; have HV2 := Lib.hid (HPUT.out V (x) HV.out.1)))
        go_round
        case rel => exact .inr (.inl ⟨rfl, by rw [HT1.out.2 HHB.out]; exact HV2.out⟩)
        case measure => simp only [intOf]; omega
    · have HPUT := HPUTN
      have HT := Lib.hid hT
      clear hT
      obtain ⟨hb, hhb⟩ : ∃ b, (t1 x).hn = b := ⟨_, rfl⟩
      have HHB := Lib.hid hhb
      have HCL := Lib.hid (show ∀ V, TdW w B (t1 x) V → V.cell? ⟨B, 2, none⟩ = some (.bool hb) from fun V hV => by rw [← HHB.out]; exact at_hn hV.arg)
      clear hhb
      go_upto_region 4 with (first
        | (refine wpList_index rfl 71 (.tmp 5) (.tmp 6) rfl _ _ _ rfl rfl (index1 B _) ?_)
        | (refine wpList_store_row rfl 70 (.tmp 4) (.tmp 8) rfl wr.heap.size (p2 B 2 147).toArray rfl rfl 70 _ (Whole.new _ _ _) (by kernel_rfl) (by kernel_rfl) (p2_one B 2 147) ?_))
      refine cut_world (fun V => TdW w B (t1 x) V ∧ Whole V wr.heap.size 70 (p2 B 2 147).toArray) ⟨HT.out.below (below_var _ _ _ _), setRow_heap _ _ _ _ _ _ (Whole.new _ _ _)⟩ ?_
      rintro V hV
      have HV := Lib.hid hV
      generalize wr.heap.size = M at HV ⊢
      clear hV HT
      have c0 : V.cell? ⟨M, 0, none⟩ = some (.pointer (some ⟨B, 2, none⟩)) := HV.out.2.cell 0
      have c1 : V.cell? ⟨M, 1, none⟩ = some (.pointer (some ⟨B, 147, none⟩)) := HV.out.2.cell 1
      have cb := HCL.out _ HV.out.1
      cases hb with
      | true =>
        go_wp2_with fail
        go_round
        case rel => exact .inr (.inr (.inl ⟨rfl, by rw [HT2.out.1 HHB.out]; exact HV.out.1⟩))
        case measure => simp only [intOf]; omega
      | false =>
        go_wp2_with (first
          | (refine wpList_built0 rfl 34 rfl NP.toArray HNB.out ?_)
          | (refine wpList_store_mid rfl 34 (.tmp 17) (.tmp 16) rfl B 147 NP.toArray rfl rfl (by rw [List.size_toArray, HNL.out.1]; exact there_at HV.out.1.arg _ _ (by omega)) (by rw [List.size_toArray, HNL.out.1]; kernel_rfl) HNL.out.2 ?_; have HV2 := Lib.hid (HPUT.out V (t1 x) HV.out.1)))
        go_round
        case rel => exact .inr (.inr (.inl ⟨rfl, by rw [HT2.out.2 HHB.out]; exact HV2.out⟩))
        case measure => simp only [intOf]; omega
    · have HPUT := HPUTP
      have HT := Lib.hid hT
      clear hT
      obtain ⟨hb, hhb⟩ : ∃ b, (t2 x).hp = b := ⟨_, rfl⟩
      have HHB := Lib.hid hhb
      have HCL := Lib.hid (show ∀ V, TdW w B (t2 x) V → V.cell? ⟨B, 0, none⟩ = some (.bool hb) from fun V hV => by rw [← HHB.out]; exact at_hp hV.arg)
      clear hhb
      go_upto_region 4 with (first
        | (refine wpList_index rfl 71 (.tmp 5) (.tmp 6) rfl _ _ _ rfl rfl (index2 B _) ?_)
        | (refine wpList_store_row rfl 70 (.tmp 4) (.tmp 8) rfl wr.heap.size (p2 B 0 3).toArray rfl rfl 70 _ (Whole.new _ _ _) (by kernel_rfl) (by kernel_rfl) (p2_one B 0 3) ?_))
      refine cut_world (fun V => TdW w B (t2 x) V ∧ Whole V wr.heap.size 70 (p2 B 0 3).toArray) ⟨HT.out.below (below_var _ _ _ _), setRow_heap _ _ _ _ _ _ (Whole.new _ _ _)⟩ ?_
      rintro V hV
      have HV := Lib.hid hV
      generalize wr.heap.size = M at HV ⊢
      clear hV HT
      have c0 : V.cell? ⟨M, 0, none⟩ = some (.pointer (some ⟨B, 0, none⟩)) := HV.out.2.cell 0
      have c1 : V.cell? ⟨M, 1, none⟩ = some (.pointer (some ⟨B, 3, none⟩)) := HV.out.2.cell 1
      have cb := HCL.out _ HV.out.1
      cases hb with
      | true =>
        go_wp2_with fail
        go_round
        case rel => exact .inr (.inr (.inr ⟨rfl, by rw [HT3.out.1 HHB.out]; exact HV.out.1⟩))
        case measure => simp only [intOf]; omega
      | false =>
        go_wp2_with (first
          | (refine wpList_built0 rfl 34 rfl NP.toArray HNB.out ?_)
          | (refine wpList_store_mid rfl 34 (.tmp 17) (.tmp 16) rfl B 3 NP.toArray rfl rfl (by rw [List.size_toArray, HNL.out.1]; exact there_at HV.out.1.arg _ _ (by omega)) (by rw [List.size_toArray, HNL.out.1]; kernel_rfl) HNL.out.2 ?_; have HV2 := Lib.hid (HPUT.out V (t2 x) HV.out.1)))
        go_round
        case rel => exact .inr (.inr (.inr ⟨rfl, by rw [HT3.out.2 HHB.out]; exact HV2.out⟩))
        case measure => simp only [intOf]; omega
    · have HT := Lib.hid hT
      clear hT
      have HA := Lib.hid (show Whole wr B 36 L3.toArray from by rw [← HL3.out]; exact HT.out.arg)
      go_wp2_with (first
        | (refine wpList_load_row rfl 36 (.tmp 1) rfl B rfl 36 L3.toArray (0, 0) _ HA.out rfl rfl (by rw [List.size_toArray, HFL.out.1]; kernel_rfl) ?_)
        | (refine wpList_store_row rfl 36 (.tmp 2) (.tmp 19) rfl (B + 1) L3.toArray rfl rfl 36 _ HT.out.res (by rw [List.size_toArray, HFL.out.1]; kernel_rfl) (by rw [sl_size, List.size_toArray, HFL.out.1]) HFL.out.2 ?_))
      have HE := Lib.hid (setRow_heap _ _ _ L3.toArray _ _ HT.out.res)
      refine bodyPost_ret (results_rowcell rfl _ _ (B + 1) 36 L3 _ rfl HE.out rfl rfl (by rw [HFL.out.1]; kernel_rfl)) rfl ?_
      exact ⟨rfl, by rw [HB.out]; exact below_setRow HT.out.bel (Nat.le_succ _) _⟩
end Sl
end Go.Proofs.Ytdhjgenijieeaaa
