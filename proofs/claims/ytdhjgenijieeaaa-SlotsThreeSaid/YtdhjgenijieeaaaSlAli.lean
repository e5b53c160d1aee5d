/- alive of layer 28. -/
import Derived.Test.YtdhjgenijieeaaaSlOpen
import Derived.Test.YtdhjgenijieeaaaSlReady
import Derived.Test.YtdhjgenijieeaaaFloatD
namespace Go.Proofs.Ytdhjgenijieeaaa
namespace Sl
open Go.ChangeShapes Go.WideShapes Go.ChangeAt Go.RowKit
open Num Mem Words Chacha Aead Poly Ops Quiet WinT Win Pr

/-- what is known of the operations of 'x, y, e := s.Seal(make([]byte, n), t)' -/
def slPhi (n : Nat) (LV : Array Value) (D : Value → List Value) (E : Int) (R : Value → World → Prop) (M N : List Value) (W : World) (k : Nat) (v : Value) (w : World) : Prop :=
  match k with
  | 0 => ∃ g, v = .slice (some ⟨g, 0, none⟩) n n ∧ Rd w (some ⟨g, 0, none⟩) n (fun _ => 0)
  | 1 => ∃ x, v = .tuple #[.agg LV, .agg (D x).toArray, .int .i64 E] ∧ R x w
  | 2 => ∃ x, v = .tuple #[.agg LV, .agg (D x).toArray, .int .i64 E] ∧ R x w
  | 3 => v = .agg LV
  | 4 => ∃ x, v = .agg (D x).toArray ∧ R x w
  | 5 => v = .int .i64 E
  | 6 => ∃ g, v = .pointer (some ⟨g, 0, none⟩) ∧ W.heap.size ≤ g ∧ Whole w g 36 M.toArray
  | _ => ∃ g, v = .pointer (some ⟨g, 0, none⟩) ∧ W.heap.size ≤ g ∧ Whole w g 40 N.toArray
theorem slPhi_stays {n : Nat} {LV : Array Value} {D : Value → List Value} {E : Int} {R : Value → World → Prop} {M N : List Value} {W : World} (hR : ∀ x w w', R x w → Below w.heap.size w w' → R x w') {k : Nat} {v : Value} {w w' : World}
    (h : slPhi n LV D E R M N W k v w) (hb : Below w.heap.size w w') : slPhi n LV D E R M N W k v w' := by
  unfold slPhi at h ⊢
  split at h
  · obtain ⟨g, e, h⟩ := h; exact ⟨g, e, h.below hb (Nat.le_refl _)⟩
  · obtain ⟨x, e, h⟩ := h; exact ⟨x, e, hR _ _ _ h hb⟩
  · obtain ⟨x, e, h⟩ := h; exact ⟨x, e, hR _ _ _ h hb⟩
  · exact h
  · obtain ⟨x, e, h⟩ := h; exact ⟨x, e, hR _ _ _ h hb⟩
  · exact h
  · obtain ⟨g, e, h1, h2⟩ := h; exact ⟨g, e, h1, h2.below hb h2.lt⟩
  · obtain ⟨g, e, h1, h2⟩ := h; exact ⟨g, e, h1, h2.below hb h2.lt⟩
def boxA (x : Value) (_ : World) : Prop := ∃ A, x = .slice A 32 32
theorem boxA_stays : ∀ x w w', boxA x w → Below w.heap.size w w' → boxA x w' := fun _ _ _ h _ => h
theorem run_made {o : Oper} {a : Act} {w : World} (x y : Operand) (ho : o.op = .makeSlice 38 x y) (n : Nat) (hn : n ≤ 140737488355328) (hx : a.eval x = .int .i64 (n : Nat)) (hy : a.eval y = .int .i64 (n : Nat)) :
    (execOp a.eval o).run Try.prog w = .ok (.value (.slice (some ⟨w.heap.size, 0, none⟩) n n)) (w.alloc (.cells (byteCells (fun _ => 0) n).toArray 5)) := by
  unfold execOp
  simp only [ho, hx, hy, Sem.run_bind, made_bytes n hn, Result.andThen_ok, Sem.run_pure]
def zf : Nat → Nat := fun _ => 0
def ka : PS := newP zf zf 4 0 false 0
def kb : PS := newP zf zf 5 0 true 0
def xa : SS := inst noS ka
def xb : SS := inst noS kb
def xc : SS := tidy (sealed xb)
theorem keys_a : Try.prog.built 27 [(2, .int .u32 4)] = some (keysL zf zf 4 0 false).toArray := by kernel_rfl
theorem keys_b : Try.prog.built 27 [(2, .int .u32 5), (4, .bool true)] = some (keysL zf zf 5 0 true).toArray := by kernel_rfl
theorem wpList_built1 {P : Program} {ops : Array Oper} {rest : List Oper} {o : Oper} {a : Act} {w : World} {Q : Exit → Act → World → Prop} (hg : o.guard = none) (t : TypeId) (k1 : Nat) (x1 : Operand) (ho : o.op = .build t #[(k1, x1)])
    (v1 : Value) (h1 : a.eval x1 = v1) (vs : Array Value) (hb : P.built t [(k1, v1)] = some vs) (h : wpList P ops Q rest (a.put o.dst (.agg vs)) w) : wpList P ops Q (o :: rest) a w := by
  have e : P.built t ((#[(k1, x1)] : Array (Nat × Operand)).map fun (i, x) => (i, a.eval x)).toList = some vs := by simpa [h1] using hb
  refine wpList_build hg t #[(k1, x1)] ho (by rw [e]; rfl) ?_
  rw [e]
  exact h
theorem kb_ok : kb.ok := ⟨fun _ => (by decide : 0 < 256), fun _ => (by decide : 0 < 256), by decide, by decide, by decide, by decide, by decide, ⟨by decide, by decide, by decide⟩⟩
set_option maxRecDepth 100000 in
set_option maxHeartbeats 8000000 in
theorem alive_any (w : World) : Calls Try.prog 6 #[] w fun e w' => e = .returned (.bool true) ∧ Below w.heap.size w w' := by
  have HIA := Lib.hid (fun w => install_ok noS zf zf 4 0 false 0 (by decide) w)
  have HIB := Lib.hid (fun w => install_ok noS zf zf 5 0 true 0 (by decide) w)
  have HSN := Lib.hid (fun w => seal_none xa rfl none 0 0 1 w)
  have HSE := Lib.hid (show ∀ w A, Rd w A 16 (fun _ => 0) → Calls Try.prog 8 #[.agg (slL xb).toArray, .slice A 16 16, .int .i64 1] w fun e w' => (∃ A', e = .returned (.tuple #[.agg (slL xc).toArray, .agg (dataL 0 0 (.slice A' 32 32)).toArray, .int .i64 0])) ∧ Below w.heap.size w w' from
    fun w A hr => (seal_fine' xb rfl kb_ok A 16 16 (fun _ => 0) (fun _ => by omega) 1 (by omega) (by omega) (by decide) w hr).mono fun e w' ⟨A', h1, h2⟩ => ⟨⟨A', h1⟩, h2⟩)
  have HR1 := Lib.hid (show ∀ w, Calls Try.prog 13 #[.agg (slL xb).toArray, .int .i64 1] w fun e w' => e = .returned (.bool true) ∧ Below w.heap.size w w' from fun w => ready_any xb 1 (by omega) (by omega) w)
  have HR2 := Lib.hid (show ∀ w, Calls Try.prog 13 #[.agg (slL xb).toArray, .int .i64 180000] w fun e w' => e = .returned (.bool false) ∧ Below w.heap.size w w' from fun w => ready_any xb 180000 (by omega) (by omega) w)
  have HEX := Lib.hid (fun w => expire_any xb 180000 (by omega) (by omega) w)
  have HCO := Lib.hid (show ∀ w, Calls Try.prog 12 #[slV (expire xb 180000)] w fun e w' => e = .returned (.int .i64 0) ∧ Below w.heap.size w w' from fun w => count_any (expire xb 180000) w)
  rw [show inst noS (newP zf zf 4 0 false 0) = xa from rfl] at HIA
  rw [show inst noS (newP zf zf 5 0 true 0) = xb from rfl] at HIB
  unfold slV at HIA HIB HSN HEX HCO
  have HZ := Lib.hid zero_slots
  have HZD := Lib.hid (show ∀ w : World, (zeroValue 40).run Try.prog w = .ok (.agg noD.toArray) w from zero_data)
  have HMS := Lib.hid (slL_length noS)
  have HMO := Lib.hid (sl_one noS)
  have HNS := Lib.hid (show noD.length = 3 from rfl)
  have HNO := Lib.hid noD_one
  have HLA := Lib.hid (And.intro (slL_length xa) (sl_one xa))
  have HLB := Lib.hid (And.intro (slL_length xb) (sl_one xb))
  have HL3 := Lib.hid (And.intro (slL_length xc) (sl_one xc))
  have HKA := Lib.hid keys_a
  have HKB := Lib.hid keys_b
  have HFA := Lib.hid (show ∀ V g, Whole V g 36 (slL xa).toArray → V.cell? ⟨g, 2, none⟩ = some (.bool true) from fun V g h => at_hn h)
  have HFB := Lib.hid (show ∀ V g, Whole V g 36 (slL xb).toArray → V.cell? ⟨g, 1, none⟩ = some (.bool true) from fun V g h => at_hc h)
  have HFC := Lib.hid (show ∀ V g, Whole V g 36 (slL xc).toArray → V.cell? ⟨g, 143, none⟩ = some (.int .u64 1) from fun V g h => sent_c h)
  have HD0 := Lib.hid (show ∀ (x : Value) X g T, Whole X g T (dataL 0 0 x).toArray → X.cell? ⟨g, 2, none⟩ = some x from fun x X g T h => (data_at 0 0 x h).2.2)
  have HDS := Lib.hid (show ∀ x, (dataL 0 0 x).length = 3 from fun _ => rfl)
  have HD1 := Lib.hid (show ∀ A k c, (dataL 0 0 (.slice A k c)).toArray.all (·.oneCell') = true from data_one 0 0)
  obtain ⟨D, hD⟩ : ∃ D : Value → List Value, dataL 0 0 = D := ⟨_, rfl⟩
  have hN0 : noD = dataL 0 0 (.slice none 0 0) := rfl
  obtain ⟨M, hM⟩ : ∃ M, slL noS = M := ⟨_, rfl⟩
  obtain ⟨N, hN⟩ : ∃ M, noD = M := ⟨_, rfl⟩
  obtain ⟨L1, hL1⟩ : ∃ M, slL xa = M := ⟨_, rfl⟩
  obtain ⟨L2, hL2⟩ : ∃ M, slL xb = M := ⟨_, rfl⟩
  obtain ⟨L3, hL3⟩ : ∃ M, slL xc = M := ⟨_, rfl⟩
  obtain ⟨LX, hLX⟩ : ∃ M, slL (expire xb 180000) = M := ⟨_, rfl⟩
  obtain ⟨KA, hKA⟩ : ∃ M, keysL zf zf 4 0 false = M := ⟨_, rfl⟩
  obtain ⟨KB, hKB⟩ : ∃ M, keysL zf zf 5 0 true = M := ⟨_, rfl⟩
  rw [hM, hKA, hL1] at HIA
  rw [hM, hKB, hL2] at HIB
  rw [hL1, hN] at HSN
  rw [hD, hL2, hL3] at HSE
  rw [hL2] at HR1 HR2 HLB HFB
  rw [hL2, hLX] at HEX
  rw [hLX] at HCO
  have HZ2 := Lib.hid (show ∀ w : World, (zeroValue 36).run Try.prog w = .ok (.agg M.toArray) w from by rw [← hM]; exact HZ.out)
  clear HZ
  have HZ := Lib.hid HZ2.out
  clear HZ2
  rw [hM] at HMS HMO
  rw [hN] at HZD HNS HNO
  rw [hL1] at HLA HFA
  rw [hL3] at HL3 HFC
  rw [hKA] at HKA
  rw [hKB] at HKB
  rw [hD] at HD0 HDS HD1
  clear hN0 hM hN hL1 hL2 hL3 hLX hKA hKB hD
  go_enter Try.func6, Try.ntmps6
  have hz := HZ.out
  have hzd := HZD.out
  go_upto_region 2 with fail
  refine cut_world (fun X => Whole X w.heap.size 36 M.toArray ∧ Below w.heap.size w X) ⟨Whole.new _ _ _, below_alloc (Below.refl _ _) _⟩ ?_
  rintro X0 h0
  have H0 := Lib.hid h0
  clear h0
  go_upto_region 3 with (first
    | (refine wpList_load_row rfl 36 (.tmp 1) rfl w.heap.size rfl 36 M.toArray (0, 0) _ H0.out.1 rfl rfl (by rw [List.size_toArray, HMS.out]; kernel_rfl) ?_)
    | (refine wpList_built1 rfl 27 2 (.const (.int .u32 4)) rfl (.int .u32 4) rfl KA.toArray HKA.out ?_)
    | (go_at_call 7; refine (HIA.out _).mono ?_; rintro e X1 ⟨rfl, hb⟩; have H1 := Lib.hid (show Whole X1 w.heap.size 36 M.toArray ∧ Below w.heap.size w X1 from ⟨H0.out.1.below hb H0.out.1.lt, H0.out.2.trans (hb.mono H0.out.2.size)⟩); clear hb)
    | (refine wpList_store_row rfl 36 (.tmp 2) (.tmp 16) rfl X1.heap.size L1.toArray rfl rfl 36 _ (Whole.new _ _ _) (by rw [List.size_toArray, HLA.out.1]; kernel_rfl) (by rw [List.size_toArray, List.size_toArray, HMS.out, HLA.out.1]) HLA.out.2 ?_))
  refine cut_world (fun X => Whole X w.heap.size 36 M.toArray ∧ Whole X X1.heap.size 36 L1.toArray ∧ Below w.heap.size w X) ⟨H1.out.1.below (below_var _ _ _ _) H1.out.1.lt, setRow_heap _ _ _ _ _ _ (Whole.new _ _ _), H1.out.2.trans ((below_var _ _ _ _).mono H1.out.2.size)⟩ ?_
  rintro X2 h2
  generalize X1.heap.size = g1 at h2 ⊢
  have H2 := Lib.hid h2
  clear h2 H0 H1
  go_upto_region 4 with (first
    | (refine wpList_load_row rfl 36 (.tmp 2) rfl g1 rfl 36 L1.toArray (0, 0) _ H2.out.2.1 rfl rfl (by rw [List.size_toArray, HLA.out.1]; kernel_rfl) ?_)
    | (go_at_call 8; refine (HSN.out _).mono ?_; rintro e X3 ⟨rfl, hb⟩; have H3 := Lib.hid (show Whole X3 w.heap.size 36 M.toArray ∧ Whole X3 g1 36 L1.toArray ∧ Below w.heap.size w X3 from ⟨H2.out.1.below hb H2.out.1.lt, H2.out.2.1.below hb H2.out.2.1.lt, H2.out.2.2.trans (hb.mono H2.out.2.2.size)⟩); clear hb)
    | (refine wpList_store_row rfl 36 (.tmp 4) (.tmp 21) rfl X3.heap.size L1.toArray rfl rfl 36 _ ((Whole.new _ _ _).alloc _) (by rw [List.size_toArray, HLA.out.1]; kernel_rfl) (by rw [List.size_toArray, List.size_toArray, HMS.out, HLA.out.1]) HLA.out.2 ?_)
    | (refine wpList_store_row rfl 40 (.tmp 5) (.tmp 22) rfl (X3.heap.size + 1) N.toArray rfl rfl 40 N.toArray (Whole.farRow (whole_new _ _ (by simp)) (by omega) _) (by rw [List.size_toArray, HNS.out]; kernel_rfl) rfl HNO.out ?_))
  refine cut_world (fun X => Whole X w.heap.size 36 M.toArray ∧ Whole X g1 36 L1.toArray ∧ Below w.heap.size w X) ⟨H3.out.1.below (below_two _ _ _ _ _) H3.out.1.lt, H3.out.2.1.below (below_two _ _ _ _ _) H3.out.2.1.lt, H3.out.2.2.trans ((below_two _ _ _ _ _).mono H3.out.2.2.size)⟩ ?_
  rintro X4 h4
  have H4 := Lib.hid h4
  clear h4 H2 H3
  go_upto_region 5 with (first
    | (refine wpList_load_row rfl 36 (.tmp 1) rfl w.heap.size rfl 36 M.toArray (0, 0) _ H4.out.1 rfl rfl (by rw [List.size_toArray, HMS.out]; kernel_rfl) ?_)
    | (refine Sl.wpList_built2 rfl 27 2 4 (.const (.int .u32 5)) (.const (.bool true)) rfl (.int .u32 5) (.bool true) rfl rfl KB.toArray HKB.out ?_)
    | (go_at_call 7; refine (HIB.out _).mono ?_; rintro e X5 ⟨rfl, hb⟩; have H5 := Lib.hid (show Whole X5 g1 36 L1.toArray ∧ Below w.heap.size w X5 from ⟨H4.out.2.1.below hb H4.out.2.1.lt, H4.out.2.2.trans (hb.mono H4.out.2.2.size)⟩); clear hb)
    | (refine wpList_store_row rfl 36 (.tmp 7) (.tmp 28) rfl X5.heap.size L2.toArray rfl rfl 36 _ (Whole.new _ _ _) (by rw [List.size_toArray, HLB.out.1]; kernel_rfl) (by rw [List.size_toArray, List.size_toArray, HMS.out, HLB.out.1]) HLB.out.2 ?_))
  refine cut_world (fun X => Whole X g1 36 L1.toArray ∧ Whole X X5.heap.size 36 L2.toArray ∧ Below w.heap.size w X) ⟨H5.out.1.below (below_var _ _ _ _) H5.out.1.lt, setRow_heap _ _ _ _ _ _ (Whole.new _ _ _), H5.out.2.trans ((below_var _ _ _ _).mono H5.out.2.size)⟩ ?_
  rintro W2 h6
  generalize X5.heap.size = g7 at h6 ⊢
  have HW := Lib.hid h6
  clear h6 H4 H5 hz hzd HIA HIB HSN HKA HKB
  refine region_start (fun Y => Below W2.heap.size W2 Y) (by kernel_rfl) (Below.drew (Below.refl _ _)) ?_
  intro V0 hS
  refine take 0 (.agg L2.toArray) rfl (by kernel_rfl) (by kernel_rfl) (by kernel_rfl) (fun _ _ _ h => h) (by rfl) hS (fun V hV => run_load_in 36 (.tmp 7) rfl g7 rfl L2.toArray 219 (by rw [List.size_toArray, HLB.out.1]) (HW.out.2.1.below hV HW.out.2.1.lt) rfl rfl (by kernel_rfl)) ?_
  try simp only [Act.put, List.setIfInBounds_toArray, List.set_cons_zero, List.set_cons_succ]
  obtain ⟨Φ, hΦ⟩ : ∃ Φ : Nat → Value → World → Prop, Φ = fun i => slPhi 16 L3.toArray D 0 boxA M N W2 ((fun i => match i with | 1 => 0 | 2 => 1 | 3 => 2 | 4 => 3 | 5 => 4 | 6 => 5 | 7 => 6 | _ => 7) i) := ⟨_, rfl⟩
  have f0 : ∀ v0 w0, Φ 1 v0 w0 ↔ slPhi 16 L3.toArray D 0 boxA M N W2 0 v0 w0 := fun v0 w0 => by rw [hΦ]; exact Iff.rfl
  have f1 : ∀ v0 w0, Φ 2 v0 w0 ↔ slPhi 16 L3.toArray D 0 boxA M N W2 1 v0 w0 := fun v0 w0 => by rw [hΦ]; exact Iff.rfl
  have f2 : ∀ v0 w0, Φ 3 v0 w0 ↔ slPhi 16 L3.toArray D 0 boxA M N W2 2 v0 w0 := fun v0 w0 => by rw [hΦ]; exact Iff.rfl
  have f3 : ∀ v0 w0, Φ 4 v0 w0 ↔ slPhi 16 L3.toArray D 0 boxA M N W2 3 v0 w0 := fun v0 w0 => by rw [hΦ]; exact Iff.rfl
  have f4 : ∀ v0 w0, Φ 5 v0 w0 ↔ slPhi 16 L3.toArray D 0 boxA M N W2 4 v0 w0 := fun v0 w0 => by rw [hΦ]; exact Iff.rfl
  have f5 : ∀ v0 w0, Φ 6 v0 w0 ↔ slPhi 16 L3.toArray D 0 boxA M N W2 5 v0 w0 := fun v0 w0 => by rw [hΦ]; exact Iff.rfl
  have f6 : ∀ v0 w0, Φ 7 v0 w0 ↔ slPhi 16 L3.toArray D 0 boxA M N W2 6 v0 w0 := fun v0 w0 => by rw [hΦ]; exact Iff.rfl
  have f7 : ∀ v0 w0, Φ 8 v0 w0 ↔ slPhi 16 L3.toArray D 0 boxA M N W2 7 v0 w0 := fun v0 w0 => by rw [hΦ]; exact Iff.rfl
  have hst : ∀ i v w w', Φ i v w → Below w.heap.size w w' → Φ i v w' := fun i v w w' h hb => by rw [hΦ] at h ⊢; exact slPhi_stays boxA_stays h hb
  clear hΦ
  refine FloatD.floatL (W := W2) [(1, 32), (2, 33), (3, 30), (4, 34), (5, 35), (6, 36), (7, 9), (8, 10)] [1, 2, 3, 4, 5, 6, 7, 8] [1, 2, 3, 4, 7, 8] [5, 6] Φ (fun i => i == 7 || i == 8) 3 rfl (by rfl) (by rfl) (by rfl) (by kernel_rfl) (by kernel_rfl) (by kernel_rfl) (by kernel_rfl) (by kernel_rfl) (by kernel_rfl) (fun ν => rfl) hS (fun _ h => h) (fun _ _ _ _ _ h => h) hst ?_ ?_ ?_
  · refine ⟨⟨_, _, rfl, ?_⟩, ⟨_, _, rfl, ?_⟩, ⟨_, _, rfl, ?_⟩, ⟨_, _, rfl, ?_⟩, ⟨_, _, rfl, ?_⟩, ⟨_, _, rfl, ?_⟩, trivial⟩
    · intro ν V hV hd
      simp only [FloatD.puts, Act.put, List.setIfInBounds_toArray, List.set_cons_zero, List.set_cons_succ]
      refine FloatD.step_made (v := .slice (some ⟨V.heap.size, 0, none⟩) 16 16) (b := .cells (byteCells (fun _ => 0) 16).toArray 5) ?_ ?_ rfl
      · exact run_made _ _ rfl 16 (by omega) rfl rfl
      · refine (f0 _ _).mpr ?_
        exact ⟨V.heap.size, rfl, Rd.of_whole (Whole.new _ _ _)⟩
    · intro ν V hV hd
      obtain ⟨g, eg, hrd⟩ := (f0 _ _).mp (hd 1 (by simp) (by kernel_rfl))
      simp only [FloatD.puts, Act.put, List.setIfInBounds_toArray, List.set_cons_zero, List.set_cons_succ]
      rw [eg]
      refine FloatD.step_call (f := 8) (args := #[.agg L2.toArray, .slice (some ⟨g, 0, none⟩) 16 16, .int .i64 1]) ?_ ?_ rfl
      · go_simp
        try with_reducible rfl
      refine (HSE.out V _ hrd).mono ?_
      rintro e w' ⟨⟨A, rfl⟩, hb⟩
      exact ⟨_, rfl, (f1 _ _).mpr ⟨_, rfl, ⟨A, rfl⟩⟩, hb⟩
    · intro ν V hV hd
      obtain ⟨x, ex, hx⟩ := (f1 _ _).mp (hd 2 (by simp) (by kernel_rfl))
      simp only [FloatD.puts, Act.put, List.setIfInBounds_toArray, List.set_cons_zero, List.set_cons_succ]
      rw [ex]
      exact FloatD.step_value (by go_simp; try with_reducible rfl) ((f2 _ _).mpr ⟨x, rfl, hx⟩) rfl
    · intro ν V hV hd
      obtain ⟨x, ex, hx⟩ := (f2 _ _).mp (hd 3 (by simp) (by kernel_rfl))
      simp only [FloatD.puts, Act.put, List.setIfInBounds_toArray, List.set_cons_zero, List.set_cons_succ]
      rw [ex]
      exact FloatD.step_value (v := .agg L3.toArray) (by go_simp; try with_reducible rfl) ((f3 _ _).mpr rfl) rfl
    · intro ν V hV hd
      simp only [FloatD.puts, Act.put, List.setIfInBounds_toArray, List.set_cons_zero, List.set_cons_succ]
      refine FloatD.step_new (T := 36) (zs := M.toArray) ?_ ((f6 _ _).mpr ⟨_, rfl, hV.size, Whole.new _ _ _⟩)
      have hz := HZ.out
      go_simp
      try rfl
    · intro ν V hV hd
      simp only [FloatD.puts, Act.put, List.setIfInBounds_toArray, List.set_cons_zero, List.set_cons_succ]
      refine FloatD.step_new (T := 40) (zs := N.toArray) ?_ ((f7 _ _).mpr ⟨_, rfl, hV.size, Whole.new _ _ _⟩)
      have hz := HZD.out
      go_simp
      try rfl
  · refine ⟨⟨rfl, _, _, rfl, ?_⟩, ⟨rfl, _, _, rfl, ?_⟩, trivial⟩
    · intro ν V hV hd
      obtain ⟨x, ex, hx⟩ := (f2 _ _).mp (hd 3 (by simp) (by kernel_rfl))
      refine ⟨.agg (D x).toArray, (f4 _ _).mpr ⟨x, rfl, hx⟩, fun V' => ?_⟩
      simp only [FloatD.puts, Act.put, List.setIfInBounds_toArray, List.set_cons_zero, List.set_cons_succ]
      rw [ex]
      go_simp
      try with_reducible rfl
    · intro ν V hV hd
      obtain ⟨x, ex, hx⟩ := (f2 _ _).mp (hd 3 (by simp) (by kernel_rfl))
      refine ⟨.int .i64 0, (f5 _ _).mpr rfl, fun V' => ?_⟩
      simp only [FloatD.puts, Act.put, List.setIfInBounds_toArray, List.set_cons_zero, List.set_cons_succ]
      rw [ex]
      go_simp
      try with_reducible rfl
  intro ν V3 hS ⟨h0, h1, h2, h3, h4, h5, h6, h7, _⟩ ha
  obtain ⟨gm, em, -⟩ := (f0 _ _).mp h0
  obtain ⟨x1, ex1, -⟩ := (f1 _ _).mp h1
  obtain ⟨x2, ex2, -⟩ := (f2 _ _).mp h2
  have e3 := (f3 _ _).mp h3
  obtain ⟨x, e4, hx⟩ := (f4 _ _).mp h4
  have e5 := (f5 _ _).mp h5
  obtain ⟨gp, e6, hgp, hwp⟩ := (f6 _ _).mp h6
  obtain ⟨gd, e7, hgd, hwd⟩ := (f7 _ _).mp h7
  have hne : gp ≠ gd := fun e => ha 7 (by simp) 8 (by simp) (by decide) rfl rfl gp (by rw [e6]; rfl) (by rw [e7, e]; rfl)
  clear ha hst h0 h1 h2 h3 h4 h5 h6 h7 f0 f1 f2 f3 f4 f5 f6 f7
  simp only [FloatD.puts, Act.put, List.setIfInBounds_toArray, List.set_cons_zero, List.set_cons_succ]
  rw [em, ex1, ex2, e3, e4, e5, e6, e7]
  clear em ex1 ex2 e3 e4 e5 e6 e7
  obtain ⟨A, rfl⟩ := hx
  refine alone 9 rfl (by kernel_rfl) (by rfl) ?_
  intro KK hKK
  refine wp_store_row 36 (.tmp 9) (.tmp 34) rfl gp L3.toArray rfl rfl 36 _ hwp (by rw [List.size_toArray, HL3.out.1]; kernel_rfl) (by first | rfl | rw [List.size_toArray, List.size_toArray, HL3.out.1, HMS.out]) (HL3.out.2) ?_
  replace hwd := Whole.farRow hwd hne.symm L3.toArray
  replace hwp := setRow_heap _ _ _ L3.toArray _ _ hwp
  replace hS := below_setRow hS hgp L3.toArray
  refine hKK.out _ _ hS ?_
  clear hKK KK
  try simp only [Act.put]
  refine alone 10 rfl (by kernel_rfl) (by rfl) ?_
  intro KK hKK
  refine wp_store_row 40 (.tmp 10) (.tmp 35) rfl gd (D (.slice A 32 32)).toArray rfl rfl 40 _ hwd (by rw [List.size_toArray, HDS.out _]; kernel_rfl) (by first | rfl | rw [List.size_toArray, List.size_toArray, HDS.out _, HNS.out]) (HD1.out _ _ _) ?_
  replace hwp := Whole.farRow hwp hne (D (.slice A 32 32)).toArray
  replace hwd := setRow_heap _ _ _ (D (.slice A 32 32)).toArray _ _ hwd
  replace hS := below_setRow hS hgd (D (.slice A 32 32)).toArray
  refine hKK.out _ _ hS ?_
  clear hKK KK
  try simp only [Act.put]
  refine take 11 _ rfl (by kernel_rfl) (by kernel_rfl) (by kernel_rfl) (fun _ _ _ h => h) (by rfl) hS (by intro w _; go_simp; with_reducible rfl) ?_
  try simp only [Act.put, List.setIfInBounds_toArray, List.set_cons_zero, List.set_cons_succ]
  refine region_end (by kernel_rfl) ?_
  have HX := Lib.hid (show Whole ((V3.setRow gp L3.toArray).setRow gd (D (.slice A 32 32)).toArray) g1 36 L1.toArray ∧ Whole ((V3.setRow gp L3.toArray).setRow gd (D (.slice A 32 32)).toArray) g7 36 L2.toArray ∧ Whole ((V3.setRow gp L3.toArray).setRow gd (D (.slice A 32 32)).toArray) gp 36 L3.toArray ∧ Whole ((V3.setRow gp L3.toArray).setRow gd (D (.slice A 32 32)).toArray) gd 40 (D (.slice A 32 32)).toArray ∧ Below w.heap.size w ((V3.setRow gp L3.toArray).setRow gd (D (.slice A 32 32)).toArray) from ⟨HW.out.1.below hS HW.out.1.lt, HW.out.2.1.below hS HW.out.2.1.lt, hwp, hwd, HW.out.2.2.trans (hS.mono HW.out.2.2.size)⟩)
  clear hS hwp hwd hgp hgd hne HW HSE
  generalize (V3.setRow gp L3.toArray).setRow gd (D (.slice A 32 32)).toArray = Y0 at HX ⊢
  have c1 := HFA.out _ _ HX.out.1
  have c2 := HFB.out _ _ HX.out.2.1
  have c3 := HFC.out _ _ HX.out.2.2.1
  have c4 := HD0.out _ _ _ _ HX.out.2.2.2.1
  go_wp2_with (refine Ops.wpList_value_if (by rfl) (.agg L2.toArray) (run_load_in 36 (.tmp 7) rfl g7 rfl L2.toArray 219 (by rw [List.size_toArray, HLB.out.1]) HX.out.2.1 rfl rfl (by kernel_rfl)) ?_)
  refine (HR1.out _).mono ?_
  rintro e Y1 ⟨rfl, hb1⟩
  have HY := Lib.hid (show Whole Y1 g7 36 L2.toArray ∧ Below w.heap.size w Y1 from ⟨HX.out.2.1.below hb1 HX.out.2.1.lt, HX.out.2.2.2.2.trans (hb1.mono HX.out.2.2.2.2.size)⟩)
  clear hb1 HX c1 c2 c3 c4
  go_wp2_with (refine Ops.wpList_value_if (by rfl) (.agg L2.toArray) (run_load_in 36 (.tmp 7) rfl g7 rfl L2.toArray 219 (by rw [List.size_toArray, HLB.out.1]) HY.out.1 rfl rfl (by kernel_rfl)) ?_)
  refine (HR2.out _).mono ?_
  rintro e Y2 ⟨rfl, hb1⟩
  have HY2 := Lib.hid (show Whole Y2 g7 36 L2.toArray ∧ Below w.heap.size w Y2 from ⟨HY.out.1.below hb1 HY.out.1.lt, HY.out.2.trans (hb1.mono HY.out.2.size)⟩)
  clear hb1 HY
  go_wp2_with (refine Ops.wpList_value_if (by rfl) (.agg L2.toArray) (run_load_in 36 (.tmp 7) rfl g7 rfl L2.toArray 219 (by rw [List.size_toArray, HLB.out.1]) HY2.out.1 rfl rfl (by kernel_rfl)) ?_)
  refine (HEX.out _).mono ?_
  rintro e Y3 ⟨rfl, hb1⟩
  have HY3 := Lib.hid (HY2.out.2.trans (hb1.mono HY2.out.2.size))
  clear hb1 HY2
  go_wp2_with fail
  refine (HCO.out _).mono ?_
  rintro e Y4 ⟨rfl, hb1⟩
  have HY4 := Lib.hid (HY3.out.trans (hb1.mono HY3.out.size))
  clear hb1 HY3
  go_wp2_with fail
  go_ret
  exact ⟨rfl, HY4.out⟩
end Sl
end Go.Proofs.Ytdhjgenijieeaaa
