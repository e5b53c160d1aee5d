/- 'alive' of the statements of layer 20. -/
import Derived.Test.YtcncdejdpcelpaaPairBoth
namespace Go.Proofs.Ytcncdejdpcelpaa
namespace Pr
open Go.ChangeShapes Go.WideShapes Go.ChangeAt Go.RowKit
open Num Mem Words Chacha Aead Poly Ops Quiet WinT Win

/-- what is known of the operations of 'x, y, e := p.Seal(make([]byte, n), t)' -/
def sealPhi (n : Nat) (LV : Array Value) (D : Value → List Value) (E : Int) (R : Value → World → Prop) (M N : List Value) (W : World) (k : Nat) (v : Value) (w : World) : Prop :=
  match k with
  | 0 => ∃ g, v = .slice (some ⟨g, 0, none⟩) n n ∧ Rd w (some ⟨g, 0, none⟩) n (fun _ => 0)
  | 1 => ∃ x, v = .tuple #[.agg LV, .agg (D x).toArray, .int .i64 E] ∧ R x w
  | 2 => ∃ x, v = .tuple #[.agg LV, .agg (D x).toArray, .int .i64 E] ∧ R x w
  | 3 => v = .agg LV
  | 4 => ∃ x, v = .agg (D x).toArray ∧ R x w
  | 5 => v = .int .i64 E
  | 6 => ∃ g, v = .pointer (some ⟨g, 0, none⟩) ∧ W.heap.size ≤ g ∧ Whole w g 35 M.toArray
  | _ => ∃ g, v = .pointer (some ⟨g, 0, none⟩) ∧ W.heap.size ≤ g ∧ Whole w g 41 N.toArray
theorem sealPhi_stays {n : Nat} {LV : Array Value} {D : Value → List Value} {E : Int} {R : Value → World → Prop} {M N : List Value} {W : World} (hR : ∀ x w w', R x w → Below w.heap.size w w' → R x w') {k : Nat} {v : Value} {w w' : World}
    (h : sealPhi n LV D E R M N W k v w) (hb : Below w.heap.size w w') : sealPhi n LV D E R M N W k v w' := by
  unfold sealPhi at h ⊢
  split at h
  · obtain ⟨g, e, h⟩ := h; exact ⟨g, e, h.below hb (Nat.le_refl _)⟩
  · obtain ⟨x, e, h⟩ := h; exact ⟨x, e, hR _ _ _ h hb⟩
  · obtain ⟨x, e, h⟩ := h; exact ⟨x, e, hR _ _ _ h hb⟩
  · exact h
  · obtain ⟨x, e, h⟩ := h; exact ⟨x, e, hR _ _ _ h hb⟩
  · exact h
  · obtain ⟨g, e, h1, h2⟩ := h; exact ⟨g, e, h1, h2.below hb h2.lt⟩
  · obtain ⟨g, e, h1, h2⟩ := h; exact ⟨g, e, h1, h2.below hb h2.lt⟩
/-- a box of n bytes above a base -/
def boxR (B n : Nat) (F : Nat → Nat) (x : Value) (w : World) : Prop := ∃ A c, x = .slice A n n ∧ Own w B 5 A n c F
theorem boxR_stays (B n : Nat) (F : Nat → Nat) : ∀ x w w', boxR B n F x w → Below w.heap.size w w' → boxR B n F x w' := fun _ _ _ ⟨A, c, e, h⟩ hb => ⟨A, c, e, h.below hb (Nat.le_refl _)⟩

theorem run_made {o : Oper} {a : Act} {w : World} (x y : Operand) (ho : o.op = .makeSlice 26 x y) (n : Nat) (hn : n ≤ 140737488355328) (hx : a.eval x = .int .i64 (n : Nat)) (hy : a.eval y = .int .i64 (n : Nat)) :
    (execOp a.eval o).run Try.prog w = .ok (.value (.slice (some ⟨w.heap.size, 0, none⟩) n n)) (w.alloc (.cells (byteCells (fun _ => 0) n).toArray 5)) := by
  unfold execOp
  simp only [ho, hx, hy, Sem.run_bind, made_bytes n hn, Result.andThen_ok, Sem.run_pure]

/-- a row of bytes stays, where a block of another type is set -/
theorem own_set {w : World} {b : Nat} {A : Option Addr} {n c : Nat} {f : Nat → Nat} (h : Own w b 5 A n c f) {g T : Nat} {cs : Array Value} (hw : Whole w g T cs) (hT : T ≠ 5) (xs : Array Value) : Own (w.setRow g xs) b 5 A n c f := by
  refine World.ownsRow.kept h (grown_setRow w g xs) (.inr fun e => ?_)
  rcases h.2 with ⟨e1, _⟩ | ⟨g', cap, cur, e1, _, hg, _⟩
  · injection e1 with e1
    subst e1
    cases e
  · injection e1 with e1
    subst e1
    injection e with e
    have e : g' = g := e
    subst e
    have e2 := hg.symm.trans hw
    injection e2 with e2
    injection e2 with _ e2
    exact hT e2.symm

def pa1 : PS := { pa with sent := 1 }
def pb1 : PS := { pb with win := take pb.win 0 }
theorem oneF_ok (s r l m : Nat) (one : Bool) (born : Int) (h : s < 256 ∧ r < 256 ∧ l < 4294967296 ∧ m < 4294967296 ∧ -9223372036854775808 ≤ born ∧ born ≤ 9223372036854775807) : (newP (oneF s) (oneF r) l m one born).ok :=
  ⟨oneF_lt h.1, oneF_lt h.2.1, h.2.2.1, h.2.2.2.1, h.2.2.2.2.1, h.2.2.2.2.2, by show (0 : Nat) < _; omega, by refine ⟨?_, ?_, ?_⟩ <;> (show (0 : Nat) < _; omega)⟩
theorem pa_ok : pa.ok := oneF_ok 1 2 3 4 true 0 (by omega)
theorem pb_ok : pb.ok := oneF_ok 2 1 4 3 false 0 (by omega)
theorem pb1_ok : pb1.ok := ⟨pb_ok.hs, pb_ok.hr, pb_ok.hl, pb_ok.hm, pb_ok.b0, pb_ok.b1, pb_ok.ht, by unfold St.ok; decide⟩
def aF : Nat → Nat := boxF pa.s (bn (byteAt 0)) (fun _ => 0) 16 (fun _ => 0) 0

set_option maxRecDepth 100000 in
set_option maxHeartbeats 4000000 in
theorem alive_any (w : World) : Calls Try.prog 6 #[] w fun e w' => e = .returned (.bool true) ∧ Below w.heap.size w w' := by
  have HBO := Lib.hid (fun w => both_any w)
  have HSE := Lib.hid (fun w A c (hr : Rd w A 16 (fun _ => 0)) => seal_yes pa pa_ok 5 (by omega) (by omega) A 16 c (fun _ => 0) (fun _ => by omega) w hr (by decide))
  have HO1 := Lib.hid (fun w A (hr : Rd w A 32 aF) => open_fine pb pb_ok 6 (by omega) (by omega) 0 (by omega) A 32 32 aF (fun i => boxF_lt _ _ (fun _ => by omega) _ _ _ _) (Nat.le_refl _) (by omega) w hr (by decide) (by decide) 16 rfl (by omega) (box_fits pa.s (bn (byteAt 0)) (fun _ => 0) 16 (fun _ => 0) 0))
  have HO2 := Lib.hid (fun w A => open_again pb1 pb1_ok 7 (by omega) (by omega) 0 A 32 32 w (by decide) 80 (by decide) (by omega))
  have HL1 := Lib.hid (fun w => old_any pa 179999 (by omega) (by omega) w)
  have HL2 := Lib.hid (fun w => old_any pa 180000 (by omega) (by omega) w)
  have HT1 := Lib.hid (fun w => tired_any pa 120000 (by omega) (by omega) (by decide) (by decide) w)
  have HT2 := Lib.hid (fun w => tired_any pb 120000 (by omega) (by omega) (by decide) (by decide) w)
  have HSE' := Lib.hid (show ∀ w A c, Rd w A 16 (fun _ => 0) → Calls Try.prog 7 #[.agg (pairL pa).toArray, .slice A 16 c, .int .i64 5] w fun e w' => ∃ x, e = .returned (.tuple #[.agg (pairL pa1).toArray, .agg (dataL 4 0 x).toArray, .int .i64 0]) ∧ boxR w.heap.size 32 aF x w' ∧ Below w.heap.size w w' from
    fun w A c hr => (HSE.out w A c hr).mono fun e w' ⟨A', c', he, ho, hb⟩ => ⟨_, he, ⟨A', c', rfl, ho⟩, hb⟩)
  have HO1' := Lib.hid (show ∀ w A, Rd w A 32 aF → Calls Try.prog 8 #[.agg (pairL pb).toArray, .agg (dataL 4 0 (.slice A 32 32)).toArray, .int .i64 6] w fun e w' => ∃ A', e = .returned (.tuple #[.agg (pairL pb1).toArray, .slice A' 16 16, .int .i64 0]) ∧ Below w.heap.size w w' from
    fun w A hr => (HO1.out w A hr).mono fun e w' ⟨A', he, _, hb⟩ => ⟨A', he, hb⟩)
  have HO2' := Lib.hid (show ∀ w A, Calls Try.prog 8 #[.agg (pairL pb1).toArray, .agg (dataL 4 0 (.slice A 32 32)).toArray, .int .i64 7] w fun e w' => e = .returned (.tuple #[.agg (pairL pb1).toArray, .slice none 0 0, .int .i64 80]) ∧ Below w.heap.size w w' from fun w A => HO2.out w A)
  have HL1' := Lib.hid (show ∀ w, Calls Try.prog 11 #[.agg (pairL pa).toArray, .int .i64 179999] w fun e w' => e = .returned (.bool false) ∧ Below w.heap.size w w' from HL1.out)
  have HL2' := Lib.hid (show ∀ w, Calls Try.prog 11 #[.agg (pairL pa).toArray, .int .i64 180000] w fun e w' => e = .returned (.bool true) ∧ Below w.heap.size w w' from HL2.out)
  have HT1' := Lib.hid (show ∀ w, Calls Try.prog 12 #[.agg (pairL pa).toArray, .int .i64 120000] w fun e w' => e = .returned (.bool true) ∧ Below w.heap.size w w' from HT1.out)
  have HT2' := Lib.hid (show ∀ w, Calls Try.prog 12 #[.agg (pairL pb).toArray, .int .i64 120000] w fun e w' => e = .returned (.bool false) ∧ Below w.heap.size w w' from HT2.out)
  have HD0 := Lib.hid (show ∀ (x : Value) X g T, Whole X g T (dataL 4 0 x).toArray → X.cell? ⟨g, 0, none⟩ = some (.int .u32 4) ∧ X.cell? ⟨g, 2, none⟩ = some x from fun x X g T h => ⟨(data_at 4 0 x h).1, (data_at 4 0 x h).2.2⟩)
  have HC1 := Lib.hid (show ∀ X g T, Whole X g T (pairL pa1).toArray → X.cell? ⟨g, 68, none⟩ = some (.int .u64 1) from fun X g T h => at_sent h)
  clear HSE HO1 HO2 HL1 HL2 HT1 HT2
  have HDS := Lib.hid (show ∀ x, (dataL 4 0 x).length = 3 from fun _ => rfl)
  have HD1 := Lib.hid (show ∀ A k c, (dataL 4 0 (.slice A k c)).toArray.all (·.oneCell') = true from data_one 4 0)
  obtain ⟨D, hD⟩ : ∃ D : Value → List Value, dataL 4 0 = D := ⟨_, rfl⟩
  unfold pairV at HBO
  have HS := Lib.hid (pairL_length pa)
  have HS1 := Lib.hid (pairL_length pa1)
  have HSB := Lib.hid (pairL_length pb)
  have HSC := Lib.hid (pairL_length pb1)
  have H1 := Lib.hid (pair_one pa)
  have H11 := Lib.hid (pair_one pa1)
  have H1B := Lib.hid (pair_one pb)
  have H1C := Lib.hid (pair_one pb1)
  obtain ⟨PA, hPA⟩ : ∃ P, pairL pa = P := ⟨_, rfl⟩
  obtain ⟨PA1, hPA1⟩ : ∃ P, pairL pa1 = P := ⟨_, rfl⟩
  obtain ⟨PB, hPB⟩ : ∃ P, pairL pb = P := ⟨_, rfl⟩
  obtain ⟨PB1, hPB1⟩ : ∃ P, pairL pb1 = P := ⟨_, rfl⟩
  obtain ⟨G, hG⟩ : ∃ G, aF = G := ⟨_, rfl⟩
  rw [hD] at HSE' HO1' HO2' HD0 HDS HD1
  rw [hPA] at HBO HSE' HL1' HL2' HT1' HS H1
  rw [hPB] at HBO HO1' HT2' HSB H1B
  rw [hPA1] at HSE' HC1 HS1 H11
  rw [hPB1] at HO1' HO2' HSC H1C
  rw [hG] at HSE' HO1'
  obtain ⟨M, hM⟩ : ∃ M, pairL noP = M := ⟨_, rfl⟩
  have HMS := Lib.hid (show (pairL noP).length = 72 from pairL_length _)
  have HZ := Lib.hid zero_pair
  rw [hM] at HMS HZ
  obtain ⟨N, hN⟩ : ∃ N, dataL 0 0 (.slice none 0 0) = N := ⟨_, rfl⟩
  have HNS := Lib.hid (show (dataL 0 0 (.slice none 0 0)).length = 3 from rfl)
  have HZD := Lib.hid zero_data
  rw [hN] at HNS HZD
  clear hD hPA hPA1 hPB hPB1 hG hM hN
  go_enter Try.func6, Try.ntmps6
  have hz := HZ.out
  go_upto_region 2 with (first
    | (go_at_call 10; refine (HBO.out _).mono ?_; rintro e w1 ⟨rfl, hb⟩; have HB0 := Lib.hid hb; clear hb)
    | (refine wpList_store_row rfl 35 (.tmp 1) (.tmp 14) rfl w1.heap.size PA.toArray rfl rfl 35 _ ((Whole.new _ _ _).alloc _) (by rw [List.size_toArray, HS.out]; kernel_rfl) (by simp [HS.out, HMS.out]) H1.out ?_)
    | (refine wpList_store_row rfl 35 (.tmp 2) (.tmp 15) rfl (w1.heap.size + 1) PB.toArray rfl rfl 35 _ (Whole.farRow (whole_new _ _ (by simp)) (by omega) _) (by rw [List.size_toArray, HSB.out]; kernel_rfl) (by simp [HSB.out, HMS.out]) H1B.out ?_))
  clear hz
  have L0 : Lay w1 w1.heap.size [] w1 := ⟨Below.refl _ _, Nat.le_refl _, fun _ h => by cases h⟩
  have L1 := two_new L0 35 M
  have L2 := (L1.perm (cs := [(w1.heap.size, 35, M), (w1.heap.size + 1, 35, M)]) (by simp)).set (Nat.le_refl _) (by simp) PA
  have L3 := (L2.perm (cs := [(w1.heap.size + 1, 35, M), (w1.heap.size, 35, PA)]) (by simp)).set (Nat.le_succ _) (by simp) PB
  refine cut_world (fun X => Lay w1 w1.heap.size [(w1.heap.size + 1, 35, PB), (w1.heap.size, 35, PA)] X) L3 ?_
  intro W2 hW
  clear L0 L1 L2 L3
  generalize hB : w1.heap.size = B at hW ⊢
  have HB := Lib.hid hB
  have HW := Lib.hid hW
  clear hB hW
  refine region_start (fun Y => Below W2.heap.size W2 Y) (by kernel_rfl) (below_drewN (Below.refl _ _) 1) ?_
  intro V0 hS
  refine take 0 (.agg PA.toArray) rfl (by kernel_rfl) (by kernel_rfl) (by kernel_rfl) (fun _ _ _ h => h) (by rfl) hS (fun V hV => run_mid_in 35 (.tmp 1) rfl B 0 rfl PA _ (whole_range ((HW.out.below hV).2.2 (B, 35, PA) (by simp))) rfl rfl (by rw [HS.out]; kernel_rfl)) ?_
  try simp only [Act.put, List.setIfInBounds_toArray, List.set_cons_zero, List.set_cons_succ]
  obtain ⟨Φ, hΦ⟩ : ∃ Φ : Nat → Value → World → Prop, Φ = fun i => sealPhi (16) PA1.toArray D 0 (boxR W2.heap.size 32 G) M N W2 ((fun i => match i with | 1 => 0 | 2 => 1 | 3 => 2 | 4 => 3 | 5 => 4 | 6 => 5 | 7 => 6 | _ => 7) i) := ⟨_, rfl⟩
  have f0 : ∀ v w, Φ 1 v w ↔ sealPhi (16) PA1.toArray D 0 (boxR W2.heap.size 32 G) M N W2 0 v w := fun v w => by rw [hΦ]; exact Iff.rfl
  have f1 : ∀ v w, Φ 2 v w ↔ sealPhi (16) PA1.toArray D 0 (boxR W2.heap.size 32 G) M N W2 1 v w := fun v w => by rw [hΦ]; exact Iff.rfl
  have f2 : ∀ v w, Φ 3 v w ↔ sealPhi (16) PA1.toArray D 0 (boxR W2.heap.size 32 G) M N W2 2 v w := fun v w => by rw [hΦ]; exact Iff.rfl
  have f3 : ∀ v w, Φ 4 v w ↔ sealPhi (16) PA1.toArray D 0 (boxR W2.heap.size 32 G) M N W2 3 v w := fun v w => by rw [hΦ]; exact Iff.rfl
  have f4 : ∀ v w, Φ 5 v w ↔ sealPhi (16) PA1.toArray D 0 (boxR W2.heap.size 32 G) M N W2 4 v w := fun v w => by rw [hΦ]; exact Iff.rfl
  have f5 : ∀ v w, Φ 6 v w ↔ sealPhi (16) PA1.toArray D 0 (boxR W2.heap.size 32 G) M N W2 5 v w := fun v w => by rw [hΦ]; exact Iff.rfl
  have f6 : ∀ v w, Φ 7 v w ↔ sealPhi (16) PA1.toArray D 0 (boxR W2.heap.size 32 G) M N W2 6 v w := fun v w => by rw [hΦ]; exact Iff.rfl
  have f7 : ∀ v w, Φ 8 v w ↔ sealPhi (16) PA1.toArray D 0 (boxR W2.heap.size 32 G) M N W2 7 v w := fun v w => by rw [hΦ]; exact Iff.rfl
  have hst : ∀ i v w w', Φ i v w → Below w.heap.size w w' → Φ i v w' := fun i v w w' h hb => by rw [hΦ] at h ⊢; exact sealPhi_stays (boxR_stays _ _ _) h hb
  clear hΦ
  refine FloatD.floatL (W := W2) [(1, 18), (2, 19), (3, 16), (4, 20), (5, 21), (6, 22), (7, 3), (8, 4)] [1, 2, 3, 4, 5, 6, 7, 8] [1, 2, 3, 4, 7, 8] [5, 6] Φ (fun i => i == 7 || i == 8) 3 rfl (by rfl) (by rfl) (by rfl) (by kernel_rfl) (by kernel_rfl) (by kernel_rfl) (by kernel_rfl) (by kernel_rfl) (by kernel_rfl) (fun ν => rfl) hS (fun _ h => h) (fun _ _ _ _ _ h => h) hst ?_ ?_ ?_
  · refine ⟨⟨_, _, rfl, ?_⟩, ⟨_, _, rfl, ?_⟩, ⟨_, _, rfl, ?_⟩, ⟨_, _, rfl, ?_⟩, ⟨_, _, rfl, ?_⟩, ⟨_, _, rfl, ?_⟩, trivial⟩
    · intro ν V hV hd
      simp only [FloatD.puts, Act.put, List.setIfInBounds_toArray, List.set_cons_zero, List.set_cons_succ]
      refine FloatD.step_made (v := .slice (some ⟨V.heap.size, 0, none⟩) 16 16) (b := .cells (byteCells (fun _ => 0) 16).toArray 5) ?_ ?_ rfl
      · exact run_made _ _ rfl 16 (by omega) rfl rfl
      · refine (f0 _ _).mpr ?_
        exact ⟨V.heap.size, rfl, Rd.of_whole (Whole.new _ _ _)⟩
    · intro ν V hV hd
      obtain ⟨g, eg, hrd⟩ := (f0 _ _).mp (hd 1 (by simp) (by kernel_rfl))
      simp only [FloatD.puts, Act.put, List.setIfInBounds_toArray, List.set_cons_zero, List.set_cons_succ]
      rw [eg]
      refine FloatD.step_call (f := 7) (args := #[.agg PA.toArray, .slice (some ⟨g, 0, none⟩) 16 16, .int .i64 5]) ?_ ?_ rfl
      · go_simp
        try with_reducible rfl
      refine (HSE'.out V _ 16 hrd).mono ?_
      rintro e w' ⟨x, rfl, ⟨A, cA, rfl, hown⟩, hb⟩
      exact ⟨_, rfl, (f1 _ _).mpr ⟨_, rfl, A, cA, rfl, hown.more hV.size⟩, hb⟩
    · intro ν V hV hd
      obtain ⟨x, ex, hx⟩ := (f1 _ _).mp (hd 2 (by simp) (by kernel_rfl))
      simp only [FloatD.puts, Act.put, List.setIfInBounds_toArray, List.set_cons_zero, List.set_cons_succ]
      rw [ex]
      exact FloatD.step_value (by go_simp; try with_reducible rfl) ((f2 _ _).mpr ⟨x, rfl, hx⟩) rfl
    · intro ν V hV hd
      obtain ⟨x, ex, hx⟩ := (f2 _ _).mp (hd 3 (by simp) (by kernel_rfl))
      simp only [FloatD.puts, Act.put, List.setIfInBounds_toArray, List.set_cons_zero, List.set_cons_succ]
      rw [ex]
      exact FloatD.step_value (v := .agg PA1.toArray) (by go_simp; try with_reducible rfl) ((f3 _ _).mpr rfl) rfl
    · intro ν V hV hd
      simp only [FloatD.puts, Act.put, List.setIfInBounds_toArray, List.set_cons_zero, List.set_cons_succ]
      refine FloatD.step_new (T := 35) (zs := M.toArray) ?_ ((f6 _ _).mpr ⟨_, rfl, hV.size, Whole.new _ _ _⟩)
      have hz := HZ.out
      go_simp
      try rfl
    · intro ν V hV hd
      simp only [FloatD.puts, Act.put, List.setIfInBounds_toArray, List.set_cons_zero, List.set_cons_succ]
      refine FloatD.step_new (T := 41) (zs := N.toArray) ?_ ((f7 _ _).mpr ⟨_, rfl, hV.size, Whole.new _ _ _⟩)
      have hz := HZD.out
      go_simp
      try rfl
  · refine ⟨⟨rfl, _, _, rfl, ?_⟩, ⟨rfl, _, _, rfl, ?_⟩, trivial⟩
    · intro ν V hV hd
      obtain ⟨x, ex, hx⟩ := (f2 _ _).mp (hd 3 (by simp) (by kernel_rfl))
      refine ⟨.agg (D x).toArray, (f4 _ _).mpr ⟨x, rfl, hx⟩, fun V' => ?_⟩
      simp only [FloatD.puts, Act.put, List.setIfInBounds_toArray, List.set_cons_zero, List.set_cons_succ]
      rw [ex]
      go_simp
      try with_reducible rfl
    · intro ν V hV hd
      obtain ⟨x, ex, hx⟩ := (f2 _ _).mp (hd 3 (by simp) (by kernel_rfl))
      refine ⟨.int .i64 0, (f5 _ _).mpr rfl, fun V' => ?_⟩
      simp only [FloatD.puts, Act.put, List.setIfInBounds_toArray, List.set_cons_zero, List.set_cons_succ]
      rw [ex]
      go_simp
      try with_reducible rfl
  intro ν V3 hS ⟨h0, h1, h2, h3, h4, h5, h6, h7, _⟩ ha
  obtain ⟨gm, em, -⟩ := (f0 _ _).mp h0
  obtain ⟨x1, ex1, -⟩ := (f1 _ _).mp h1
  obtain ⟨x2, ex2, -⟩ := (f2 _ _).mp h2
  have e3 := (f3 _ _).mp h3
  obtain ⟨x, e4, hx⟩ := (f4 _ _).mp h4
  have e5 := (f5 _ _).mp h5
  obtain ⟨gp, e6, hgp, hwp⟩ := (f6 _ _).mp h6
  obtain ⟨gd, e7, hgd, hwd⟩ := (f7 _ _).mp h7
  have hne : gp ≠ gd := fun e => ha 7 (by simp) 8 (by simp) (by decide) rfl rfl gp (by rw [e6]; rfl) (by rw [e7, e]; rfl)
  clear ha hst h0 h1 h2 h3 h4 h5 h6 h7 f0 f1 f2 f3 f4 f5 f6 f7
  simp only [FloatD.puts, Act.put, List.setIfInBounds_toArray, List.set_cons_zero, List.set_cons_succ]
  rw [em, ex1, ex2, e3, e4, e5, e6, e7]
  clear em ex1 ex2 e3 e4 e5 e6 e7
  obtain ⟨A, cA, rfl, hown⟩ := hx
  refine alone 9 rfl (by kernel_rfl) (by rfl) ?_
  intro KK hKK
  refine wp_store_row 35 (.tmp 3) (.tmp 20) rfl gp PA1.toArray rfl rfl 35 _ hwp (by rw [List.size_toArray, HS1.out]; kernel_rfl) (by first | rfl | rw [List.size_toArray, List.size_toArray, HS1.out, HMS.out]) (H11.out) ?_
  replace hown := own_set hown hwp (by decide) PA1.toArray
  replace hwd := Whole.farRow hwd hne.symm PA1.toArray
  replace hwp := setRow_heap _ _ _ PA1.toArray _ _ hwp
  replace hS := below_setRow hS hgp PA1.toArray
  refine hKK.out _ _ hS ?_
  clear hKK KK
  try simp only [Act.put]
  refine alone 10 rfl (by kernel_rfl) (by rfl) ?_
  intro KK hKK
  refine wp_store_row 41 (.tmp 4) (.tmp 21) rfl gd (D (.slice A 32 32)).toArray rfl rfl 41 _ hwd (by rw [List.size_toArray, HDS.out _]; kernel_rfl) (by first | rfl | rw [List.size_toArray, List.size_toArray, HDS.out _, HNS.out]) (HD1.out _ _ _) ?_
  replace hown := own_set hown hwd (by decide) (D (.slice A 32 32)).toArray
  replace hwp := Whole.farRow hwp hne (D (.slice A 32 32)).toArray
  replace hwd := setRow_heap _ _ _ (D (.slice A 32 32)).toArray _ _ hwd
  replace hS := below_setRow hS hgd (D (.slice A 32 32)).toArray
  refine hKK.out _ _ hS ?_
  clear hKK KK
  try simp only [Act.put]
  refine take 11 _ rfl (by kernel_rfl) (by kernel_rfl) (by kernel_rfl) (fun _ _ _ h => h) (by rfl) hS (by intro w _; go_simp; with_reducible rfl) ?_
  try simp only [Act.put, List.setIfInBounds_toArray, List.set_cons_zero, List.set_cons_succ]
  refine region_end (by kernel_rfl) ?_
  replace HW := Lib.hid (((HW.out.below hS).cons hwd).cons hwp)
  have HRD := Lib.hid hown.rd
  clear hS hwp hwd hown hgp hgd hne
  generalize hDV : D (.slice A 32 32) = DV at HW HRD ⊢
  have HDV0 := Lib.hid (show ∀ X g T, Whole X g T DV.toArray → X.cell? ⟨g, 0, none⟩ = some (.int .u32 4) ∧ X.cell? ⟨g, 2, none⟩ = some (.slice A 32 32) from fun X g T h => HD0.out _ X g T (by rw [hDV]; exact h))
  have HDVS := Lib.hid (show DV.length = 3 by rw [← hDV]; exact HDS.out _)
  replace HO1' := Lib.hid (fun w h => hDV ▸ HO1'.out w A h)
  replace HO2' := Lib.hid (fun w => hDV ▸ HO2'.out w A)
  clear hDV HSE' HBO HD0 HD1
  generalize hX : (V3.setRow gp PA1.toArray).setRow gd DV.toArray = X3 at HW HRD ⊢
  clear hX
  have hz := HZ.out
  go_upto_region 4 with (first
    | (refine Poly.wpList_load_row_if rfl 35 (.tmp 2) rfl (B + 1) rfl 35 PB _ (HW.out.2.2 (B + 1, 35, PB) (by simp)) rfl rfl (by rw [HSB.out]; kernel_rfl) ?_)
    | (refine Poly.wpList_load_row_if rfl 41 (.tmp 4) rfl gd rfl 41 DV _ (HW.out.2.2 (gd, 41, DV) (by simp)) rfl rfl (by rw [HDVS.out]; kernel_rfl) ?_)
    | (go_at_call 8; refine (HO1'.out _ HRD.out).mono ?_; rintro e w4 ⟨A', rfl, hb⟩; have HW4 := Lib.hid (HW.out.below hb); clear hb)
    | (refine wpList_store_row rfl 35 (.tmp 6) (.tmp 27) rfl w4.heap.size PB1.toArray rfl rfl 35 _ (Whole.new _ _ _) (by rw [List.size_toArray, HSC.out]; kernel_rfl) (by simp [HSC.out, HMS.out]) H1C.out ?_))
  clear hz
  refine cut_world (fun X => Lay w1 B [(w4.heap.size, 35, PB1), (gp, 35, PA1), (gd, 41, DV), (B + 1, 35, PB), (B, 35, PA)] X) (HW4.out.var _ _ _) ?_
  intro X4 hW
  generalize w4.heap.size = g6 at hW ⊢
  replace HW := Lib.hid hW
  clear hW HW4 HRD
  have hz := HZ.out
  go_upto_region 5 with (first
    | (refine Poly.wpList_load_row_if rfl 35 (.tmp 6) rfl g6 rfl 35 PB1 _ (HW.out.2.2 (g6, 35, PB1) (by simp)) rfl rfl (by rw [HSC.out]; kernel_rfl) ?_)
    | (refine Poly.wpList_load_row_if rfl 41 (.tmp 4) rfl gd rfl 41 DV _ (HW.out.2.2 (gd, 41, DV) (by simp)) rfl rfl (by rw [HDVS.out]; kernel_rfl) ?_)
    | (go_at_call 8; refine (HO2'.out _).mono ?_; rintro e w5 ⟨rfl, hb⟩; have HW5 := Lib.hid (HW.out.below hb); clear hb)
    | (refine wpList_store_row rfl 35 (.tmp 9) (.tmp 34) rfl w5.heap.size PB1.toArray rfl rfl 35 _ (Whole.new _ _ _) (by rw [List.size_toArray, HSC.out]; kernel_rfl) (by simp [HSC.out, HMS.out]) H1C.out ?_))
  clear hz
  refine cut_world (fun X => Lay w1 B [(gp, 35, PA1), (gd, 41, DV), (B + 1, 35, PB), (B, 35, PA)] X) ((HW5.out.var _ _ _).perm (by simp)) ?_
  intro X5 hW
  generalize w5.heap.size = g9 at hW ⊢
  replace HW := Lib.hid hW
  clear hW HW5
  have c1 := HC1.out _ _ _ (HW.out.2.2 (gp, 35, PA1) (by simp))
  obtain ⟨c2, c3⟩ := HDV0.out _ _ _ (HW.out.2.2 (gd, 41, DV) (by simp))
  go_wp2_with (first
    | (refine Poly.wpList_load_row_if rfl 35 (.tmp 1) rfl B rfl 35 PA _ (HW.out.2.2 (B, 35, PA) (by simp)) rfl rfl (by rw [HS.out]; kernel_rfl) ?_)
    | (refine Poly.wpList_load_row_if rfl 35 (.tmp 2) rfl (B + 1) rfl 35 PB _ (HW.out.2.2 (B + 1, 35, PB) (by simp)) rfl rfl (by rw [HSB.out]; kernel_rfl) ?_))
  refine (HL1'.out _).mono ?_
  rintro e w6 ⟨rfl, hb⟩
  replace HW := Lib.hid (HW.out.below hb)
  clear hb c1 c2 c3
  go_wp2_with (first
    | (refine Poly.wpList_load_row_if rfl 35 (.tmp 1) rfl B rfl 35 PA _ (HW.out.2.2 (B, 35, PA) (by simp)) rfl rfl (by rw [HS.out]; kernel_rfl) ?_)
    | (refine Poly.wpList_load_row_if rfl 35 (.tmp 2) rfl (B + 1) rfl 35 PB _ (HW.out.2.2 (B + 1, 35, PB) (by simp)) rfl rfl (by rw [HSB.out]; kernel_rfl) ?_))
  refine (HL2'.out _).mono ?_
  rintro e w6 ⟨rfl, hb⟩
  replace HW := Lib.hid (HW.out.below hb)
  clear hb
  go_wp2_with (first
    | (refine Poly.wpList_load_row_if rfl 35 (.tmp 1) rfl B rfl 35 PA _ (HW.out.2.2 (B, 35, PA) (by simp)) rfl rfl (by rw [HS.out]; kernel_rfl) ?_)
    | (refine Poly.wpList_load_row_if rfl 35 (.tmp 2) rfl (B + 1) rfl 35 PB _ (HW.out.2.2 (B + 1, 35, PB) (by simp)) rfl rfl (by rw [HSB.out]; kernel_rfl) ?_))
  refine (HT1'.out _).mono ?_
  rintro e w6 ⟨rfl, hb⟩
  replace HW := Lib.hid (HW.out.below hb)
  clear hb
  go_wp2_with (first
    | (refine Poly.wpList_load_row_if rfl 35 (.tmp 1) rfl B rfl 35 PA _ (HW.out.2.2 (B, 35, PA) (by simp)) rfl rfl (by rw [HS.out]; kernel_rfl) ?_)
    | (refine Poly.wpList_load_row_if rfl 35 (.tmp 2) rfl (B + 1) rfl 35 PB _ (HW.out.2.2 (B + 1, 35, PB) (by simp)) rfl rfl (by rw [HSB.out]; kernel_rfl) ?_))
  refine (HT2'.out _).mono ?_
  rintro e w6 ⟨rfl, hb⟩
  replace HW := Lib.hid (HW.out.below hb)
  clear hb
  go_wp2_with (first
    | (refine Poly.wpList_load_row_if rfl 35 (.tmp 1) rfl B rfl 35 PA _ (HW.out.2.2 (B, 35, PA) (by simp)) rfl rfl (by rw [HS.out]; kernel_rfl) ?_)
    | (refine Poly.wpList_load_row_if rfl 35 (.tmp 2) rfl (B + 1) rfl 35 PB _ (HW.out.2.2 (B + 1, 35, PB) (by simp)) rfl rfl (by rw [HSB.out]; kernel_rfl) ?_))
  go_ret
  exact ⟨rfl, HB0.out.trans (by have h := HW.out.1; rw [← HB.out] at h; exact h.mono HB0.out.size)⟩

end Pr
end Go.Proofs.Ytcncdejdpcelpaa
