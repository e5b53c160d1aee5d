/- Package limiter: New, none, placeOf, Count, Allow. -/
import Derived.Test.YtlccgplgbokgkaaLimDrop
import Derived.Test.YtlccgplgbokgkaaFloatK
import Derived.WalkSpells
import Derived.Test.YtlccgplgbokgkaaRowV
namespace Go.Proofs.Ytlccgplgbokgkaa
namespace Lim
open Go.ChangeShapes Go.WideShapes Go.ChangeAt Go.RowKit Go.Maps
open Num Mem Words Chacha Aead Poly Adr Ops Quiet Stamp RowV

/-- of the old blocks only g and b have turned -/
structure Two (g b : Nat) (w w' : World) : Prop where
  os : w'.os = w.os
  tape : w'.tape = w.tape
  output : w'.output = w.output
  size : w.heap.size ≤ w'.heap.size
  block : ∀ i, i < w.heap.size → i ≠ g → i ≠ b → w'.heap[i]? = w.heap[i]?
theorem Two.refl (g b : Nat) (w : World) : Two g b w w := ⟨rfl, rfl, rfl, Nat.le_refl _, fun _ _ _ _ => rfl⟩
theorem Two.trans {g b : Nat} {x y z : World} (h : Two g b x y) (k : Two g b y z) : Two g b x z :=
  ⟨k.os.trans h.os, k.tape.trans h.tape, k.output.trans h.output, Nat.le_trans h.size k.size, fun i hi h1 h2 => (k.block i (Nat.lt_of_lt_of_le hi h.size) h1 h2).trans (h.block i hi h1 h2)⟩
theorem two_below {g b : Nat} {w w' : World} (h : Below w.heap.size w w') : Two g b w w' := ⟨h.os, h.tape, h.output, h.size, fun i hi _ _ => h.block i hi⟩
theorem two_grown {g b : Nat} {w w' : World} (h : w.grownBy w' (some b)) : Two g b w w' := ⟨h.os, h.tape, h.output, h.size, fun i hi _ h2 => h.block i hi (fun e => h2 (Option.some.inj e))⟩
theorem two_set {g b : Nat} (w : World) (n : Nat) (u : Value) : Two g b w (w.setCell ⟨g, n, none⟩ u) := by
  have h := (Below.refl 0 w).setCell (p := ⟨g, n, none⟩) (Nat.zero_le _) u
  exact ⟨h.os, h.tape, h.output, h.size, fun i _ h1 _ => Below.heap_setCell w ⟨g, n, none⟩ u i h1⟩
theorem Two.drew {g b : Nat} {w w' : World} (h : Two g b w w') : Two g b w w'.drew := ⟨h.os, h.tape, h.output, h.size, h.block⟩
theorem Two.whole {g b i : Nat} {w w' : World} {t : TypeId} {cs : Array Value} (h : Two g b w w') (hw : Whole w i t cs) (h1 : i ≠ g) (h2 : i ≠ b) : Whole w' i t cs := (h.block i hw.lt h1 h2).trans hw
theorem Two.below {g b B : Nat} {w w' : World} (h : Two g b w w') (hB : B ≤ w.heap.size) (hg : B ≤ g) (hb : B ≤ b) : Below B w w' := ⟨h.os, h.tape, h.output, h.size, fun i hi => h.block i (by omega) (by omega) (by omega)⟩
theorem Two.range {g b : Nat} {w w' : World} (h : Two g b w w') {A : Option Addr} {xs : List Value} (hr : RdV w A xs) (hg : ∀ a, A = some a → a.block ≠ g ∧ a.block ≠ b) : RdV w' A xs := by
  rcases hr with h0 | ⟨c, off, rfl, hc, hx⟩
  · exact Or.inl h0
  · refine Or.inr ⟨c, off, rfl, Nat.lt_of_lt_of_le hc h.size, fun i v hv => ?_⟩
    have hne := hg _ rfl
    have e : w'.cell? ⟨c, off + i, none⟩ = w.cell? ⟨c, off + i, none⟩ := by
      unfold World.cell?
      rw [h.block c hc hne.1 hne.2]
    rw [e]
    exact hx i v hv

theorem LW.lt {w : World} {g b : Nat} {L : List Bk} {last : Int} {D : DataW Unit} (h : LW w g b L last D) : g < w.heap.size ∧ b < w.heap.size ∧ b ≠ g := by
  refine ⟨h.obj.lt, h.own.lt, ?_⟩
  intro e
  obtain ⟨es, clock, hb, _⟩ := h.own
  have := h.obj
  unfold Whole at this
  rw [e, this] at hb
  cases hb
theorem LW.below {w w' : World} {g b : Nat} {L : List Bk} {last : Int} {D : DataW Unit} (h : LW w g b L last D) (hb : Below w.heap.size w w') : LW w' g b L last D :=
  ⟨h.obj.below hb h.obj.lt, h.own.kept (below_none hb) (by simp), h.ag, h.good⟩
/-- another limiter stays -/
theorem LW.two {w w' : World} {g b g' b' : Nat} {L : List Bk} {last : Int} {D : DataW Unit} (h : LW w g b L last D) (hb : Two g' b' w w') (h1 : g ≠ g') (h2 : g ≠ b') (h3 : b ≠ g') (h4 : b ≠ b') : LW w' g b L last D := by
  refine ⟨hb.whole h.obj h1 h2, ?_, h.ag, h.good⟩
  have hlt := h.own.lt
  obtain ⟨es, clock, hh, F, hs, hD⟩ := h.own
  exact ⟨es, clock, (hb.block b hlt h3 h4).trans hh, F, hs, hD⟩

set_option maxRecDepth 100000 in
theorem none_nil (w : World) : Calls Try.prog 17 #[.pointer none] w fun e w' => e = .returned (.bool true) ∧ w = w' := by
  go_enter Try.func17, Try.ntmps17
  go_wp2_with fail
  go_ret
  exact ⟨rfl, rfl⟩
set_option maxRecDepth 100000 in
theorem none_zero (g : Nat) (x : Int) (w : World) (h : Whole w g 44 #[.map none, .int .i64 x]) : Calls Try.prog 17 #[.pointer (some ⟨g, 0, none⟩)] w fun e w' => e = .returned (.bool true) ∧ w = w' := by
  have c0 : w.cell? ⟨g, 0, none⟩ = some (.map none) := h.cell 0
  have hm := run_eql_map_nil (P := Try.prog) w 42 _ _ none Try.underlying42
  clear h
  go_enter Try.func17, Try.ntmps17
  go_wp2_with fail
  go_ret
  exact ⟨rfl, rfl⟩
set_option maxRecDepth 100000 in
theorem none_some (g b : Nat) (x : Int) (w : World) (h : Whole w g 44 #[.map (some b), .int .i64 x]) : Calls Try.prog 17 #[.pointer (some ⟨g, 0, none⟩)] w fun e w' => e = .returned (.bool false) ∧ w = w' := by
  have c0 : w.cell? ⟨g, 0, none⟩ = some (.map (some b)) := h.cell 0
  have hm := run_eql_map_nil (P := Try.prog) w 42 _ _ (some b) Try.underlying42
  clear h
  go_enter Try.func17, Try.ntmps17
  go_wp2_with fail
  go_ret
  exact ⟨rfl, rfl⟩

set_option maxRecDepth 100000 in
theorem new_any (w : World) : Calls Try.prog 9 #[] w fun e w' => ∃ g b, w.heap.size ≤ g ∧ w.heap.size ≤ b ∧ e = .returned (.pointer (some ⟨g, 0, none⟩)) ∧ Below w.heap.size w w' ∧ ∃ D, LW w' g b [] 0 D := by
  have hmm := @run_makeMap Try.prog
  go_enter Try.func9, Try.ntmps9
  go_wp2_with fail
  go_ret
  refine ⟨w.heap.size + 1, w.heap.size, Nat.le_succ _, Nat.le_refl _, rfl, below_alloc (below_alloc (Below.refl _ _) _) _, .map [], whole_new _ _ (by simp), ?_, ag_empty, good_new⟩
  exact ((World.ownsMap_made w Try.prog 57 pairR).mono (Nat.zero_le _)).alloc _

set_option maxRecDepth 100000 in
theorem count_any (g b : Nat) (L : List Bk) (last : Int) (D : DataW Unit) (w : World) (h : LW w g b L last D) : Calls Try.prog 14 #[.pointer (some ⟨g, 0, none⟩)] w fun e w' => e = .returned (.int .i64 (L.length : Nat)) ∧ w = w' := by
  have hs : Maps.size D = L.length := h.ag.size (h.own.tidy keyedP) (fun es he p hp => by
    obtain ⟨es', he', _, hk⟩ := h.own.entries keyedP
    rw [he] at he'
    injection he' with he'
    subst he'
    exact hk p hp)
  have c0 : w.cell? ⟨g, 0, none⟩ = some (.map (some b)) := h.obj.cell 0
  have HO := Lib.hid h.obj
  have HOWN := Lib.hid h.own
  rw [← hs]
  clear h hs
  go_enter Try.func14, Try.ntmps14
  go_wp2_with fail
  refine (none_some g b last w HO.out).mono ?_
  rintro e w1 ⟨rfl, rfl⟩
  go_wp2_with (at_len; refine wpList_len_own _ rfl _ 42 rfl 57 64 Try.underlying42 _ b 1000000 D rfl HOWN.out ?_)
  go_ret
  exact ⟨rfl, rfl⟩

theorem wpList_built2 {P : Program} {ops : Array Oper} {rest : List Oper} {o : Oper} {a : Act} {w : World} {Q : Exit → Act → World → Prop} (hg : o.guard = none) (t : TypeId) (k m : Nat) (x y : Operand) (ho : o.op = .build t #[(k, x), (m, y)])
    (v u : Value) (hx : a.eval x = v) (hy : a.eval y = u) (vs : Array Value) (hb : P.built t [(k, v), (m, u)] = some vs) (h : wpList P ops Q rest (a.put o.dst (.agg vs)) w) : wpList P ops Q (o :: rest) a w := by
  have e : P.built t ((#[(k, x), (m, y)] : Array (Nat × Operand)).map fun (i, x) => (i, a.eval x)).toList = some vs := by simpa [hx, hy] using hb
  refine wpList_build hg t #[(k, x), (m, y)] ho (by rw [e]; rfl) ?_
  rw [e]
  exact h
theorem pref_setbits (s : Bool) (f : Nat → Nat) (z y : Int) : (prefL s f z).toArray.setIfInBounds 17 (.int .i64 y) = (prefL s f y).toArray := by
  have e : (prefL s f z).set 17 (.int .i64 y) = prefL s f y := by
    unfold prefL
    rw [List.set_append_right _ _ (by rw [addrL_length]; omega), addrL_length]
    rfl
  rw [List.setIfInBounds_toArray, e]
structure PlaceW (w : World) (B : Nat) (zs : Array Value) (s : Bool) (f : Nat → Nat) (z : Int) (X : World) : Prop where
  res : Whole X (B + 1) 57 zs
  p : Whole X (B + 2) 57 (prefL s f z).toArray
  six : X.cell? ⟨B, 0, none⟩ = some (.bool s)
  bel : Below B w X

set_option maxRecDepth 100000 in
set_option maxHeartbeats 2000000 in
theorem placeOf_any (s : Bool) (f : Nat → Nat) (hf : ∀ i, f i < 256) (w : World) :
    Calls Try.prog 18 #[.agg (addrL s f).toArray] w fun e w' => e = .returned (.tuple #[maskV s f (bitsOf s), .int .i64 (maskE s f (bitsOf s) : Nat)]) ∧ Below w.heap.size w w' := by
  obtain ⟨zs, hz, hzs⟩ : ∃ zs : Array Value, (∀ w, (zeroValue 57).run Try.prog w = .ok (.agg zs) w) ∧ zs.size = 18 := ⟨_, zero_pref, pref_size _ _ _⟩
  have HZS := Lib.hid hzs
  clear hzs
  obtain ⟨A, hA⟩ : ∃ A, addrL s f = A := ⟨_, rfl⟩
  have HAS := Lib.hid (show A.toArray.size = 17 from by rw [← hA, addr_size])
  have HB2 := Lib.hid (pref_built2 s f 32)
  have HC := Lib.hid (fun w => mask_any s f hf (bitsOf s) (bits_lo s) (bits_hi s) w)
  obtain ⟨M, hM, hMs, hMo⟩ : ∃ cs : Array Value, maskV s f (bitsOf s) = .agg cs ∧ cs.size = 18 ∧ cs.all (·.oneCell') = true := ⟨_, rfl, pref_size _ _ _, pref_one _ _ _⟩
  have HMS := Lib.hid hMs
  have HMO2 := Lib.hid hMo
  obtain ⟨E, hE⟩ : ∃ E, maskE s f (bitsOf s) = E := ⟨_, rfl⟩
  rw [hM, hE] at HC ⊢
  clear hM hE hMs hMo
  rw [hA] at HB2 ⊢
  have HA := Lib.hid hA
  clear hA hf
  go_enter Try.func18, Try.ntmps18
  go_upto_region 1 with fail
  refine cut_world (fun X => Whole X w.heap.size 25 A.toArray ∧ Whole X (w.heap.size + 1) 57 zs ∧ Below w.heap.size w X ∧ X.heap.size = w.heap.size + 2) ⟨(Whole.new _ _ _).alloc _, whole_new _ _ (by simp), below_alloc (below_alloc (Below.refl _ _) _) _, by simp⟩ ?_
  rintro W ⟨p1, p2, pb, ps⟩
  have P1 := Lib.hid p1
  have P2 := Lib.hid p2
  have PB := Lib.hid pb
  have PS := Lib.hid ps
  clear p1 p2 pb ps
  generalize hB : w.heap.size = B at P1 P2 PB PS ⊢
  have HB := Lib.hid hB
  clear hB
  go_upto_region 2 with (first | (refine wpList_load_row rfl 25 (.tmp 1) rfl B rfl 25 A.toArray (0, 0) _ P1.out rfl rfl (by rw [HAS.out]; kernel_rfl) ?_) | (refine wpList_built2 rfl 57 0 1 (.tmp 5) (.const (.int .i64 32)) rfl (.agg A.toArray) (.int .i64 32) rfl rfl (prefL s f 32).toArray HB2.out ?_) | (refine wpList_store_row rfl 57 (.tmp 4) (.tmp 6) rfl W.heap.size (prefL s f 32).toArray rfl rfl 57 _ (Whole.new _ _ zs) (by rw [pref_size]; kernel_rfl) (by rw [pref_size, HZS.out]) (pref_one _ _ _) ?_))
  refine cut_world (fun X => PlaceW w B zs s f 32 X) ⟨Whole.farRow (Whole.alloc P2.out _) (by rw [PS.out]; omega) _, by rw [← PS.out]; exact setRow_heap _ _ _ _ _ _ (Whole.new _ _ zs), by
    have h := Whole.cell (Whole.farRow (Whole.alloc P1.out (.cells zs 57)) (g := W.heap.size) (by rw [PS.out]; omega) (prefL s f 32).toArray) 0
    rw [h, ← HA.out]; rfl, below_setRow (PB.out.alloc (by rw [PS.out]; omega) _) (by rw [PS.out]; omega) _⟩ ?_
  intro X1 hX1
  rw [PS.out]
  have HX1 := Lib.hid hX1
  have c0 := hX1.six
  have f0 := hX1.p.free 17
  have c17 : X1.cell? ⟨B + 2, 17, none⟩ = some (.int .i64 32) := by rw [hX1.p.cell, List.getElem?_toArray, pref_bits]
  clear hX1 P1 P2 PB PS
  cases s
  · go_upto_region 4 with fail
    obtain ⟨X2, hX2⟩ : ∃ X2, X1 = X2 := ⟨_, rfl⟩
    have pw := HX1.out
    rw [hX2] at pw ⊢
    clear HX1 hX2 c0 f0 c17
    have P2 := Lib.hid pw.res
    have P4 := Lib.hid pw.p
    have PB := Lib.hid pw.bel
    clear pw
    have C := Lib.hid (HC.out X2)
    clear HC
    rw [show bitsOf false = 32 from rfl] at C
    obtain ⟨Pl, hPl⟩ : ∃ Pl, (prefL false f 32).toArray = Pl := ⟨_, rfl⟩
    have HPS := Lib.hid (show Pl.size = 18 from by rw [← hPl, pref_size])
    rw [hPl] at C P4
    clear hPl
    go_wp2_with (refine wpList_load_row rfl 57 (.tmp 4) rfl (B + 2) rfl 57 Pl (0, 0) _ P4.out rfl rfl (by rw [HPS.out]; kernel_rfl) ?_)
    refine C.out.mono ?_
    rintro e w1 ⟨rfl, hb1⟩
    have P2' := Lib.hid (Whole.below P2.out hb1 P2.out.lt)
    have PB' := Lib.hid (PB.out.trans (hb1.mono (by have := P2.out.lt; omega)))
    clear hb1 P2 P4 PB C
    go_wp2_with (refine wpList_store_row rfl 57 (.tmp 2) (.tmp 12) rfl (B + 1) M rfl rfl 57 _ P2'.out (by rw [HMS.out]; kernel_rfl) (by rw [HMS.out, HZS.out]) HMO2.out ?_)
    have hret : Whole (w1.setRow (B + 1) M) (B + 1) 57 M := setRow_heap _ _ _ _ _ _ P2'.out
    refine bodyPost_ret (Poly.results_cell_tmp rfl _ _ (B + 1) 57 M.toList _ rfl (by simpa using hret) rfl rfl (by rw [Array.length_toList, HMS.out]; kernel_rfl)) rfl ?_
    exact ⟨by simp, by rw [HB.out]; exact below_setRow PB'.out (by omega) _⟩
  · go_upto_region 4 with fail
    obtain ⟨X2, hX2⟩ : ∃ X2, X1.setCell ⟨B + 2, 17, none⟩ (.int .i64 64) = X2 := ⟨_, rfl⟩
    have pw : PlaceW w B zs true f 64 X2 := by
      rw [← hX2]
      have h := HX1.out.p.put 17 (.int .i64 64)
      rw [pref_setbits] at h
      exact ⟨Whole.far HX1.out.res (by show B + 1 ≠ B + 2; omega) _, h, by
        rw [← HX1.out.six]
        unfold World.cell?
        rw [Below.heap_setCell X1 ⟨B + 2, 17, none⟩ (.int .i64 64) B (by show B ≠ B + 2; omega)], HX1.out.bel.setCell (by show B ≤ B + 2; omega) _⟩
    rw [hX2]
    clear HX1 hX2 c0 f0 c17
    have P2 := Lib.hid pw.res
    have P4 := Lib.hid pw.p
    have PB := Lib.hid pw.bel
    clear pw
    have C := Lib.hid (HC.out X2)
    clear HC
    rw [show bitsOf true = 64 from rfl] at C
    obtain ⟨Pl, hPl⟩ : ∃ Pl, (prefL true f 64).toArray = Pl := ⟨_, rfl⟩
    have HPS := Lib.hid (show Pl.size = 18 from by rw [← hPl, pref_size])
    rw [hPl] at C P4
    clear hPl
    go_wp2_with (refine wpList_load_row rfl 57 (.tmp 4) rfl (B + 2) rfl 57 Pl (0, 0) _ P4.out rfl rfl (by rw [HPS.out]; kernel_rfl) ?_)
    refine C.out.mono ?_
    rintro e w1 ⟨rfl, hb1⟩
    have P2' := Lib.hid (Whole.below P2.out hb1 P2.out.lt)
    have PB' := Lib.hid (PB.out.trans (hb1.mono (by have := P2.out.lt; omega)))
    clear hb1 P2 P4 PB C
    go_wp2_with (refine wpList_store_row rfl 57 (.tmp 2) (.tmp 12) rfl (B + 1) M rfl rfl 57 _ P2'.out (by rw [HMS.out]; kernel_rfl) (by rw [HMS.out, HZS.out]) HMO2.out ?_)
    have hret : Whole (w1.setRow (B + 1) M) (B + 1) 57 M := setRow_heap _ _ _ _ _ _ P2'.out
    refine bodyPost_ret (Poly.results_cell_tmp rfl _ _ (B + 1) 57 M.toList _ rfl (by simpa using hret) rfl rfl (by rw [Array.length_toList, HMS.out]; kernel_rfl)) rfl ?_
    exact ⟨by simp, by rw [HB.out]; exact below_setRow PB'.out (by omega) _⟩
end Lim
end Go.Proofs.Ytlccgplgbokgkaa
