/- Package slots: Open. -/
import Derived.Test.YtdhjgenijieeaaaSlSeal2
import Derived.Test.YtdhjgenijieeaaaSlPOpen
import Derived.Deep.DeepCutAuto
import Derived.LaidEqlPtr
namespace Go.Proofs.Ytdhjgenijieeaaa
namespace Sl
open Go.ChangeShapes Go.WideShapes Go.ChangeAt Go.RowKit
open Num Mem Words Chacha Aead Poly Ops Quiet WinT Win Pr

theorem results_cell3 {fn : Func} {p u v z : Tmp} {ty : TypeId} {P : Program} (h : fn.results = #[.cell p ty, .tmp u, .tmp v, .tmp z]) (tmps : Array Value) (w : World) (g : Nat) (t : TypeId) (cs : List Value) (d : TypeDesc)
    (hp : tmps.getD p undef = .pointer (some ⟨g, 0, none⟩)) (hg : Whole w g t cs.toArray)
    (hu : P.underlying ty = some d) (hd : d.isRow = true) (hi : (P.info? ty).map (·.size) = some cs.length) :
    (results fn tmps).run P w = .ok (.tuple #[.agg cs.toArray, tmps.getD u undef, tmps.getD v undef, tmps.getD z undef]) w := by
  have hp' : tmps[p]?.getD undef = .pointer (some ⟨g, 0, none⟩) := by simpa using hp
  simp [results, h, hp', asAddr, run_loadVar_mid w g 0 ty cs d (Poly.whole_range hg) hu hd hi]
theorem pinfo : ∃ j, Try.prog.info? 34 = some j ∧ j.size ≠ 0 := by
  have h : (Try.prog.info? 34).map (·.size) = some 72 := by kernel_rfl
  cases hq : Try.prog.info? 34 with
  | none => simp [hq] at h
  | some j => exact ⟨j, rfl, by simp [hq] at h; omega⟩
theorem eq_same (b o : Nat) (w : World) : (binOp .eql 64 (.pointer (some ⟨b, o, none⟩)) (.pointer (some ⟨b, o, none⟩))).run Try.prog w = .ok (.bool true) w := by
  obtain ⟨j, hj, _⟩ := pinfo
  exact run_eql_ptr_same w ⟨b, o, none⟩ Try.underlying64 hj
theorem eq_other {b o u : Nat} (hne : o ≠ u) {w : World} {T : TypeId} {cs : Array Value} (h : Whole w b T cs) : (binOp .eql 64 (.pointer (some ⟨b, o, none⟩)) (.pointer (some ⟨b, u, none⟩))).run Try.prog w = .ok (.bool false) w := by
  obtain ⟨j, hj, hs⟩ := pinfo
  exact run_eql_ptr_other w Try.underlying64 hj hs (fun e => hne (by injection e)) h h
def nextS (z : SS) : SS := { z with hp := z.hc, p := z.c, hc := true, c := z.n, hn := false }
/-- what Open makes of slots -/
def OpP (x y : SS) (l : Nat) (nx : Bool) (E : Nat) : Prop :=
  (E ≠ 0 → y = x) ∧ (E = 0 → ∃ W : St, W.ok ∧ ((nx = false ∧ findO x l = some 75 ∧ y = tidy { x with c := { x.c with win := W } }) ∨ (nx = false ∧ findO x l = some 3 ∧ y = tidy { x with p := { x.p with win := W } }) ∨ (nx = true ∧ findO x l = some 147 ∧ y = tidy (nextS { x with n := { x.n with win := W } }))))
def OpPost (x : SS) (l : Nat) (e : Ending) : Prop := ∃ (y : SS) (A' : Option Addr) (k : Nat) (nx : Bool) (E : Nat), e = .returned (.tuple #[slV y, .slice A' k k, .bool nx, .int .i64 (E : Nat)]) ∧ OpP x y l nx E
structure OpW (w : World) (B : Nat) (x y : SS) (D : List Value) (X : World) : Prop where
  arg : Whole X B 36 (slL x).toArray
  dat : Whole X (B + 1) 40 D.toArray
  res : Whole X (B + 1 + 1) 36 (slL noS).toArray
  out : Whole X (B + 1 + 1 + 1) 36 (slL y).toArray
  bel : Below B w X
theorem OpW.below {w : World} {B : Nat} {x y : SS} {D : List Value} {X Y : World} (H : OpW w B x y D X) (hb : Below X.heap.size X Y) : OpW w B x y D Y :=
  ⟨H.arg.below hb H.arg.lt, H.dat.below hb H.dat.lt, H.res.below hb H.res.lt, H.out.below hb H.out.lt, H.bel.trans (hb.mono (Nat.le_of_lt H.arg.lt))⟩
theorem OpW.bool {w : World} {B : Nat} {x y z : SS} {D : List Value} {X : World} (H : OpW w B x y D X) {o : Nat} {v : Value} (hz : Whole (X.setCell ⟨B + 1 + 1 + 1, o, none⟩ v) (B + 1 + 1 + 1) 36 (slL z).toArray) : OpW w B x z D (X.setCell ⟨B + 1 + 1 + 1, o, none⟩ v) :=
  ⟨Whole.far H.arg (by show B ≠ B + 1 + 1 + 1; omega) _, Whole.far H.dat (by show B + 1 ≠ B + 1 + 1 + 1; omega) _, Whole.far H.res (by show B + 1 + 1 ≠ B + 1 + 1 + 1; omega) _, hz, H.bel.setCell (show B ≤ B + 1 + 1 + 1 by omega) _⟩
theorem OpW.pair {w : World} {B : Nat} {x y z : SS} {D : List Value} {X : World} (H : OpW w B x y D X) {o : Nat} {vs : List Value} (hz : Whole (X.setCells (B + 1 + 1 + 1) o vs) (B + 1 + 1 + 1) 36 (slL z).toArray) : OpW w B x z D (X.setCells (B + 1 + 1 + 1) o vs) :=
  ⟨whole_cells _ _ (by omega) H.arg, whole_cells _ _ (by omega) H.dat, whole_cells _ _ (by omega) H.res, hz, below_cells' (by omega) _ _ H.bel⟩
theorem find_some {x : SS} {l o : Nat} (h : findO x l = some o) : (o = 75 ∧ x.c.l = l) ∨ (o = 147 ∧ x.n.l = l) ∨ (o = 3 ∧ x.p.l = l) := by
  unfold findO at h
  by_cases h1 : x.hc = true ∧ x.c.l = l
  · rw [if_pos h1] at h; exact .inl ⟨(Option.some.inj h).symm, h1.2⟩
  · rw [if_neg h1] at h
    by_cases h2 : x.hn = true ∧ x.n.l = l
    · rw [if_pos h2] at h; exact .inr (.inl ⟨(Option.some.inj h).symm, h2.2⟩)
    · rw [if_neg h2] at h
      by_cases h3 : x.hp = true ∧ x.p.l = l
      · rw [if_pos h3] at h; exact .inr (.inr ⟨(Option.some.inj h).symm, h3.2⟩)
      · rw [if_neg h3] at h; cases h
set_option maxRecDepth 100000 in
set_option maxHeartbeats 8000000 in
theorem sopen_any (x : SS) (hx : x.ok) (t : Int) (h0 : -9223372036854775808 ≤ t) (h1 : t ≤ 9223372036854775807) (l n : Nat) (hn : n < 18446744073709551616) (A : Option Addr) (m c : Nat) (f : Nat → Nat) (hf : ∀ i, f i < 256) (hmc : m ≤ c) (hc : c ≤ 9223372036854775807) (w : World) (hr : Rd w A m f) :
    Calls Try.prog 10 #[slV x, .agg (dataL l n (.slice A m c)).toArray, .int .i64 t] w fun e w' => OpPost x l e ∧ Below w.heap.size w w' := by
  have HPO := Lib.hid (fun (p : PS) (hp : p.ok) (V : World) (hV : Below w.heap.size w V) => popen_any p hp t h0 h1 l n hn A m c f hf hmc hc V (hr.below hV (Nat.le_refl _)))
  have HFD := Lib.hid (fun (V : World) (B : Nat) (h : Whole V B 36 (slL x).toArray) => find_any h l)
  have HOK := Lib.hid hx
  unfold slV
  have hz := zero_slots
  have HXL := Lib.hid (And.intro (slL_length x) (sl_one x))
  have HDS := Lib.hid (show (dataL l n (.slice A m c)).length = 3 from rfl)
  obtain ⟨LI, hLI⟩ : ∃ LI : Int, ((l : Nat) : Int) = LI := ⟨_, rfl⟩
  have HD := Lib.hid (show ∀ V g T, Whole V g T (dataL l n (.slice A m c)).toArray → V.cell? ⟨g, 0, none⟩ = some (.int .u32 LI) from fun V g T h => by rw [← hLI]; exact (data_at l n _ h).1)
  rw [hLI] at HFD
  obtain ⟨D, hD⟩ : ∃ D, dataL l n (.slice A m c) = D := ⟨_, rfl⟩
  rw [hD] at HDS HD HPO ⊢
  obtain ⟨fo, hfo⟩ : ∃ fo, findO x l = fo := ⟨_, rfl⟩
  have HFO := Lib.hid hfo
  rw [hfo] at HFD
  obtain ⟨L, hL⟩ : ∃ L, slL x = L := ⟨_, rfl⟩
  have HLE := Lib.hid hL
  rw [hL] at HXL HFD ⊢
  clear hLI hD hfo hL hx h0 h1 hn hf hmc hc hr
  go_enter Try.func10, Try.ntmps10
  go_upto_region 2 with (first
    | (refine wpList_load_row rfl 36 (.tmp 3) rfl w.heap.size rfl 36 L.toArray (0, 0) _ (((Whole.new _ _ _).alloc _).alloc _) rfl rfl (by rw [List.size_toArray, HXL.out.1]; kernel_rfl) ?_)
    | (refine wpList_store_row rfl 36 (.tmp 10) (.tmp 16) rfl (w.heap.size + 1 + 1 + 1) L.toArray rfl rfl 36 _ (whole_new _ _ (by simp)) (by rw [List.size_toArray, HXL.out.1]; kernel_rfl) (by rw [sl_size, List.size_toArray, HXL.out.1]) HXL.out.2 ?_))
  refine cut_world (fun X => OpW w w.heap.size x x D X) ⟨by rw [HLE.out]; exact Whole.farRow ((((Whole.new _ _ _).alloc _).alloc _).alloc _) (by omega) _, Whole.farRow (((whole_new _ _ (by simp)).alloc _).alloc _) (by omega) _, Whole.farRow ((whole_new _ _ (by simp)).alloc _) (by omega) _, by rw [HLE.out]; exact setRow_heap _ _ _ _ _ _ (whole_new _ _ (by simp)), below_setRow (below_alloc (below_alloc (below_alloc (below_alloc (Below.refl _ _) _) _) _) _) (by omega) _⟩ ?_
  rintro X hX
  have HBW := Lib.hid (show w.heap.size ≤ w.heap.size from Nat.le_refl _)
  generalize hB : w.heap.size = B at hX HPO HBW ⊢
  have HB := Lib.hid hB
  have HX := Lib.hid hX
  clear hB hX hz
  have d0 := HD.out _ _ _ HX.out.dat
  have HXO := Lib.hid (show Whole X (B + 1 + 1 + 1) 36 L.toArray from by rw [← HLE.out]; exact HX.out.out)
  go_upto_region 3 with (go_at_call 18; refine (HFD.out _ _ HXO.out).mono ?_; rintro e X1 ⟨rfl, hb1⟩; have HX1 := Lib.hid (HX.out.below hb1); clear hb1)
  clear HX HXO d0
  have HAr := Lib.hid (show ∀ V y, OpW w B x y D V → Whole V B 36 L.toArray from fun V y h => by rw [← HLE.out]; exact h.arg)
  cases fo with
  | none =>
    rw [show ptrO (B + 1 + 1 + 1) none = .pointer none from rfl]
    go_wp2_with (first
      | (refine wpList_load_row rfl 36 (.tmp 3) rfl B rfl 36 L.toArray (0, 0) _ (HAr.out _ _ HX1.out) rfl rfl (by rw [List.size_toArray, HXL.out.1]; kernel_rfl) ?_)
      | (refine wpList_store_row rfl 36 (.tmp 6) (.tmp 22) rfl (B + 1 + 1) L.toArray rfl rfl 36 _ HX1.out.res (by rw [List.size_toArray, HXL.out.1]; kernel_rfl) (by rw [sl_size, List.size_toArray, HXL.out.1]) HXL.out.2 ?_))
    have HE := Lib.hid (setRow_heap _ _ _ L.toArray _ _ HX1.out.res)
    refine bodyPost_ret (results_cell3 rfl _ _ (B + 1 + 1) 36 L _ rfl HE.out rfl rfl (by rw [HXL.out.1]; kernel_rfl)) rfl ?_
    exact ⟨⟨x, none, 0, false, 72, by unfold slV; rw [HLE.out]; rfl, fun _ => rfl, fun h => by cases h⟩, by rw [HB.out]; exact below_setRow HX1.out.bel (by omega) _⟩
  | some o =>
    rcases find_some HFO.out with ⟨rfl, hl⟩ | ⟨rfl, hl⟩ | ⟨rfl, hl⟩
    · clear hl
      rw [show ptrO (B + 1 + 1 + 1) (some 75) = .pointer (some ⟨B + 1 + 1 + 1, 75, none⟩) from rfl]
      have HOP := Lib.hid (HPO.out x.c HOK.out.2.1)
      have HPL := Lib.hid (And.intro (pairL_length x.c) (pair_one x.c))
      have HRG := Lib.hid (show ∀ V, Whole V (B + 1 + 1 + 1) 36 (slL x).toArray → V.rangeAt (B + 1 + 1 + 1) 75 (pairL x.c) from fun V h => at_c h)
      unfold pairV at HOP
      obtain ⟨PL, hPL⟩ : ∃ L, pairL x.c = L := ⟨_, rfl⟩
      rw [hPL] at HOP HPL HRG
      clear hPL
      have HN0 := Lib.hid (And.intro (pairL_length noP) (pair_one noP))
      have hzp := zero_pair
      obtain ⟨N0, hN0⟩ : ∃ N, pairL noP = N := ⟨_, rfl⟩
      rw [hN0] at HN0 hzp
      clear hN0
      go_upto_region 5 with fail
      go_cut [12, 13, 14] (fun t12 t13 t14 V => ∃ (G : Nat) (W : St) (A' : Option Addr) (k E : Nat), t12 = .pointer (some ⟨G, 0, none⟩) ∧ t13 = .slice A' k k ∧ t14 = .int .i64 (E : Nat) ∧ Whole V G 34 (pairL { x.c with win := W }).toArray ∧ B + 1 + 1 + 1 < G ∧ OpW w B x x D V ∧ W.ok ∧ (E = 0 → l = x.c.l ∧ oldB x.c t = false) ∧ (E ≠ 0 → W = x.c.win))
      case first =>
        obtain ⟨B0, hB0⟩ : ∃ n, X1.heap.size = n := ⟨_, rfl⟩
        have HOV := Lib.hid (show ∀ V, Below B0 X1 V → OpW w B x x D V from fun V hV => HX1.out.below (by rw [hB0]; exact hV))
        have HB0 := Lib.hid hB0
        have HBL := Lib.hid (show B + 1 + 1 + 1 < B0 by rw [← hB0]; exact HX1.out.out.lt)
        refine region_drew (fun V => Below B0 X1 V) (by kernel_rfl) (by rw [← hB0]; exact Below.drew (Below.refl _ _)) (fun hS => ?_)
        clear hB0
        refine take 0 _ rfl (by kernel_rfl) (by kernel_rfl) (by kernel_rfl) (fun _ _ _ h => h) (by rfl) hS (by intro w _; go_simp; with_reducible rfl) ?_
        try simp only [Act.put, List.setIfInBounds_toArray, List.set_cons_zero, List.set_cons_succ]
        refine take 1 _ rfl (by kernel_rfl) (by kernel_rfl) (by kernel_rfl) (fun _ _ _ h => h) (by rfl) hS (by intro w _; go_simp; with_reducible rfl) ?_
        try simp only [Act.put, List.setIfInBounds_toArray, List.set_cons_zero, List.set_cons_succ]
        refine take 2 (.agg PL.toArray) rfl (by kernel_rfl) (by kernel_rfl) (by kernel_rfl) (fun _ _ _ h => h) (by rfl) hS (fun V hV => run_mid_in 34 (.tmp 25) rfl (B + 1 + 1 + 1) 75 rfl PL _ (HRG.out _ (HOV.out _ hV).out) rfl rfl (by rw [HPL.out.1]; kernel_rfl)) ?_
        try simp only [Act.put, List.setIfInBounds_toArray, List.set_cons_zero, List.set_cons_succ]
        refine take 3 (.agg D.toArray) rfl (by kernel_rfl) (by kernel_rfl) (by kernel_rfl) (fun _ _ _ h => h) (by rfl) hS (fun V hV => run_load_in 40 (.tmp 4) rfl (B + 1) rfl D.toArray 3 (by rw [List.size_toArray, HDS.out]) (HOV.out _ hV).dat rfl rfl (by kernel_rfl)) ?_
        try simp only [Act.put, List.setIfInBounds_toArray, List.set_cons_zero, List.set_cons_succ]
        refine take 4 _ rfl (by kernel_rfl) (by kernel_rfl) (by kernel_rfl) (fun _ _ _ h => h) (by rfl) hS (by intro w _; go_simp; with_reducible rfl) ?_
        try simp only [Act.put, List.setIfInBounds_toArray, List.set_cons_zero, List.set_cons_succ]
        refine ready_two 5 10 rfl rfl (by kernel_rfl) (by rfl) (by rfl) ?_ ?_
        · intro K hK
          go_simp
          refine (HOP.out _ (HOV.out _ hS).bel).mono ?_
          rintro e Y ⟨⟨W, A', k, E, rfl, hW, hE0, hE1⟩, hb⟩
          have HPP := Lib.hid (And.intro hW (And.intro hE0 hE1))
          go_simp
          have hS2 := hS.trans (hb.mono (by have h1 := hS.size; have h2 := HB0.out; omega))
          refine hK.out _ _ hS2 ?_
          clear hK K hW hE0 hE1
          try simp only [Act.put, List.setIfInBounds_toArray, List.set_cons_zero, List.set_cons_succ]
          clear hS
          have hS := hS2
          clear hS2
          refine take 6 _ rfl (by kernel_rfl) (by kernel_rfl) (by kernel_rfl) (fun _ _ _ h => h) (by rfl) hS (by intro w _; go_simp; with_reducible rfl) ?_
          try simp only [Act.put, List.setIfInBounds_toArray, List.set_cons_zero, List.set_cons_succ]
          refine take 7 _ rfl (by kernel_rfl) (by kernel_rfl) (by kernel_rfl) (fun _ _ _ h => h) (by rfl) hS (by intro w _; go_simp; with_reducible rfl) ?_
          try simp only [Act.put, List.setIfInBounds_toArray, List.set_cons_zero, List.set_cons_succ]
          refine take 8 _ rfl (by kernel_rfl) (by kernel_rfl) (by kernel_rfl) (fun _ _ _ h => h) (by rfl) hS (by intro w _; go_simp; with_reducible rfl) ?_
          try simp only [Act.put, List.setIfInBounds_toArray, List.set_cons_zero, List.set_cons_succ]
          refine take 9 _ rfl (by kernel_rfl) (by kernel_rfl) (by kernel_rfl) (fun _ _ _ h => h) (by rfl) hS (by intro w _; go_simp; with_reducible rfl) ?_
          try simp only [Act.put, List.setIfInBounds_toArray, List.set_cons_zero, List.set_cons_succ]
          refine alone 10 rfl (by kernel_rfl) (by rfl) ?_
          intro K hK
          go_simp
          have hsz : B0 ≤ Y.heap.size := HB0.out ▸ hS.size
          have hS2 : Below B0 X1 (Y.alloc (.cells N0.toArray 34)) := below_alloc' hS hsz _
          refine hK.out _ _ hS2 ?_
          clear hK K
          have HG0 := Lib.hid (Whole.new Y 34 N0.toArray)
          have HGE0 := Lib.hid hsz
          generalize hG : Y.heap.size = G at HG0 HGE0 ⊢
          have HG := HG0
          have HGE := HGE0
          clear HG0 HGE0 hG hS hsz
          generalize Y.alloc (.cells N0.toArray 34) = Z at hS2 HG ⊢
          have hS := hS2
          clear hS2
          try simp only [Act.put, List.setIfInBounds_toArray, List.set_cons_zero, List.set_cons_succ]
          have HOVL := Lib.hid (show B + 1 + 1 + 1 < G by have h1 := HX1.out.out.lt; have h2 := HGE.out; have h3 := HBL.out; omega)
          have HQL := Lib.hid (And.intro (pairL_length { x.c with win := W }) (pair_one { x.c with win := W }))
          refine alone 11 rfl (by kernel_rfl) (by rfl) ?_
          intro K hK
          refine wp_store_row 34 (.tmp 12) (.tmp 30) rfl G (pairL { x.c with win := W }).toArray (by rfl) (by rfl) 34 N0.toArray HG.out (by rw [List.size_toArray, HQL.out.1]; kernel_rfl) (by rw [List.size_toArray, List.size_toArray, HN0.out.1, HQL.out.1]) HQL.out.2 ?_
          have HE := Lib.hid (show Whole (Z.setRow G (pairL { x.c with win := W }).toArray) G 34 (pairL { x.c with win := W }).toArray ∧ Below B0 X1 (Z.setRow G (pairL { x.c with win := W }).toArray) from ⟨setRow_heap _ _ _ _ _ _ HG.out, below_setRow hS HGE.out _⟩)
          refine hK.out _ _ HE.out.2 ?_
          clear hK K
          clear hS
          have hS := HE.out.2
          try simp only [Act.put]
          refine take 12 _ rfl (by kernel_rfl) (by kernel_rfl) (by kernel_rfl) (fun _ _ _ h => h) (by rfl) hS (by intro w _; go_simp; with_reducible rfl) ?_
          try simp only [Act.put, List.setIfInBounds_toArray, List.set_cons_zero, List.set_cons_succ]
          refine take 13 _ rfl (by kernel_rfl) (by kernel_rfl) (by kernel_rfl) (fun _ _ _ h => h) (by rfl) hS (by intro w _; go_simp; with_reducible rfl) ?_
          try simp only [Act.put, List.setIfInBounds_toArray, List.set_cons_zero, List.set_cons_succ]
          refine region_end (by kernel_rfl) ?_
          go_wp2_with fail
          go_meet
          exact ⟨G, W, A', k, E, rfl, rfl, rfl, HE.out.1, HOVL.out, HOV.out _ HE.out.2, HPP.out.1, HPP.out.2.1, HPP.out.2.2⟩
        · intro K hK
          go_simp
          have hS2 : Below B0 X1 (X1.drew.alloc (.cells N0.toArray 34)) := below_alloc' hS (Nat.le_of_eq HB0.out.symm) _
          refine hK.out _ _ hS2 ?_
          clear hK K
          have HG1 := Lib.hid (show Whole (X1.drew.alloc (.cells N0.toArray 34)) X1.heap.size 34 N0.toArray from Whole.new X1.drew 34 N0.toArray)
          clear hS
          have hS := hS2
          clear hS2
          try simp only [Act.put, List.setIfInBounds_toArray, List.set_cons_zero, List.set_cons_succ]
          refine alone 5 rfl (by kernel_rfl) (by rfl) ?_
          intro K hK
          go_simp
          refine (HOP.out _ (HOV.out _ hS).bel).mono ?_
          rintro e Y ⟨⟨W, A', k, E, rfl, hW, hE0, hE1⟩, hb⟩
          have HPP := Lib.hid (And.intro hW (And.intro hE0 hE1))
          go_simp
          have hS2 := hS.trans (hb.mono (by have h1 := hS.size; have h2 := HB0.out; omega))
          refine hK.out _ _ hS2 ?_
          clear hK K hW hE0 hE1
          try simp only [Act.put, List.setIfInBounds_toArray, List.set_cons_zero, List.set_cons_succ]
          clear hS
          have hS := hS2
          clear hS2
          refine take 6 _ rfl (by kernel_rfl) (by kernel_rfl) (by kernel_rfl) (fun _ _ _ h => h) (by rfl) hS (by intro w _; go_simp; with_reducible rfl) ?_
          try simp only [Act.put, List.setIfInBounds_toArray, List.set_cons_zero, List.set_cons_succ]
          refine take 7 _ rfl (by kernel_rfl) (by kernel_rfl) (by kernel_rfl) (fun _ _ _ h => h) (by rfl) hS (by intro w _; go_simp; with_reducible rfl) ?_
          try simp only [Act.put, List.setIfInBounds_toArray, List.set_cons_zero, List.set_cons_succ]
          refine take 8 _ rfl (by kernel_rfl) (by kernel_rfl) (by kernel_rfl) (fun _ _ _ h => h) (by rfl) hS (by intro w _; go_simp; with_reducible rfl) ?_
          try simp only [Act.put, List.setIfInBounds_toArray, List.set_cons_zero, List.set_cons_succ]
          refine take 9 _ rfl (by kernel_rfl) (by kernel_rfl) (by kernel_rfl) (fun _ _ _ h => h) (by rfl) hS (by intro w _; go_simp; with_reducible rfl) ?_
          try simp only [Act.put, List.setIfInBounds_toArray, List.set_cons_zero, List.set_cons_succ]
          have HG := Lib.hid (HG1.out.below hb HG1.out.lt)
          have HGE := Lib.hid (Nat.le_of_eq HB0.out.symm)
          obtain ⟨Z, hZ⟩ : ∃ Z, Y = Z := ⟨_, rfl⟩
          rw [hZ] at HG hS ⊢
          clear hb
          generalize X1.heap.size = G at HG HG1 HGE ⊢
          clear hZ
          have HOVL := Lib.hid (show B + 1 + 1 + 1 < G by have h1 := HX1.out.out.lt; have h2 := HGE.out; have h3 := HBL.out; omega)
          have HQL := Lib.hid (And.intro (pairL_length { x.c with win := W }) (pair_one { x.c with win := W }))
          refine alone 11 rfl (by kernel_rfl) (by rfl) ?_
          intro K hK
          refine wp_store_row 34 (.tmp 12) (.tmp 30) rfl G (pairL { x.c with win := W }).toArray (by rfl) (by rfl) 34 N0.toArray HG.out (by rw [List.size_toArray, HQL.out.1]; kernel_rfl) (by rw [List.size_toArray, List.size_toArray, HN0.out.1, HQL.out.1]) HQL.out.2 ?_
          have HE := Lib.hid (show Whole (Z.setRow G (pairL { x.c with win := W }).toArray) G 34 (pairL { x.c with win := W }).toArray ∧ Below B0 X1 (Z.setRow G (pairL { x.c with win := W }).toArray) from ⟨setRow_heap _ _ _ _ _ _ HG.out, below_setRow hS HGE.out _⟩)
          refine hK.out _ _ HE.out.2 ?_
          clear hK K
          clear hS
          have hS := HE.out.2
          try simp only [Act.put]
          refine take 12 _ rfl (by kernel_rfl) (by kernel_rfl) (by kernel_rfl) (fun _ _ _ h => h) (by rfl) hS (by intro w _; go_simp; with_reducible rfl) ?_
          try simp only [Act.put, List.setIfInBounds_toArray, List.set_cons_zero, List.set_cons_succ]
          refine take 13 _ rfl (by kernel_rfl) (by kernel_rfl) (by kernel_rfl) (fun _ _ _ h => h) (by rfl) hS (by intro w _; go_simp; with_reducible rfl) ?_
          try simp only [Act.put, List.setIfInBounds_toArray, List.set_cons_zero, List.set_cons_succ]
          refine region_end (by kernel_rfl) ?_
          go_wp2_with fail
          go_meet
          exact ⟨G, W, A', k, E, rfl, rfl, rfl, HE.out.1, HOVL.out, HOV.out _ HE.out.2, HPP.out.1, HPP.out.2.1, HPP.out.2.2⟩
      case rest =>
        obtain ⟨G, W, A', k, E, rfl, rfl, rfl, hG, hGe, hO, hW, _, _⟩ := hcut
        have HC := Lib.hid (And.intro hG (And.intro hO hW))
        clear hG hGe hO hW HOP HX1 hzp HN0
        by_cases hE : E = 0
        · subst hE
          have HQL := Lib.hid (And.intro (pairL_length { x.c with win := W }) (pair_one { x.c with win := W }))
          have HPQ := Lib.hid (show OpW w B x { x with c := { x.c with win := W } } D (wc.setCells (B + 1 + 1 + 1) 75 (pairL { x.c with win := W })) from HC.out.2.1.pair (put_c HC.out.2.1.out _))
          have hth := there_at HC.out.2.1.out 75 72 (by omega)
          have HG := Lib.hid HC.out.1
          obtain ⟨QL, hQL⟩ : ∃ L, pairL { x.c with win := W } = L := ⟨_, rfl⟩
          rw [hQL] at HQL HPQ HG
          clear hQL
          go_upto_region 9 with (first
            | (refine wpList_load_row rfl 34 (.tmp 12) rfl G rfl 34 QL.toArray (0, 0) _ HG.out rfl rfl (by rw [List.size_toArray, HQL.out.1]; kernel_rfl) ?_)
            | (refine wpList_store_mid rfl 34 (.tmp 39) (.tmp 38) rfl (B + 1 + 1 + 1) 75 QL.toArray rfl rfl (by rw [List.size_toArray, HQL.out.1]; exact hth) (by rw [List.size_toArray, HQL.out.1]; kernel_rfl) HQL.out.2 ?_))
          refine cut_world (fun V => OpW w B x { x with c := { x.c with win := W } } D V) HPQ.out ?_
          rintro V hV
          have HI := Lib.hid hV
          have HWO := Lib.hid HC.out.2.2
          clear hV HPQ hth HG HC
          have heq := eq_other (show 75 ≠ 147 by decide) HI.out.out
          have HFL := Lib.hid (And.intro (slL_length ({ x with c := { x.c with win := W } })) (sl_one ({ x with c := { x.c with win := W } })))
          have HTI := Lib.hid (tidy_any ({ x with c := { x.c with win := W } }))
          have HTL := Lib.hid (And.intro (slL_length (tidy ({ x with c := { x.c with win := W } }))) (sl_one (tidy ({ x with c := { x.c with win := W } }))))
          have HOU := Lib.hid (show ∀ V, OpW w B x ({ x with c := { x.c with win := W } }) D V → Whole V (B + 1 + 1 + 1) 36 (slL ({ x with c := { x.c with win := W } })).toArray from fun V hV => hV.out)
          unfold slV at HTI
          obtain ⟨ZL, hZL⟩ : ∃ L, slL ({ x with c := { x.c with win := W } }) = L := ⟨_, rfl⟩
          obtain ⟨TL, hTL⟩ : ∃ L, slL (tidy ({ x with c := { x.c with win := W } })) = L := ⟨_, rfl⟩
          have HTE := Lib.hid hTL
          rw [hZL] at HFL HTI HOU
          rw [hTL] at HTI HTL
          clear hZL hTL
          go_wp2_with (first
            | (refine wpList_load_row rfl 36 (.tmp 10) rfl (B + 1 + 1 + 1) rfl 36 ZL.toArray (0, 0) _ (HOU.out _ HI.out) rfl rfl (by rw [List.size_toArray, HFL.out.1]; kernel_rfl) ?_)
            | (go_at_call 16; refine (HTI.out _).mono ?_; rintro e W2 ⟨rfl, hb2⟩; have HJ := Lib.hid (HI.out.below hb2); clear hb2)
            | (refine wpList_store_row rfl 36 (.tmp 6) (.tmp 56) rfl (B + 1 + 1) TL.toArray rfl rfl 36 _ HJ.out.res (by rw [List.size_toArray, HTL.out.1]; kernel_rfl) (by rw [sl_size, List.size_toArray, HTL.out.1]) HTL.out.2 ?_))
          have HE := Lib.hid (setRow_heap _ _ _ TL.toArray _ _ HJ.out.res)
          refine bodyPost_ret (results_cell3 rfl _ _ (B + 1 + 1) 36 TL _ rfl HE.out rfl rfl (by rw [HTL.out.1]; kernel_rfl)) rfl ?_
          exact ⟨⟨tidy ({ x with c := { x.c with win := W } }), A', k, false, 0, by unfold slV; rw [HTE.out]; rfl, fun h => absurd rfl h, fun _ => ⟨W, HWO.out, .inl ⟨rfl, HFO.out, rfl⟩⟩⟩, by rw [HB.out]; exact below_setRow HJ.out.bel (by omega) _⟩
        · have hne : (((E : Nat) : Int) != 0) = true := by simp; omega
          have HNE := Lib.hid hE
          clear hE
          have HO := Lib.hid HC.out.2.1
          go_wp2_with (first
            | (refine wpList_load_row rfl 36 (.tmp 3) rfl B rfl 36 L.toArray (0, 0) _ (HAr.out _ _ HO.out) rfl rfl (by rw [List.size_toArray, HXL.out.1]; kernel_rfl) ?_)
            | (refine wpList_store_row rfl 36 (.tmp 6) (.tmp 35) rfl (B + 1 + 1) L.toArray rfl rfl 36 _ HO.out.res (by rw [List.size_toArray, HXL.out.1]; kernel_rfl) (by rw [sl_size, List.size_toArray, HXL.out.1]) HXL.out.2 ?_))
          have HE := Lib.hid (setRow_heap _ _ _ L.toArray _ _ HO.out.res)
          refine bodyPost_ret (results_cell3 rfl _ _ (B + 1 + 1) 36 L _ rfl HE.out rfl rfl (by rw [HXL.out.1]; kernel_rfl)) rfl ?_
          exact ⟨⟨x, none, 0, false, E, by unfold slV; rw [HLE.out]; rfl, fun _ => rfl, fun h => absurd h HNE.out⟩, by rw [HB.out]; exact below_setRow HO.out.bel (by omega) _⟩
    · clear hl
      rw [show ptrO (B + 1 + 1 + 1) (some 147) = .pointer (some ⟨B + 1 + 1 + 1, 147, none⟩) from rfl]
      have HOP := Lib.hid (HPO.out x.n HOK.out.2.2)
      have HPL := Lib.hid (And.intro (pairL_length x.n) (pair_one x.n))
      have HRG := Lib.hid (show ∀ V, Whole V (B + 1 + 1 + 1) 36 (slL x).toArray → V.rangeAt (B + 1 + 1 + 1) 147 (pairL x.n) from fun V h => at_n h)
      unfold pairV at HOP
      obtain ⟨PL, hPL⟩ : ∃ L, pairL x.n = L := ⟨_, rfl⟩
      rw [hPL] at HOP HPL HRG
      clear hPL
      have HN0 := Lib.hid (And.intro (pairL_length noP) (pair_one noP))
      have hzp := zero_pair
      obtain ⟨N0, hN0⟩ : ∃ N, pairL noP = N := ⟨_, rfl⟩
      rw [hN0] at HN0 hzp
      clear hN0
      go_upto_region 5 with fail
      go_cut [12, 13, 14] (fun t12 t13 t14 V => ∃ (G : Nat) (W : St) (A' : Option Addr) (k E : Nat), t12 = .pointer (some ⟨G, 0, none⟩) ∧ t13 = .slice A' k k ∧ t14 = .int .i64 (E : Nat) ∧ Whole V G 34 (pairL { x.n with win := W }).toArray ∧ B + 1 + 1 + 1 < G ∧ OpW w B x x D V ∧ W.ok ∧ (E = 0 → l = x.n.l ∧ oldB x.n t = false) ∧ (E ≠ 0 → W = x.n.win))
      case first =>
        obtain ⟨B0, hB0⟩ : ∃ n, X1.heap.size = n := ⟨_, rfl⟩
        have HOV := Lib.hid (show ∀ V, Below B0 X1 V → OpW w B x x D V from fun V hV => HX1.out.below (by rw [hB0]; exact hV))
        have HB0 := Lib.hid hB0
        have HBL := Lib.hid (show B + 1 + 1 + 1 < B0 by rw [← hB0]; exact HX1.out.out.lt)
        refine region_drew (fun V => Below B0 X1 V) (by kernel_rfl) (by rw [← hB0]; exact Below.drew (Below.refl _ _)) (fun hS => ?_)
        clear hB0
        refine take 0 _ rfl (by kernel_rfl) (by kernel_rfl) (by kernel_rfl) (fun _ _ _ h => h) (by rfl) hS (by intro w _; go_simp; with_reducible rfl) ?_
        try simp only [Act.put, List.setIfInBounds_toArray, List.set_cons_zero, List.set_cons_succ]
        refine take 1 _ rfl (by kernel_rfl) (by kernel_rfl) (by kernel_rfl) (fun _ _ _ h => h) (by rfl) hS (by intro w _; go_simp; with_reducible rfl) ?_
        try simp only [Act.put, List.setIfInBounds_toArray, List.set_cons_zero, List.set_cons_succ]
        refine take 2 (.agg PL.toArray) rfl (by kernel_rfl) (by kernel_rfl) (by kernel_rfl) (fun _ _ _ h => h) (by rfl) hS (fun V hV => run_mid_in 34 (.tmp 25) rfl (B + 1 + 1 + 1) 147 rfl PL _ (HRG.out _ (HOV.out _ hV).out) rfl rfl (by rw [HPL.out.1]; kernel_rfl)) ?_
        try simp only [Act.put, List.setIfInBounds_toArray, List.set_cons_zero, List.set_cons_succ]
        refine take 3 (.agg D.toArray) rfl (by kernel_rfl) (by kernel_rfl) (by kernel_rfl) (fun _ _ _ h => h) (by rfl) hS (fun V hV => run_load_in 40 (.tmp 4) rfl (B + 1) rfl D.toArray 3 (by rw [List.size_toArray, HDS.out]) (HOV.out _ hV).dat rfl rfl (by kernel_rfl)) ?_
        try simp only [Act.put, List.setIfInBounds_toArray, List.set_cons_zero, List.set_cons_succ]
        refine take 4 _ rfl (by kernel_rfl) (by kernel_rfl) (by kernel_rfl) (fun _ _ _ h => h) (by rfl) hS (by intro w _; go_simp; with_reducible rfl) ?_
        try simp only [Act.put, List.setIfInBounds_toArray, List.set_cons_zero, List.set_cons_succ]
        refine ready_two 5 10 rfl rfl (by kernel_rfl) (by rfl) (by rfl) ?_ ?_
        · intro K hK
          go_simp
          refine (HOP.out _ (HOV.out _ hS).bel).mono ?_
          rintro e Y ⟨⟨W, A', k, E, rfl, hW, hE0, hE1⟩, hb⟩
          have HPP := Lib.hid (And.intro hW (And.intro hE0 hE1))
          go_simp
          have hS2 := hS.trans (hb.mono (by have h1 := hS.size; have h2 := HB0.out; omega))
          refine hK.out _ _ hS2 ?_
          clear hK K hW hE0 hE1
          try simp only [Act.put, List.setIfInBounds_toArray, List.set_cons_zero, List.set_cons_succ]
          clear hS
          have hS := hS2
          clear hS2
          refine take 6 _ rfl (by kernel_rfl) (by kernel_rfl) (by kernel_rfl) (fun _ _ _ h => h) (by rfl) hS (by intro w _; go_simp; with_reducible rfl) ?_
          try simp only [Act.put, List.setIfInBounds_toArray, List.set_cons_zero, List.set_cons_succ]
          refine take 7 _ rfl (by kernel_rfl) (by kernel_rfl) (by kernel_rfl) (fun _ _ _ h => h) (by rfl) hS (by intro w _; go_simp; with_reducible rfl) ?_
          try simp only [Act.put, List.setIfInBounds_toArray, List.set_cons_zero, List.set_cons_succ]
          refine take 8 _ rfl (by kernel_rfl) (by kernel_rfl) (by kernel_rfl) (fun _ _ _ h => h) (by rfl) hS (by intro w _; go_simp; with_reducible rfl) ?_
          try simp only [Act.put, List.setIfInBounds_toArray, List.set_cons_zero, List.set_cons_succ]
          refine take 9 _ rfl (by kernel_rfl) (by kernel_rfl) (by kernel_rfl) (fun _ _ _ h => h) (by rfl) hS (by intro w _; go_simp; with_reducible rfl) ?_
          try simp only [Act.put, List.setIfInBounds_toArray, List.set_cons_zero, List.set_cons_succ]
          refine alone 10 rfl (by kernel_rfl) (by rfl) ?_
          intro K hK
          go_simp
          have hsz : B0 ≤ Y.heap.size := HB0.out ▸ hS.size
          have hS2 : Below B0 X1 (Y.alloc (.cells N0.toArray 34)) := below_alloc' hS hsz _
          refine hK.out _ _ hS2 ?_
          clear hK K
          have HG0 := Lib.hid (Whole.new Y 34 N0.toArray)
          have HGE0 := Lib.hid hsz
          generalize hG : Y.heap.size = G at HG0 HGE0 ⊢
          have HG := HG0
          have HGE := HGE0
          clear HG0 HGE0 hG hS hsz
          generalize Y.alloc (.cells N0.toArray 34) = Z at hS2 HG ⊢
          have hS := hS2
          clear hS2
          try simp only [Act.put, List.setIfInBounds_toArray, List.set_cons_zero, List.set_cons_succ]
          have HOVL := Lib.hid (show B + 1 + 1 + 1 < G by have h1 := HX1.out.out.lt; have h2 := HGE.out; have h3 := HBL.out; omega)
          have HQL := Lib.hid (And.intro (pairL_length { x.n with win := W }) (pair_one { x.n with win := W }))
          refine alone 11 rfl (by kernel_rfl) (by rfl) ?_
          intro K hK
          refine wp_store_row 34 (.tmp 12) (.tmp 30) rfl G (pairL { x.n with win := W }).toArray (by rfl) (by rfl) 34 N0.toArray HG.out (by rw [List.size_toArray, HQL.out.1]; kernel_rfl) (by rw [List.size_toArray, List.size_toArray, HN0.out.1, HQL.out.1]) HQL.out.2 ?_
          have HE := Lib.hid (show Whole (Z.setRow G (pairL { x.n with win := W }).toArray) G 34 (pairL { x.n with win := W }).toArray ∧ Below B0 X1 (Z.setRow G (pairL { x.n with win := W }).toArray) from ⟨setRow_heap _ _ _ _ _ _ HG.out, below_setRow hS HGE.out _⟩)
          refine hK.out _ _ HE.out.2 ?_
          clear hK K
          clear hS
          have hS := HE.out.2
          try simp only [Act.put]
          refine take 12 _ rfl (by kernel_rfl) (by kernel_rfl) (by kernel_rfl) (fun _ _ _ h => h) (by rfl) hS (by intro w _; go_simp; with_reducible rfl) ?_
          try simp only [Act.put, List.setIfInBounds_toArray, List.set_cons_zero, List.set_cons_succ]
          refine take 13 _ rfl (by kernel_rfl) (by kernel_rfl) (by kernel_rfl) (fun _ _ _ h => h) (by rfl) hS (by intro w _; go_simp; with_reducible rfl) ?_
          try simp only [Act.put, List.setIfInBounds_toArray, List.set_cons_zero, List.set_cons_succ]
          refine region_end (by kernel_rfl) ?_
          go_wp2_with fail
          go_meet
          exact ⟨G, W, A', k, E, rfl, rfl, rfl, HE.out.1, HOVL.out, HOV.out _ HE.out.2, HPP.out.1, HPP.out.2.1, HPP.out.2.2⟩
        · intro K hK
          go_simp
          have hS2 : Below B0 X1 (X1.drew.alloc (.cells N0.toArray 34)) := below_alloc' hS (Nat.le_of_eq HB0.out.symm) _
          refine hK.out _ _ hS2 ?_
          clear hK K
          have HG1 := Lib.hid (show Whole (X1.drew.alloc (.cells N0.toArray 34)) X1.heap.size 34 N0.toArray from Whole.new X1.drew 34 N0.toArray)
          clear hS
          have hS := hS2
          clear hS2
          try simp only [Act.put, List.setIfInBounds_toArray, List.set_cons_zero, List.set_cons_succ]
          refine alone 5 rfl (by kernel_rfl) (by rfl) ?_
          intro K hK
          go_simp
          refine (HOP.out _ (HOV.out _ hS).bel).mono ?_
          rintro e Y ⟨⟨W, A', k, E, rfl, hW, hE0, hE1⟩, hb⟩
          have HPP := Lib.hid (And.intro hW (And.intro hE0 hE1))
          go_simp
          have hS2 := hS.trans (hb.mono (by have h1 := hS.size; have h2 := HB0.out; omega))
          refine hK.out _ _ hS2 ?_
          clear hK K hW hE0 hE1
          try simp only [Act.put, List.setIfInBounds_toArray, List.set_cons_zero, List.set_cons_succ]
          clear hS
          have hS := hS2
          clear hS2
          refine take 6 _ rfl (by kernel_rfl) (by kernel_rfl) (by kernel_rfl) (fun _ _ _ h => h) (by rfl) hS (by intro w _; go_simp; with_reducible rfl) ?_
          try simp only [Act.put, List.setIfInBounds_toArray, List.set_cons_zero, List.set_cons_succ]
          refine take 7 _ rfl (by kernel_rfl) (by kernel_rfl) (by kernel_rfl) (fun _ _ _ h => h) (by rfl) hS (by intro w _; go_simp; with_reducible rfl) ?_
          try simp only [Act.put, List.setIfInBounds_toArray, List.set_cons_zero, List.set_cons_succ]
          refine take 8 _ rfl (by kernel_rfl) (by kernel_rfl) (by kernel_rfl) (fun _ _ _ h => h) (by rfl) hS (by intro w _; go_simp; with_reducible rfl) ?_
          try simp only [Act.put, List.setIfInBounds_toArray, List.set_cons_zero, List.set_cons_succ]
          refine take 9 _ rfl (by kernel_rfl) (by kernel_rfl) (by kernel_rfl) (fun _ _ _ h => h) (by rfl) hS (by intro w _; go_simp; with_reducible rfl) ?_
          try simp only [Act.put, List.setIfInBounds_toArray, List.set_cons_zero, List.set_cons_succ]
          have HG := Lib.hid (HG1.out.below hb HG1.out.lt)
          have HGE := Lib.hid (Nat.le_of_eq HB0.out.symm)
          obtain ⟨Z, hZ⟩ : ∃ Z, Y = Z := ⟨_, rfl⟩
          rw [hZ] at HG hS ⊢
          clear hb
          generalize X1.heap.size = G at HG HG1 HGE ⊢
          clear hZ
          have HOVL := Lib.hid (show B + 1 + 1 + 1 < G by have h1 := HX1.out.out.lt; have h2 := HGE.out; have h3 := HBL.out; omega)
          have HQL := Lib.hid (And.intro (pairL_length { x.n with win := W }) (pair_one { x.n with win := W }))
          refine alone 11 rfl (by kernel_rfl) (by rfl) ?_
          intro K hK
          refine wp_store_row 34 (.tmp 12) (.tmp 30) rfl G (pairL { x.n with win := W }).toArray (by rfl) (by rfl) 34 N0.toArray HG.out (by rw [List.size_toArray, HQL.out.1]; kernel_rfl) (by rw [List.size_toArray, List.size_toArray, HN0.out.1, HQL.out.1]) HQL.out.2 ?_
          have HE := Lib.hid (show Whole (Z.setRow G (pairL { x.n with win := W }).toArray) G 34 (pairL { x.n with win := W }).toArray ∧ Below B0 X1 (Z.setRow G (pairL { x.n with win := W }).toArray) from ⟨setRow_heap _ _ _ _ _ _ HG.out, below_setRow hS HGE.out _⟩)
          refine hK.out _ _ HE.out.2 ?_
          clear hK K
          clear hS
          have hS := HE.out.2
          try simp only [Act.put]
          refine take 12 _ rfl (by kernel_rfl) (by kernel_rfl) (by kernel_rfl) (fun _ _ _ h => h) (by rfl) hS (by intro w _; go_simp; with_reducible rfl) ?_
          try simp only [Act.put, List.setIfInBounds_toArray, List.set_cons_zero, List.set_cons_succ]
          refine take 13 _ rfl (by kernel_rfl) (by kernel_rfl) (by kernel_rfl) (fun _ _ _ h => h) (by rfl) hS (by intro w _; go_simp; with_reducible rfl) ?_
          try simp only [Act.put, List.setIfInBounds_toArray, List.set_cons_zero, List.set_cons_succ]
          refine region_end (by kernel_rfl) ?_
          go_wp2_with fail
          go_meet
          exact ⟨G, W, A', k, E, rfl, rfl, rfl, HE.out.1, HOVL.out, HOV.out _ HE.out.2, HPP.out.1, HPP.out.2.1, HPP.out.2.2⟩
      case rest =>
        obtain ⟨G, W, A', k, E, rfl, rfl, rfl, hG, hGe, hO, hW, _, _⟩ := hcut
        have HC := Lib.hid (And.intro hG (And.intro hO hW))
        clear hG hGe hO hW HOP HX1 hzp HN0
        by_cases hE : E = 0
        · subst hE
          have HQL := Lib.hid (And.intro (pairL_length { x.n with win := W }) (pair_one { x.n with win := W }))
          have HPQ := Lib.hid (show OpW w B x { x with n := { x.n with win := W } } D (wc.setCells (B + 1 + 1 + 1) 147 (pairL { x.n with win := W })) from HC.out.2.1.pair (put_n HC.out.2.1.out _))
          have hth := there_at HC.out.2.1.out 147 72 (by omega)
          have HG := Lib.hid HC.out.1
          obtain ⟨QL, hQL⟩ : ∃ L, pairL { x.n with win := W } = L := ⟨_, rfl⟩
          rw [hQL] at HQL HPQ HG
          clear hQL
          go_upto_region 9 with (first
            | (refine wpList_load_row rfl 34 (.tmp 12) rfl G rfl 34 QL.toArray (0, 0) _ HG.out rfl rfl (by rw [List.size_toArray, HQL.out.1]; kernel_rfl) ?_)
            | (refine wpList_store_mid rfl 34 (.tmp 39) (.tmp 38) rfl (B + 1 + 1 + 1) 147 QL.toArray rfl rfl (by rw [List.size_toArray, HQL.out.1]; exact hth) (by rw [List.size_toArray, HQL.out.1]; kernel_rfl) HQL.out.2 ?_))
          refine cut_world (fun V => OpW w B x { x with n := { x.n with win := W } } D V) HPQ.out ?_
          rintro V hV
          have HI := Lib.hid hV
          have HWO := Lib.hid HC.out.2.2
          clear hV HPQ hth HG HC
          have heq := eq_same (B + 1 + 1 + 1) 147 V
          go_upto_region 11 with fail
          have HNL := Lib.hid (And.intro (pairL_length { x.n with win := W }) (pair_one { x.n with win := W }))
          have HCL := Lib.hid (And.intro (pairL_length x.c) (pair_one x.c))
          have HRC := Lib.hid (at_c HI.out.out)
          obtain ⟨hcb, hhc⟩ : ∃ b, x.hc = b := ⟨_, rfl⟩
          have HHC := Lib.hid hhc
          have cb : V.cell? ⟨B + 1 + 1 + 1, 1, none⟩ = some (.bool hcb) := by rw [← hhc]; exact at_hc (x := { x with n := { x.n with win := W } }) HI.out.out
          have c0 := at_hp HI.out.out
          have f0 := HI.out.out.free 0
          have H1 := Lib.hid (HI.out.bool (put_hp HI.out.out hcb))
          have hth := there_at H1.out.out 3 72 (by omega)
          have H2 := Lib.hid (H1.out.pair (put_p H1.out.out x.c))
          obtain ⟨CL, hCL⟩ : ∃ L, pairL x.c = L := ⟨_, rfl⟩
          have HRC2 := Lib.hid (show V.rangeAt (B + 1 + 1 + 1) 75 CL from by rw [← hCL]; exact HRC.out)
          rw [hCL] at HCL H2
          clear hhc hCL HRC
          go_upto_region 12 with (first
            | (refine wpList_load_mid rfl 34 (.tmp 46) rfl (B + 1 + 1 + 1) 75 rfl CL _ HRC2.out rfl rfl (by rw [HCL.out.1]; kernel_rfl) ?_)
            | (refine wpList_store_mid rfl 34 (.tmp 49) (.tmp 47) rfl (B + 1 + 1 + 1) 3 CL.toArray rfl rfl (by rw [List.size_toArray, HCL.out.1]; exact hth) (by rw [List.size_toArray, HCL.out.1]; kernel_rfl) HCL.out.2 ?_))
          refine cut_world (fun V => OpW w B x { x with hp := hcb, p := x.c, n := { x.n with win := W } } D V) H2.out ?_
          rintro V2 h2
          have HJ := Lib.hid h2
          clear h2 H1 H2 HI cb c0 f0 hth HRC2
          have HRN := Lib.hid (at_n HJ.out.out)
          have c1 := at_hc HJ.out.out
          have f1 := HJ.out.out.free 1
          have K1 := Lib.hid (HJ.out.bool (put_hc HJ.out.out true))
          have hth := there_at K1.out.out 75 72 (by omega)
          have K2 := Lib.hid (K1.out.pair (put_c K1.out.out { x.n with win := W }))
          obtain ⟨NL, hNL⟩ : ∃ L, pairL { x.n with win := W } = L := ⟨_, rfl⟩
          have HRN2 := Lib.hid (show V2.rangeAt (B + 1 + 1 + 1) 147 NL from by rw [← hNL]; exact HRN.out)
          rw [hNL] at HNL K2
          have c2 := at_hn K2.out.out
          have f2 := K2.out.out.free 2
          have K3 := Lib.hid (K2.out.bool (put_hn K2.out.out false))
          clear hNL HRN
          go_upto_region 13 with (first
            | (refine wpList_load_mid rfl 34 (.tmp 50) rfl (B + 1 + 1 + 1) 147 rfl NL _ HRN2.out rfl rfl (by rw [HNL.out.1]; kernel_rfl) ?_)
            | (refine wpList_store_mid rfl 34 (.tmp 53) (.tmp 51) rfl (B + 1 + 1 + 1) 75 NL.toArray rfl rfl (by rw [List.size_toArray, HNL.out.1]; exact hth) (by rw [List.size_toArray, HNL.out.1]; kernel_rfl) HNL.out.2 ?_))
          refine cut_world (fun V => OpW w B x (nextS { x with n := { x.n with win := W } }) D V) (by rw [show nextS { x with n := { x.n with win := W } } = { x with hp := hcb, p := x.c, hc := true, c := { x.n with win := W }, hn := false, n := { x.n with win := W } } from by rw [← HHC.out]; rfl]; exact K3.out) ?_
          rintro V3 h3
          have HI := Lib.hid h3
          clear h3 K1 K2 K3 HJ c1 f1 c2 f2 hth HRN2
          have HFL := Lib.hid (And.intro (slL_length (nextS { x with n := { x.n with win := W } })) (sl_one (nextS { x with n := { x.n with win := W } })))
          have HTI := Lib.hid (tidy_any (nextS { x with n := { x.n with win := W } }))
          have HTL := Lib.hid (And.intro (slL_length (tidy (nextS { x with n := { x.n with win := W } }))) (sl_one (tidy (nextS { x with n := { x.n with win := W } }))))
          have HOU := Lib.hid (show ∀ V, OpW w B x (nextS { x with n := { x.n with win := W } }) D V → Whole V (B + 1 + 1 + 1) 36 (slL (nextS { x with n := { x.n with win := W } })).toArray from fun V hV => hV.out)
          unfold slV at HTI
          obtain ⟨ZL, hZL⟩ : ∃ L, slL (nextS { x with n := { x.n with win := W } }) = L := ⟨_, rfl⟩
          obtain ⟨TL, hTL⟩ : ∃ L, slL (tidy (nextS { x with n := { x.n with win := W } })) = L := ⟨_, rfl⟩
          have HTE := Lib.hid hTL
          rw [hZL] at HFL HTI HOU
          rw [hTL] at HTI HTL
          clear hZL hTL
          go_wp2_with (first
            | (refine wpList_load_row rfl 36 (.tmp 10) rfl (B + 1 + 1 + 1) rfl 36 ZL.toArray (0, 0) _ (HOU.out _ HI.out) rfl rfl (by rw [List.size_toArray, HFL.out.1]; kernel_rfl) ?_)
            | (go_at_call 16; refine (HTI.out _).mono ?_; rintro e W2 ⟨rfl, hb2⟩; have HJ := Lib.hid (HI.out.below hb2); clear hb2)
            | (refine wpList_store_row rfl 36 (.tmp 6) (.tmp 56) rfl (B + 1 + 1) TL.toArray rfl rfl 36 _ HJ.out.res (by rw [List.size_toArray, HTL.out.1]; kernel_rfl) (by rw [sl_size, List.size_toArray, HTL.out.1]) HTL.out.2 ?_))
          have HE := Lib.hid (setRow_heap _ _ _ TL.toArray _ _ HJ.out.res)
          refine bodyPost_ret (results_cell3 rfl _ _ (B + 1 + 1) 36 TL _ rfl HE.out rfl rfl (by rw [HTL.out.1]; kernel_rfl)) rfl ?_
          exact ⟨⟨tidy (nextS { x with n := { x.n with win := W } }), A', k, true, 0, by unfold slV; rw [HTE.out]; rfl, fun h => absurd rfl h, fun _ => ⟨W, HWO.out, .inr (.inr ⟨rfl, HFO.out, rfl⟩)⟩⟩, by rw [HB.out]; exact below_setRow HJ.out.bel (by omega) _⟩
        · have hne : (((E : Nat) : Int) != 0) = true := by simp; omega
          have HNE := Lib.hid hE
          clear hE
          have HO := Lib.hid HC.out.2.1
          go_wp2_with (first
            | (refine wpList_load_row rfl 36 (.tmp 3) rfl B rfl 36 L.toArray (0, 0) _ (HAr.out _ _ HO.out) rfl rfl (by rw [List.size_toArray, HXL.out.1]; kernel_rfl) ?_)
            | (refine wpList_store_row rfl 36 (.tmp 6) (.tmp 35) rfl (B + 1 + 1) L.toArray rfl rfl 36 _ HO.out.res (by rw [List.size_toArray, HXL.out.1]; kernel_rfl) (by rw [sl_size, List.size_toArray, HXL.out.1]) HXL.out.2 ?_))
          have HE := Lib.hid (setRow_heap _ _ _ L.toArray _ _ HO.out.res)
          refine bodyPost_ret (results_cell3 rfl _ _ (B + 1 + 1) 36 L _ rfl HE.out rfl rfl (by rw [HXL.out.1]; kernel_rfl)) rfl ?_
          exact ⟨⟨x, none, 0, false, E, by unfold slV; rw [HLE.out]; rfl, fun _ => rfl, fun h => absurd h HNE.out⟩, by rw [HB.out]; exact below_setRow HO.out.bel (by omega) _⟩
    · clear hl
      rw [show ptrO (B + 1 + 1 + 1) (some 3) = .pointer (some ⟨B + 1 + 1 + 1, 3, none⟩) from rfl]
      have HOP := Lib.hid (HPO.out x.p HOK.out.1)
      have HPL := Lib.hid (And.intro (pairL_length x.p) (pair_one x.p))
      have HRG := Lib.hid (show ∀ V, Whole V (B + 1 + 1 + 1) 36 (slL x).toArray → V.rangeAt (B + 1 + 1 + 1) 3 (pairL x.p) from fun V h => at_p h)
      unfold pairV at HOP
      obtain ⟨PL, hPL⟩ : ∃ L, pairL x.p = L := ⟨_, rfl⟩
      rw [hPL] at HOP HPL HRG
      clear hPL
      have HN0 := Lib.hid (And.intro (pairL_length noP) (pair_one noP))
      have hzp := zero_pair
      obtain ⟨N0, hN0⟩ : ∃ N, pairL noP = N := ⟨_, rfl⟩
      rw [hN0] at HN0 hzp
      clear hN0
      go_upto_region 5 with fail
      go_cut [12, 13, 14] (fun t12 t13 t14 V => ∃ (G : Nat) (W : St) (A' : Option Addr) (k E : Nat), t12 = .pointer (some ⟨G, 0, none⟩) ∧ t13 = .slice A' k k ∧ t14 = .int .i64 (E : Nat) ∧ Whole V G 34 (pairL { x.p with win := W }).toArray ∧ B + 1 + 1 + 1 < G ∧ OpW w B x x D V ∧ W.ok ∧ (E = 0 → l = x.p.l ∧ oldB x.p t = false) ∧ (E ≠ 0 → W = x.p.win))
      case first =>
        obtain ⟨B0, hB0⟩ : ∃ n, X1.heap.size = n := ⟨_, rfl⟩
        have HOV := Lib.hid (show ∀ V, Below B0 X1 V → OpW w B x x D V from fun V hV => HX1.out.below (by rw [hB0]; exact hV))
        have HB0 := Lib.hid hB0
        have HBL := Lib.hid (show B + 1 + 1 + 1 < B0 by rw [← hB0]; exact HX1.out.out.lt)
        refine region_drew (fun V => Below B0 X1 V) (by kernel_rfl) (by rw [← hB0]; exact Below.drew (Below.refl _ _)) (fun hS => ?_)
        clear hB0
        refine take 0 _ rfl (by kernel_rfl) (by kernel_rfl) (by kernel_rfl) (fun _ _ _ h => h) (by rfl) hS (by intro w _; go_simp; with_reducible rfl) ?_
        try simp only [Act.put, List.setIfInBounds_toArray, List.set_cons_zero, List.set_cons_succ]
        refine take 1 _ rfl (by kernel_rfl) (by kernel_rfl) (by kernel_rfl) (fun _ _ _ h => h) (by rfl) hS (by intro w _; go_simp; with_reducible rfl) ?_
        try simp only [Act.put, List.setIfInBounds_toArray, List.set_cons_zero, List.set_cons_succ]
        refine take 2 (.agg PL.toArray) rfl (by kernel_rfl) (by kernel_rfl) (by kernel_rfl) (fun _ _ _ h => h) (by rfl) hS (fun V hV => run_mid_in 34 (.tmp 25) rfl (B + 1 + 1 + 1) 3 rfl PL _ (HRG.out _ (HOV.out _ hV).out) rfl rfl (by rw [HPL.out.1]; kernel_rfl)) ?_
        try simp only [Act.put, List.setIfInBounds_toArray, List.set_cons_zero, List.set_cons_succ]
        refine take 3 (.agg D.toArray) rfl (by kernel_rfl) (by kernel_rfl) (by kernel_rfl) (fun _ _ _ h => h) (by rfl) hS (fun V hV => run_load_in 40 (.tmp 4) rfl (B + 1) rfl D.toArray 3 (by rw [List.size_toArray, HDS.out]) (HOV.out _ hV).dat rfl rfl (by kernel_rfl)) ?_
        try simp only [Act.put, List.setIfInBounds_toArray, List.set_cons_zero, List.set_cons_succ]
        refine take 4 _ rfl (by kernel_rfl) (by kernel_rfl) (by kernel_rfl) (fun _ _ _ h => h) (by rfl) hS (by intro w _; go_simp; with_reducible rfl) ?_
        try simp only [Act.put, List.setIfInBounds_toArray, List.set_cons_zero, List.set_cons_succ]
        refine ready_two 5 10 rfl rfl (by kernel_rfl) (by rfl) (by rfl) ?_ ?_
        · intro K hK
          go_simp
          refine (HOP.out _ (HOV.out _ hS).bel).mono ?_
          rintro e Y ⟨⟨W, A', k, E, rfl, hW, hE0, hE1⟩, hb⟩
          have HPP := Lib.hid (And.intro hW (And.intro hE0 hE1))
          go_simp
          have hS2 := hS.trans (hb.mono (by have h1 := hS.size; have h2 := HB0.out; omega))
          refine hK.out _ _ hS2 ?_
          clear hK K hW hE0 hE1
          try simp only [Act.put, List.setIfInBounds_toArray, List.set_cons_zero, List.set_cons_succ]
          clear hS
          have hS := hS2
          clear hS2
          refine take 6 _ rfl (by kernel_rfl) (by kernel_rfl) (by kernel_rfl) (fun _ _ _ h => h) (by rfl) hS (by intro w _; go_simp; with_reducible rfl) ?_
          try simp only [Act.put, List.setIfInBounds_toArray, List.set_cons_zero, List.set_cons_succ]
          refine take 7 _ rfl (by kernel_rfl) (by kernel_rfl) (by kernel_rfl) (fun _ _ _ h => h) (by rfl) hS (by intro w _; go_simp; with_reducible rfl) ?_
          try simp only [Act.put, List.setIfInBounds_toArray, List.set_cons_zero, List.set_cons_succ]
          refine take 8 _ rfl (by kernel_rfl) (by kernel_rfl) (by kernel_rfl) (fun _ _ _ h => h) (by rfl) hS (by intro w _; go_simp; with_reducible rfl) ?_
          try simp only [Act.put, List.setIfInBounds_toArray, List.set_cons_zero, List.set_cons_succ]
          refine take 9 _ rfl (by kernel_rfl) (by kernel_rfl) (by kernel_rfl) (fun _ _ _ h => h) (by rfl) hS (by intro w _; go_simp; with_reducible rfl) ?_
          try simp only [Act.put, List.setIfInBounds_toArray, List.set_cons_zero, List.set_cons_succ]
          refine alone 10 rfl (by kernel_rfl) (by rfl) ?_
          intro K hK
          go_simp
          have hsz : B0 ≤ Y.heap.size := HB0.out ▸ hS.size
          have hS2 : Below B0 X1 (Y.alloc (.cells N0.toArray 34)) := below_alloc' hS hsz _
          refine hK.out _ _ hS2 ?_
          clear hK K
          have HG0 := Lib.hid (Whole.new Y 34 N0.toArray)
          have HGE0 := Lib.hid hsz
          generalize hG : Y.heap.size = G at HG0 HGE0 ⊢
          have HG := HG0
          have HGE := HGE0
          clear HG0 HGE0 hG hS hsz
          generalize Y.alloc (.cells N0.toArray 34) = Z at hS2 HG ⊢
          have hS := hS2
          clear hS2
          try simp only [Act.put, List.setIfInBounds_toArray, List.set_cons_zero, List.set_cons_succ]
          have HOVL := Lib.hid (show B + 1 + 1 + 1 < G by have h1 := HX1.out.out.lt; have h2 := HGE.out; have h3 := HBL.out; omega)
          have HQL := Lib.hid (And.intro (pairL_length { x.p with win := W }) (pair_one { x.p with win := W }))
          refine alone 11 rfl (by kernel_rfl) (by rfl) ?_
          intro K hK
          refine wp_store_row 34 (.tmp 12) (.tmp 30) rfl G (pairL { x.p with win := W }).toArray (by rfl) (by rfl) 34 N0.toArray HG.out (by rw [List.size_toArray, HQL.out.1]; kernel_rfl) (by rw [List.size_toArray, List.size_toArray, HN0.out.1, HQL.out.1]) HQL.out.2 ?_
          have HE := Lib.hid (show Whole (Z.setRow G (pairL { x.p with win := W }).toArray) G 34 (pairL { x.p with win := W }).toArray ∧ Below B0 X1 (Z.setRow G (pairL { x.p with win := W }).toArray) from ⟨setRow_heap _ _ _ _ _ _ HG.out, below_setRow hS HGE.out _⟩)
          refine hK.out _ _ HE.out.2 ?_
          clear hK K
          clear hS
          have hS := HE.out.2
          try simp only [Act.put]
          refine take 12 _ rfl (by kernel_rfl) (by kernel_rfl) (by kernel_rfl) (fun _ _ _ h => h) (by rfl) hS (by intro w _; go_simp; with_reducible rfl) ?_
          try simp only [Act.put, List.setIfInBounds_toArray, List.set_cons_zero, List.set_cons_succ]
          refine take 13 _ rfl (by kernel_rfl) (by kernel_rfl) (by kernel_rfl) (fun _ _ _ h => h) (by rfl) hS (by intro w _; go_simp; with_reducible rfl) ?_
          try simp only [Act.put, List.setIfInBounds_toArray, List.set_cons_zero, List.set_cons_succ]
          refine region_end (by kernel_rfl) ?_
          go_wp2_with fail
          go_meet
          exact ⟨G, W, A', k, E, rfl, rfl, rfl, HE.out.1, HOVL.out, HOV.out _ HE.out.2, HPP.out.1, HPP.out.2.1, HPP.out.2.2⟩
        · intro K hK
          go_simp
          have hS2 : Below B0 X1 (X1.drew.alloc (.cells N0.toArray 34)) := below_alloc' hS (Nat.le_of_eq HB0.out.symm) _
          refine hK.out _ _ hS2 ?_
          clear hK K
          have HG1 := Lib.hid (show Whole (X1.drew.alloc (.cells N0.toArray 34)) X1.heap.size 34 N0.toArray from Whole.new X1.drew 34 N0.toArray)
          clear hS
          have hS := hS2
          clear hS2
          try simp only [Act.put, List.setIfInBounds_toArray, List.set_cons_zero, List.set_cons_succ]
          refine alone 5 rfl (by kernel_rfl) (by rfl) ?_
          intro K hK
          go_simp
          refine (HOP.out _ (HOV.out _ hS).bel).mono ?_
          rintro e Y ⟨⟨W, A', k, E, rfl, hW, hE0, hE1⟩, hb⟩
          have HPP := Lib.hid (And.intro hW (And.intro hE0 hE1))
          go_simp
          have hS2 := hS.trans (hb.mono (by have h1 := hS.size; have h2 := HB0.out; omega))
          refine hK.out _ _ hS2 ?_
          clear hK K hW hE0 hE1
          try simp only [Act.put, List.setIfInBounds_toArray, List.set_cons_zero, List.set_cons_succ]
          clear hS
          have hS := hS2
          clear hS2
          refine take 6 _ rfl (by kernel_rfl) (by kernel_rfl) (by kernel_rfl) (fun _ _ _ h => h) (by rfl) hS (by intro w _; go_simp; with_reducible rfl) ?_
          try simp only [Act.put, List.setIfInBounds_toArray, List.set_cons_zero, List.set_cons_succ]
          refine take 7 _ rfl (by kernel_rfl) (by kernel_rfl) (by kernel_rfl) (fun _ _ _ h => h) (by rfl) hS (by intro w _; go_simp; with_reducible rfl) ?_
          try simp only [Act.put, List.setIfInBounds_toArray, List.set_cons_zero, List.set_cons_succ]
          refine take 8 _ rfl (by kernel_rfl) (by kernel_rfl) (by kernel_rfl) (fun _ _ _ h => h) (by rfl) hS (by intro w _; go_simp; with_reducible rfl) ?_
          try simp only [Act.put, List.setIfInBounds_toArray, List.set_cons_zero, List.set_cons_succ]
          refine take 9 _ rfl (by kernel_rfl) (by kernel_rfl) (by kernel_rfl) (fun _ _ _ h => h) (by rfl) hS (by intro w _; go_simp; with_reducible rfl) ?_
          try simp only [Act.put, List.setIfInBounds_toArray, List.set_cons_zero, List.set_cons_succ]
          have HG := Lib.hid (HG1.out.below hb HG1.out.lt)
          have HGE := Lib.hid (Nat.le_of_eq HB0.out.symm)
          obtain ⟨Z, hZ⟩ : ∃ Z, Y = Z := ⟨_, rfl⟩
          rw [hZ] at HG hS ⊢
          clear hb
          generalize X1.heap.size = G at HG HG1 HGE ⊢
          clear hZ
          have HOVL := Lib.hid (show B + 1 + 1 + 1 < G by have h1 := HX1.out.out.lt; have h2 := HGE.out; have h3 := HBL.out; omega)
          have HQL := Lib.hid (And.intro (pairL_length { x.p with win := W }) (pair_one { x.p with win := W }))
          refine alone 11 rfl (by kernel_rfl) (by rfl) ?_
          intro K hK
          refine wp_store_row 34 (.tmp 12) (.tmp 30) rfl G (pairL { x.p with win := W }).toArray (by rfl) (by rfl) 34 N0.toArray HG.out (by rw [List.size_toArray, HQL.out.1]; kernel_rfl) (by rw [List.size_toArray, List.size_toArray, HN0.out.1, HQL.out.1]) HQL.out.2 ?_
          have HE := Lib.hid (show Whole (Z.setRow G (pairL { x.p with win := W }).toArray) G 34 (pairL { x.p with win := W }).toArray ∧ Below B0 X1 (Z.setRow G (pairL { x.p with win := W }).toArray) from ⟨setRow_heap _ _ _ _ _ _ HG.out, below_setRow hS HGE.out _⟩)
          refine hK.out _ _ HE.out.2 ?_
          clear hK K
          clear hS
          have hS := HE.out.2
          try simp only [Act.put]
          refine take 12 _ rfl (by kernel_rfl) (by kernel_rfl) (by kernel_rfl) (fun _ _ _ h => h) (by rfl) hS (by intro w _; go_simp; with_reducible rfl) ?_
          try simp only [Act.put, List.setIfInBounds_toArray, List.set_cons_zero, List.set_cons_succ]
          refine take 13 _ rfl (by kernel_rfl) (by kernel_rfl) (by kernel_rfl) (fun _ _ _ h => h) (by rfl) hS (by intro w _; go_simp; with_reducible rfl) ?_
          try simp only [Act.put, List.setIfInBounds_toArray, List.set_cons_zero, List.set_cons_succ]
          refine region_end (by kernel_rfl) ?_
          go_wp2_with fail
          go_meet
          exact ⟨G, W, A', k, E, rfl, rfl, rfl, HE.out.1, HOVL.out, HOV.out _ HE.out.2, HPP.out.1, HPP.out.2.1, HPP.out.2.2⟩
      case rest =>
        obtain ⟨G, W, A', k, E, rfl, rfl, rfl, hG, hGe, hO, hW, _, _⟩ := hcut
        have HC := Lib.hid (And.intro hG (And.intro hO hW))
        clear hG hGe hO hW HOP HX1 hzp HN0
        by_cases hE : E = 0
        · subst hE
          have HQL := Lib.hid (And.intro (pairL_length { x.p with win := W }) (pair_one { x.p with win := W }))
          have HPQ := Lib.hid (show OpW w B x { x with p := { x.p with win := W } } D (wc.setCells (B + 1 + 1 + 1) 3 (pairL { x.p with win := W })) from HC.out.2.1.pair (put_p HC.out.2.1.out _))
          have hth := there_at HC.out.2.1.out 3 72 (by omega)
          have HG := Lib.hid HC.out.1
          obtain ⟨QL, hQL⟩ : ∃ L, pairL { x.p with win := W } = L := ⟨_, rfl⟩
          rw [hQL] at HQL HPQ HG
          clear hQL
          go_upto_region 9 with (first
            | (refine wpList_load_row rfl 34 (.tmp 12) rfl G rfl 34 QL.toArray (0, 0) _ HG.out rfl rfl (by rw [List.size_toArray, HQL.out.1]; kernel_rfl) ?_)
            | (refine wpList_store_mid rfl 34 (.tmp 39) (.tmp 38) rfl (B + 1 + 1 + 1) 3 QL.toArray rfl rfl (by rw [List.size_toArray, HQL.out.1]; exact hth) (by rw [List.size_toArray, HQL.out.1]; kernel_rfl) HQL.out.2 ?_))
          refine cut_world (fun V => OpW w B x { x with p := { x.p with win := W } } D V) HPQ.out ?_
          rintro V hV
          have HI := Lib.hid hV
          have HWO := Lib.hid HC.out.2.2
          clear hV HPQ hth HG HC
          have heq := eq_other (show 3 ≠ 147 by decide) HI.out.out
          have HFL := Lib.hid (And.intro (slL_length ({ x with p := { x.p with win := W } })) (sl_one ({ x with p := { x.p with win := W } })))
          have HTI := Lib.hid (tidy_any ({ x with p := { x.p with win := W } }))
          have HTL := Lib.hid (And.intro (slL_length (tidy ({ x with p := { x.p with win := W } }))) (sl_one (tidy ({ x with p := { x.p with win := W } }))))
          have HOU := Lib.hid (show ∀ V, OpW w B x ({ x with p := { x.p with win := W } }) D V → Whole V (B + 1 + 1 + 1) 36 (slL ({ x with p := { x.p with win := W } })).toArray from fun V hV => hV.out)
          unfold slV at HTI
          obtain ⟨ZL, hZL⟩ : ∃ L, slL ({ x with p := { x.p with win := W } }) = L := ⟨_, rfl⟩
          obtain ⟨TL, hTL⟩ : ∃ L, slL (tidy ({ x with p := { x.p with win := W } })) = L := ⟨_, rfl⟩
          have HTE := Lib.hid hTL
          rw [hZL] at HFL HTI HOU
          rw [hTL] at HTI HTL
          clear hZL hTL
          go_wp2_with (first
            | (refine wpList_load_row rfl 36 (.tmp 10) rfl (B + 1 + 1 + 1) rfl 36 ZL.toArray (0, 0) _ (HOU.out _ HI.out) rfl rfl (by rw [List.size_toArray, HFL.out.1]; kernel_rfl) ?_)
            | (go_at_call 16; refine (HTI.out _).mono ?_; rintro e W2 ⟨rfl, hb2⟩; have HJ := Lib.hid (HI.out.below hb2); clear hb2)
            | (refine wpList_store_row rfl 36 (.tmp 6) (.tmp 56) rfl (B + 1 + 1) TL.toArray rfl rfl 36 _ HJ.out.res (by rw [List.size_toArray, HTL.out.1]; kernel_rfl) (by rw [sl_size, List.size_toArray, HTL.out.1]) HTL.out.2 ?_))
          have HE := Lib.hid (setRow_heap _ _ _ TL.toArray _ _ HJ.out.res)
          refine bodyPost_ret (results_cell3 rfl _ _ (B + 1 + 1) 36 TL _ rfl HE.out rfl rfl (by rw [HTL.out.1]; kernel_rfl)) rfl ?_
          exact ⟨⟨tidy ({ x with p := { x.p with win := W } }), A', k, false, 0, by unfold slV; rw [HTE.out]; rfl, fun h => absurd rfl h, fun _ => ⟨W, HWO.out, .inr (.inl ⟨rfl, HFO.out, rfl⟩)⟩⟩, by rw [HB.out]; exact below_setRow HJ.out.bel (by omega) _⟩
        · have hne : (((E : Nat) : Int) != 0) = true := by simp; omega
          have HNE := Lib.hid hE
          clear hE
          have HO := Lib.hid HC.out.2.1
          go_wp2_with (first
            | (refine wpList_load_row rfl 36 (.tmp 3) rfl B rfl 36 L.toArray (0, 0) _ (HAr.out _ _ HO.out) rfl rfl (by rw [List.size_toArray, HXL.out.1]; kernel_rfl) ?_)
            | (refine wpList_store_row rfl 36 (.tmp 6) (.tmp 35) rfl (B + 1 + 1) L.toArray rfl rfl 36 _ HO.out.res (by rw [List.size_toArray, HXL.out.1]; kernel_rfl) (by rw [sl_size, List.size_toArray, HXL.out.1]) HXL.out.2 ?_))
          have HE := Lib.hid (setRow_heap _ _ _ L.toArray _ _ HO.out.res)
          refine bodyPost_ret (results_cell3 rfl _ _ (B + 1 + 1) 36 L _ rfl HE.out rfl rfl (by rw [HXL.out.1]; kernel_rfl)) rfl ?_
          exact ⟨⟨x, none, 0, false, E, by unfold slV; rw [HLE.out]; rfl, fun _ => rfl, fun h => absurd h HNE.out⟩, by rw [HB.out]; exact below_setRow HO.out.bel (by omega) _⟩
end Sl
end Go.Proofs.Ytdhjgenijieeaaa
