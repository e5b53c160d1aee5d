/- The document's own feed: push of one event. -/
import Derived.Test.YtlbfjdpcnnplnaaRfPut
namespace Go.Proofs.Ytlbfjdpcnnplnaa
namespace Fee
open Go.ChangeShapes Go.WideShapes Go.ChangeAt Go.RowKit Go.Maps
open Num Mem Words Chacha Aead Poly Quiet RowV RowS

theorem item_ev25 (e : Ev) : Try.prog.built 81 [(0, .agg (evL e).toArray)] = some (itL ⟨e, 0⟩).toArray := by kernel_rfl
theorem item_gap25 (n : Nat) : Try.prog.built 81 [(1, .int .u64 (n : Nat))] = some (itL ⟨noEv, n⟩).toArray := by kernel_rfl
theorem row_one25 (x : It) : Try.prog.builtSlice 81 1 [(0, .agg (itL x).toArray)] = some (flatI [x]).toArray := by kernel_rfl
theorem row_two25 (x y : It) : Try.prog.builtSlice 81 2 [(0, .agg (itL x).toArray), (1, .agg (itL y).toArray)] = some (flatI [x, y]).toArray := by kernel_rfl
theorem wpList_rowTwo {P : Program} {ops : Array Oper} {rest : List Oper} {o : Oper} {a : Act} {w : World} {Q : Exit → Act → World → Prop} (hg : o.guard = none) (t e : TypeId) (x y : Operand) (ho : o.op = .buildSlice t 2 #[(0, x), (1, y)])
    (v u : Value) (hx : a.eval x = v) (hy : a.eval y = u) (hu : P.underlying t = some (.slice e)) (cells : Array Value) (hb : P.builtSlice e 2 [(0, v), (1, u)] = some cells)
    (h : wpList P ops Q rest (a.put o.dst (.slice (some ⟨w.heap.size, 0, none⟩) 2 2)) (w.alloc (.cells cells e))) : wpList P ops Q (o :: rest) a w :=
  wpList_plain hg fun _ hK => wp_rowTwo t e x y ho v u hx hy hu cells hb (hK _ _ h)
/-- where push stands: the row, the event, the answer's row -/
structure P3 (w : World) (B N : Nat) (r : RR) (V : Array Value) (E : Array Value) (X : World) : Prop where
  row : Whole X N 58 V
  ev : Whole X (N + 1) 78 E
  res : Whole X (N + 1 + 1) 58 #[.int .u64 0, .slice none 0 0, .int .u64 0]
  own : OwI X B r.A r.c r.x.L
  bel : Below w.heap.size w X
/-- behind the change -/
structure P4 (w : World) (B N : Nat) (r r' : RR) (V : Array Value) (X : World) : Prop where
  row : Whole X N 58 V
  res : Whole X (N + 1 + 1) 58 #[.int .u64 0, .slice none 0 0, .int .u64 0]
  own : OwI X B r'.A r'.c r'.x.L
  gr : w.grownBy X (ownA r.A)
  at_ : ownA r'.A = ownA r.A ∨ ∃ j, ownA r'.A = some j ∧ w.heap.size ≤ j
theorem P4.set {w X : World} {B N : Nat} {r r' : RR} {V : Array Value} (h : P4 w B N r r' V X) (hN : w.heap.size ≤ N) (i : Nat) (u : Value) : P4 w B N r r' (V.setIfInBounds i u) (X.setCell ⟨N, i, none⟩ u) :=
  ⟨h.row.put i u, h.res.far (by show N + 1 + 1 ≠ N; omega) u, own_keep2 h.own fun j cs _ hw => hw.far (fun e => absurd (whole_type (e ▸ hw) h.row) (by decide)) u, ⟨h.gr.os, h.gr.tape, h.gr.output, by simp; exact h.gr.size, fun k hk hr => (Below.heap_setCell X ⟨N, i, none⟩ u k (by show k ≠ N; omega)).trans (h.gr.block k hk hr)⟩, h.at_⟩
/-- behind an append -/
theorem P3.app {w X Y : World} {B N : Nat} {r : RR} {V E : Array Value} (h : P3 w B N r V E X) {id : Nat} {A' : Option Addr} {c' : Nat} {M : List It} {x' : Wt} (hx : x'.L = r.x.L ++ M) {us : List Value}
    (hown : Y.ownsRow B 81 35 (.slice A' x'.L.length c') x'.L.length (flatI r.x.L ++ flatI M)) (hg : (X.alloc (.cells us.toArray 81)).grownBy Y (ownA r.A)) (hat : ownA A' = ownA r.A ∨ ownA A' = some (X.alloc (.cells us.toArray 81)).heap.size) : P4 w B N r ⟨id, A', c', x'⟩ V Y := by
  have hk : ∀ j cs t, Whole X j t cs → t ≠ 81 → Whole Y j t cs := fun j cs t hw ht => by
    have h0 := hw.alloc (.cells us.toArray 81)
    refine (hg.block j h0.lt fun e => ?_).trans h0
    obtain ⟨ds, hd⟩ := own_type h.own (j := j) (by rw [own_b]; exact e.symm)
    exact ht (whole_type hw hd)
  refine ⟨hk _ _ _ h.row (by decide), hk _ _ _ h.res (by decide), ?_, ⟨hg.os.trans h.bel.os, hg.tape.trans h.bel.tape, hg.output.trans h.bel.output, Nat.le_trans h.bel.size (Nat.le_trans (by simp) hg.size), fun k hk2 hr => ?_⟩, ?_⟩
  · show Y.ownsRow B _ 35 (.slice A' x'.L.length c') x'.L.length (flatI x'.L)
    have e : flatI x'.L = flatI r.x.L ++ flatI M := by rw [hx, flatI_append]
    rw [e]
    exact hown
  · have hkx : k < X.heap.size := Nat.lt_of_lt_of_le hk2 h.bel.size
    exact ((hg.block k (by simp; omega) hr).trans (Below.heap_alloc X _ k hkx)).trans (h.bel.block k hk2)
  · rcases hat with e | e
    · exact .inl e
    · exact .inr ⟨_, e, Nat.le_trans h.bel.size (by simp)⟩
theorem grown_fresh {a b : World} {row : Option Nat} (h : a.grownBy b row) {g : Nat} (hg : a.heap.size ≤ g) (cs : Array Value) : a.grownBy (b.setRow g cs) row := by
  refine ⟨h.os, h.tape, h.output, by simp [World.setRow]; exact h.size, fun k hk hr => ?_⟩
  rw [setRow_other _ _ _ _ (by omega)]
  exact h.block k hk hr
theorem grown_freshC {a b : World} {row : Option Nat} (h : a.grownBy b row) {g : Nat} (hg : a.heap.size ≤ g) (i : Nat) (u : Value) : a.grownBy (b.setCell ⟨g, i, none⟩ u) row :=
  ⟨h.os, h.tape, h.output, by simp; exact h.size, fun k hk hr => (Below.heap_setCell b ⟨g, i, none⟩ u k (by show k ≠ g; omega)).trans (h.block k hk hr)⟩
theorem P3.same {w X : World} {B N : Nat} {r : RR} {V E : Array Value} (h : P3 w B N r V E X) {id c : Nat} {A : Option Addr} (hA : r.A = A) (hc : r.c = c) {x' : Wt} (hx : x'.L = r.x.L) : P4 w B N r ⟨id, A, c, x'⟩ V X := by
  subst hA hc
  refine ⟨h.row, h.res, ?_, ⟨h.bel.os, h.bel.tape, h.bel.output, h.bel.size, fun k hk _ => h.bel.block k hk⟩, .inl rfl⟩
  have := h.own
  unfold OwI at this ⊢
  dsimp only
  rw [hx]
  exact this
set_option maxRecDepth 100000 in
set_option maxHeartbeats 600000 in
theorem rpush1_any (r : RR) (e : Ev) (w : World) (B : Nat) (h : OwI w B r.A r.c r.x.L) (hB : B ≤ w.heap.size) (hf : r.x.L.length ≤ 16) (hl : r.x.lost ≤ 1000000000) :
    Calls Try.prog 30 #[.agg (rrL r).toArray, .agg (evL e).toArray] w fun o w' => ∃ r' : RR, o = .returned (.agg (rrL r').toArray) ∧ r'.id = r.id ∧ r'.x = pushW r.x e ∧ OwI w' B r'.A r'.c r'.x.L ∧ w.grownBy w' (ownA r.A) ∧ (ownA r'.A = ownA r.A ∨ ∃ j, ownA r'.A = some j ∧ w.heap.size ≤ j) := by
  have H := Lib.hid h
  obtain ⟨n, hn⟩ : ∃ n, r.x.L.length = n := ⟨_, rfl⟩
  obtain ⟨l, hll⟩ : ∃ l, r.x.lost = l := ⟨_, rfl⟩
  obtain ⟨A, hA⟩ : ∃ A, r.A = A := ⟨_, rfl⟩
  obtain ⟨c, hc⟩ : ∃ c, r.c = c := ⟨_, rfl⟩
  obtain ⟨id, hid⟩ : ∃ id, r.id = id := ⟨_, rfl⟩
  have hV : (rrL r).toArray = #[.int .u64 (id : Nat), .slice A n c, .int .u64 (l : Nat)] := by unfold rrL RR.v; rw [hn, hll, hA, hc, hid]
  rw [hV]
  rw [hn] at hf
  rw [hll] at hl
  have HN := Lib.hid (show r.x.L.length = n ∧ r.x.lost = l ∧ r.A = A ∧ r.c = c ∧ r.id = id from ⟨hn, hll, hA, hc, hid⟩)
  have HES := Lib.hid (show (evL e).toArray.size = 34 by rw [List.size_toArray, evL_length])
  have HBE := Lib.hid (item_ev25 e)
  have HBG := Lib.hid (item_gap25 l)
  have HR1 := Lib.hid (row_one25 ⟨e, 0⟩)
  have HR2 := Lib.hid (row_two25 ⟨noEv, l⟩ ⟨e, 0⟩)
  obtain ⟨E, hE⟩ : ∃ E, (evL e).toArray = E := ⟨_, rfl⟩
  obtain ⟨I, hI⟩ : ∃ I, (itL ⟨e, 0⟩).toArray = I := ⟨_, rfl⟩
  obtain ⟨J, hJ⟩ : ∃ J, (itL ⟨noEv, l⟩).toArray = J := ⟨_, rfl⟩
  rw [hE] at HES HBE ⊢
  rw [hI] at HBE HR1 HR2
  rw [hJ] at HBG HR2
  clear h hn hll hA hc hid hV hE hI hJ
  go_enter Try.func30, Try.ntmps30
  go_upto_region 2 with fail
  refine cut_world (fun X => P3 w B w.heap.size r #[.int .u64 (id : Nat), .slice A n c, .int .u64 (l : Nat)] E X) ⟨Whole.alloc (Whole.alloc (Whole.new _ _ _) _) _, Whole.alloc (whole_new _ _ (by simp)) _, whole_new _ _ (by simp), own_keep2 H.out (fun j cs _ hw => ((hw.alloc _).alloc _).alloc _), below_alloc (below_alloc (below_alloc (Below.refl _ _) _) _) _⟩ ?_
  have e1 : (w.alloc (.cells #[.int .u64 (id : Nat), .slice A n c, .int .u64 (l : Nat)] 58)).heap.size = w.heap.size + 1 := by simp
  have e2 : ((w.alloc (.cells #[.int .u64 (id : Nat), .slice A n c, .int .u64 (l : Nat)] 58)).alloc (.cells E 78)).heap.size = w.heap.size + 2 := by simp
  try rw [e2]
  try rw [e1]
  clear e1 e2
  intro X hX
  have HX := Lib.hid hX
  clear hX H
  obtain ⟨N, hNN⟩ : ∃ N, w.heap.size = N := ⟨_, rfl⟩
  have HNN := Lib.hid hNN
  rw [hNN] at HX ⊢
  clear hNN
  have c1 : X.cell? ⟨N, 1, none⟩ = some (.slice A n c) := HX.out.row.cell 1
  have c2 : X.cell? ⟨N, 2, none⟩ = some (.int .u64 (l : Nat)) := HX.out.row.cell 2
  have f1 : X.frozen? ⟨N, 1, none⟩ = false := HX.out.row.free 1
  have f2 : X.frozen? ⟨N, 2, none⟩ = false := HX.out.row.free 2
  have hBX : B ≤ X.heap.size := Nat.le_trans hB HX.out.bel.size
  have HOWN := Lib.hid (show X.ownsRow B 81 35 (.slice A n c) n (flatI r.x.L) from by have := HX.out.own; unfold OwI at this; rw [HN.out.1, HN.out.2.2.1, HN.out.2.2.2.1] at this; exact this)
  have HEV := Lib.hid HX.out.ev
  have HNN2 := Lib.hid (show w.heap.size ≤ N by rw [HNN.out]; exact Nat.le_refl _)
  by_cases h1 : 0 < l ∧ n ≤ 14
  · obtain ⟨h1, h14⟩ := h1
    have hd1 : (0 : Int) < (l : Int) := by omega
    have hd2 : (n : Int) ≤ 14 := by omega
    have HPW := Lib.hid (show pushW r.x e = ⟨r.x.L ++ [⟨noEv, l⟩, ⟨e, 0⟩], 0⟩ from by
      unfold pushW gapL
      rw [HN.out.1, HN.out.2.1, if_pos h1, if_neg (by simp; omega)]
      rfl)
    go_upto_region 3 with fail
    apply wp_region_lit
    refine Ops.wpList_value_if (by rfl) _ (by go_simp; try with_reducible rfl) ?_
    try simp only [Act.put, List.setIfInBounds_toArray, List.set_cons_zero, List.set_cons_succ]
    refine Ops.wpList_value_if (by rfl) _ (by go_simp; try with_reducible rfl) ?_
    try simp only [Act.put, List.setIfInBounds_toArray, List.set_cons_zero, List.set_cons_succ]
    refine Ops.wpList_value_if (by rfl) _ (by go_simp; try with_reducible rfl) ?_
    try simp only [Act.put, List.setIfInBounds_toArray, List.set_cons_zero, List.set_cons_succ]
    refine Ops.wpList_value_if (by rfl) _ (by go_simp; try with_reducible rfl) ?_
    try simp only [Act.put, List.setIfInBounds_toArray, List.set_cons_zero, List.set_cons_succ]
    refine wpList_built1 rfl 81 1 (.tmp 25) rfl (.int .u64 (l : Nat)) rfl J HBG.out ?_
    try simp only [Act.put, List.setIfInBounds_toArray, List.set_cons_zero, List.set_cons_succ]
    refine wpList_load_row rfl 78 (.tmp 3) rfl (N + 1) rfl 78 E (0, 0) _ HEV.out rfl rfl (by rw [HES.out]; kernel_rfl) ?_
    try simp only [Act.put, List.setIfInBounds_toArray, List.set_cons_zero, List.set_cons_succ]
    refine wpList_built1 rfl 81 0 (.tmp 27) rfl (.agg E) rfl I HBE.out ?_
    try simp only [Act.put, List.setIfInBounds_toArray, List.set_cons_zero, List.set_cons_succ]
    refine wpList_rowTwo rfl 49 81 (.tmp 26) (.tmp 28) rfl (.agg J) (.agg I) rfl rfl Try.underlying49 _ HR2.out ?_
    try simp only [Act.put, List.setIfInBounds_toArray, List.set_cons_zero, List.set_cons_succ]
    refine wpList_catG rfl (flatI [⟨noEv, l⟩, ⟨e, 0⟩]) 35 2 (.tmp 23) (.tmp 29) 49 81 _ 56 Try.underlying49 info_ritem rfl (by decide) rfl rfl ⟨X.heap.size, 0, none⟩ 2 rfl (World.ownsRow.alloc HOWN.out _) (Nat.le_trans hBX (by simp)) (flatI_length _) (news_new X _ _) (flatI_each _) (by omega) (by omega) ?_
    intro A' c' Y hown hgr hat
    have hP4 : P4 w B N r ⟨id, A', c', ⟨r.x.L ++ [⟨noEv, l⟩, ⟨e, 0⟩], 0⟩⟩ #[.int .u64 (id : Nat), .slice A n c, .int .u64 (l : Nat)] Y := HX.out.app (M := [⟨noEv, l⟩, ⟨e, 0⟩]) rfl (by rw [List.length_append, HN.out.1]; exact hown) (by rw [HN.out.2.2.1]; exact hgr) (by rw [HN.out.2.2.1]; exact hat)
    have c1 := hP4.row.cell 1
    have f1 := hP4.row.free 1
    have c2 := hP4.row.cell 2
    have f2 := hP4.row.free 2
    have HP4 := Lib.hid hP4
    clear hown hgr hat hP4
    try simp only [Act.put, List.setIfInBounds_toArray, List.set_cons_zero, List.set_cons_succ]
    go_upto_region 4 with fail
    go_upto_region 7 with fail
    refine cut_world (fun Y => P4 w B N r ⟨id, A', c', ⟨r.x.L ++ [⟨noEv, l⟩, ⟨e, 0⟩], 0⟩⟩ #[.int .u64 (id : Nat), .slice A' (n + 2) c', .int .u64 (0 : Nat)] Y) ((HP4.out.set HNN2.out 1 (.slice A' (n + 2) c')).set HNN2.out 2 (.int .u64 0)) ?_
    clear c1 f1 c2 f2 HP4 HX HOWN HEV
    rintro Z hZ
    have HZ := Lib.hid hZ
    have HRW := Lib.hid hZ.row
    have HRS := Lib.hid hZ.res
    have hNw : w.heap.size ≤ N := by rw [HNN.out]; exact Nat.le_refl _
    clear hZ
    apply wp_region_lit
    refine wpList_load_row rfl 58 (.tmp 2) rfl N rfl 58 #[.int .u64 (id : Nat), .slice A' (n + 2) c', .int .u64 (0 : Nat)] (0, 0) _ HRW.out rfl rfl (by kernel_rfl) ?_
    try simp only [Act.put, List.setIfInBounds_toArray, List.set_cons_zero, List.set_cons_succ]
    refine wpList_store_row rfl 58 (.tmp 4) (.tmp 47) rfl (N + 1 + 1) #[.int .u64 (id : Nat), .slice A' (n + 2) c', .int .u64 (0 : Nat)] rfl rfl 58 _ HRS.out (by kernel_rfl) (by rfl) (by simp [Value.oneCell']) ?_
    try simp only [Act.put]
    go_wp2_with fail
    have hret : Whole (Z.setRow (N + 1 + 1) #[.int .u64 (id : Nat), .slice A' (n + 2) c', .int .u64 (0 : Nat)]) (N + 1 + 1) 58 #[.int .u64 (id : Nat), .slice A' (n + 2) c', .int .u64 (0 : Nat)] := setRow_heap _ _ _ _ _ _ HRS.out
    refine bodyPost_ret (results_cell_row rfl _ _ (N + 1 + 1) 58 _ (0, 0) _ rfl hret rfl rfl (by kernel_rfl)) rfl ?_
    refine ⟨⟨id, A', c', ⟨r.x.L ++ [⟨noEv, l⟩, ⟨e, 0⟩], 0⟩⟩, (by unfold rrL RR.v; rw [List.length_append, HN.out.1]; rfl), HN.out.2.2.2.2.symm, HPW.out.symm, ?_, grown_fresh HZ.out.gr (by omega) _, HZ.out.at_⟩
    exact own_keep2 HZ.out.own fun j cs _ hw => (setRow_other _ _ _ _ (fun e => by subst e; exact absurd (whole_type hw HRS.out) (by decide))).trans hw
  · by_cases h2 : 0 < l
    · have hd1 : (0 : Int) < (l : Int) := by omega
      have hd2 : ¬ (n : Int) ≤ 14 := by omega
      have hd3 : ¬ n ≤ 14 := by omega
      obtain ⟨k, hk⟩ : ∃ k, l + 1 = k := ⟨_, rfl⟩
      have HPW := Lib.hid (show pushW r.x e = ⟨r.x.L, k⟩ from by
        rw [← hk]
        unfold pushW gapL
        rw [HN.out.1, HN.out.2.1, if_pos h2, if_pos (by simp; omega)])
      have hw1 : IntKind.u64.wrap ((l : Int) + 1) = (k : Int) := by rw [IntKind.wrap_u64]; omega
      have HP4 := Lib.hid (HX.out.same (id := id) (x' := ⟨r.x.L, k⟩) HN.out.2.2.1 HN.out.2.2.2.1 rfl)
      clear h1 hk
      go_upto_region 7 with fail
      refine cut_world (fun Y => P4 w B N r ⟨id, A, c, ⟨r.x.L, k⟩⟩ #[.int .u64 (id : Nat), .slice A n c, .int .u64 (k : Nat)] Y) (HP4.out.set HNN2.out 2 (.int .u64 (k : Nat))) ?_
      clear c1 f1 c2 f2 HP4 HX HOWN HEV
      rintro Z hZ
      have HZ := Lib.hid hZ
      have HRW := Lib.hid hZ.row
      have HRS := Lib.hid hZ.res
      have hNw : w.heap.size ≤ N := by rw [HNN.out]; exact Nat.le_refl _
      clear hZ
      apply wp_region_lit
      refine wpList_load_row rfl 58 (.tmp 2) rfl N rfl 58 #[.int .u64 (id : Nat), .slice A n c, .int .u64 (k : Nat)] (0, 0) _ HRW.out rfl rfl (by kernel_rfl) ?_
      try simp only [Act.put, List.setIfInBounds_toArray, List.set_cons_zero, List.set_cons_succ]
      refine wpList_store_row rfl 58 (.tmp 4) (.tmp 47) rfl (N + 1 + 1) #[.int .u64 (id : Nat), .slice A n c, .int .u64 (k : Nat)] rfl rfl 58 _ HRS.out (by kernel_rfl) (by rfl) (by simp [Value.oneCell']) ?_
      try simp only [Act.put]
      go_wp2_with fail
      have hret : Whole (Z.setRow (N + 1 + 1) #[.int .u64 (id : Nat), .slice A n c, .int .u64 (k : Nat)]) (N + 1 + 1) 58 #[.int .u64 (id : Nat), .slice A n c, .int .u64 (k : Nat)] := setRow_heap _ _ _ _ _ _ HRS.out
      refine bodyPost_ret (results_cell_row rfl _ _ (N + 1 + 1) 58 _ (0, 0) _ rfl hret rfl rfl (by kernel_rfl)) rfl ?_
      refine ⟨⟨id, A, c, ⟨r.x.L, k⟩⟩, (by unfold rrL RR.v; rw [HN.out.1]), HN.out.2.2.2.2.symm, HPW.out.symm, ?_, grown_fresh HZ.out.gr (by omega) _, HZ.out.at_⟩
      exact own_keep2 HZ.out.own fun j cs _ hw => (setRow_other _ _ _ _ (fun e => by subst e; exact absurd (whole_type hw HRS.out) (by decide))).trans hw
    · obtain rfl : l = 0 := by omega
      by_cases h3 : 16 ≤ n
      · have hd2 : (16 : Int) ≤ (n : Int) := by omega
        have HPW := Lib.hid (show pushW r.x e = ⟨r.x.L, 0 + 1⟩ from by
          have hg0 : gapL r.x.lost = [] := by rw [HN.out.2.1]; rfl
          unfold pushW
          rw [hg0, HN.out.1, HN.out.2.1, if_pos (by simp; omega)])
        have HP4 := Lib.hid (HX.out.same (id := id) (x' := ⟨r.x.L, 0 + 1⟩) HN.out.2.2.1 HN.out.2.2.2.1 rfl)
        clear h1 h2
        go_upto_region 7 with fail
        refine cut_world (fun Y => P4 w B N r ⟨id, A, c, ⟨r.x.L, 0 + 1⟩⟩ #[.int .u64 (id : Nat), .slice A n c, .int .u64 ((0 + 1) : Nat)] Y) (HP4.out.set HNN2.out 2 (.int .u64 1)) ?_
        clear c1 f1 c2 f2 HP4 HX HOWN HEV
        rintro Z hZ
        have HZ := Lib.hid hZ
        have HRW := Lib.hid hZ.row
        have HRS := Lib.hid hZ.res
        have hNw : w.heap.size ≤ N := by rw [HNN.out]; exact Nat.le_refl _
        clear hZ
        apply wp_region_lit
        refine wpList_load_row rfl 58 (.tmp 2) rfl N rfl 58 #[.int .u64 (id : Nat), .slice A n c, .int .u64 ((0 + 1) : Nat)] (0, 0) _ HRW.out rfl rfl (by kernel_rfl) ?_
        try simp only [Act.put, List.setIfInBounds_toArray, List.set_cons_zero, List.set_cons_succ]
        refine wpList_store_row rfl 58 (.tmp 4) (.tmp 47) rfl (N + 1 + 1) #[.int .u64 (id : Nat), .slice A n c, .int .u64 ((0 + 1) : Nat)] rfl rfl 58 _ HRS.out (by kernel_rfl) (by rfl) (by simp [Value.oneCell']) ?_
        try simp only [Act.put]
        go_wp2_with fail
        have hret : Whole (Z.setRow (N + 1 + 1) #[.int .u64 (id : Nat), .slice A n c, .int .u64 ((0 + 1) : Nat)]) (N + 1 + 1) 58 #[.int .u64 (id : Nat), .slice A n c, .int .u64 ((0 + 1) : Nat)] := setRow_heap _ _ _ _ _ _ HRS.out
        refine bodyPost_ret (results_cell_row rfl _ _ (N + 1 + 1) 58 _ (0, 0) _ rfl hret rfl rfl (by kernel_rfl)) rfl ?_
        refine ⟨⟨id, A, c, ⟨r.x.L, 0 + 1⟩⟩, (by unfold rrL RR.v; rw [HN.out.1]), HN.out.2.2.2.2.symm, HPW.out.symm, ?_, grown_fresh HZ.out.gr (by omega) _, HZ.out.at_⟩
        exact own_keep2 HZ.out.own fun j cs _ hw => (setRow_other _ _ _ _ (fun e => by subst e; exact absurd (whole_type hw HRS.out) (by decide))).trans hw
      · have hd2 : ¬ (16 : Int) ≤ (n : Int) := by omega
        have HPW := Lib.hid (show pushW r.x e = ⟨r.x.L ++ [⟨e, 0⟩], 0⟩ from by
          have hg0 : gapL r.x.lost = [] := by rw [HN.out.2.1]; rfl
          unfold pushW
          rw [hg0, HN.out.1, if_neg (by simp; omega)]
          rfl)
        clear h1 h2
        go_upto_region 1 with fail
        apply wp_region_lit
        refine Ops.wpList_value_if (by rfl) _ (by go_simp; try with_reducible rfl) ?_
        try simp only [Act.put, List.setIfInBounds_toArray, List.set_cons_zero, List.set_cons_succ]
        refine Ops.wpList_value_if (by rfl) _ (by go_simp; try with_reducible rfl) ?_
        try simp only [Act.put, List.setIfInBounds_toArray, List.set_cons_zero, List.set_cons_succ]
        refine wpList_load_row rfl 78 (.tmp 3) rfl (N + 1) rfl 78 E (0, 0) _ HEV.out rfl rfl (by rw [HES.out]; kernel_rfl) ?_
        try simp only [Act.put, List.setIfInBounds_toArray, List.set_cons_zero, List.set_cons_succ]
        refine wpList_built1 rfl 81 0 (.tmp 7) rfl (.agg E) rfl I HBE.out ?_
        try simp only [Act.put, List.setIfInBounds_toArray, List.set_cons_zero, List.set_cons_succ]
        refine wpList_rowOne rfl 49 81 (.tmp 8) rfl (.agg I) rfl Try.underlying49 _ HR1.out ?_
        try simp only [Act.put, List.setIfInBounds_toArray, List.set_cons_zero, List.set_cons_succ]
        refine wpList_catG rfl (flatI [⟨e, 0⟩]) 35 1 (.tmp 6) (.tmp 9) 49 81 _ 56 Try.underlying49 info_ritem rfl (by decide) rfl rfl ⟨X.heap.size, 0, none⟩ 1 rfl (World.ownsRow.alloc HOWN.out _) (Nat.le_trans hBX (by simp)) (flatI_length _) (news_new X _ _) (flatI_each _) (by omega) (by omega) ?_
        intro A' c' Y hown hgr hat
        have hP4 : P4 w B N r ⟨id, A', c', ⟨r.x.L ++ [⟨e, 0⟩], 0⟩⟩ #[.int .u64 (id : Nat), .slice A n c, .int .u64 (0 : Nat)] Y := HX.out.app (M := [⟨e, 0⟩]) rfl (by rw [List.length_append, HN.out.1]; exact hown) (by rw [HN.out.2.2.1]; exact hgr) (by rw [HN.out.2.2.1]; exact hat)
        have c1 := hP4.row.cell 1
        have f1 := hP4.row.free 1
        have HP4 := Lib.hid hP4
        clear hown hgr hat hP4
        try simp only [Act.put, List.setIfInBounds_toArray, List.set_cons_zero, List.set_cons_succ]
        go_upto_region 7 with fail
        refine cut_world (fun Y => P4 w B N r ⟨id, A', c', ⟨r.x.L ++ [⟨e, 0⟩], 0⟩⟩ #[.int .u64 (id : Nat), .slice A' (n + 1) c', .int .u64 (0 : Nat)] Y) (HP4.out.set HNN2.out 1 (.slice A' (n + 1) c')) ?_
        clear c1 f1 HP4 HX HOWN HEV
        rintro Z hZ
        have HZ := Lib.hid hZ
        have HRW := Lib.hid hZ.row
        have HRS := Lib.hid hZ.res
        have hNw : w.heap.size ≤ N := by rw [HNN.out]; exact Nat.le_refl _
        clear hZ
        apply wp_region_lit
        refine wpList_load_row rfl 58 (.tmp 2) rfl N rfl 58 #[.int .u64 (id : Nat), .slice A' (n + 1) c', .int .u64 (0 : Nat)] (0, 0) _ HRW.out rfl rfl (by kernel_rfl) ?_
        try simp only [Act.put, List.setIfInBounds_toArray, List.set_cons_zero, List.set_cons_succ]
        refine wpList_store_row rfl 58 (.tmp 4) (.tmp 47) rfl (N + 1 + 1) #[.int .u64 (id : Nat), .slice A' (n + 1) c', .int .u64 (0 : Nat)] rfl rfl 58 _ HRS.out (by kernel_rfl) (by rfl) (by simp [Value.oneCell']) ?_
        try simp only [Act.put]
        go_wp2_with fail
        have hret : Whole (Z.setRow (N + 1 + 1) #[.int .u64 (id : Nat), .slice A' (n + 1) c', .int .u64 (0 : Nat)]) (N + 1 + 1) 58 #[.int .u64 (id : Nat), .slice A' (n + 1) c', .int .u64 (0 : Nat)] := setRow_heap _ _ _ _ _ _ HRS.out
        refine bodyPost_ret (results_cell_row rfl _ _ (N + 1 + 1) 58 _ (0, 0) _ rfl hret rfl rfl (by kernel_rfl)) rfl ?_
        refine ⟨⟨id, A', c', ⟨r.x.L ++ [⟨e, 0⟩], 0⟩⟩, (by unfold rrL RR.v; rw [List.length_append, HN.out.1]; rfl), HN.out.2.2.2.2.symm, HPW.out.symm, ?_, grown_fresh HZ.out.gr (by omega) _, HZ.out.at_⟩
        exact own_keep2 HZ.out.own fun j cs _ hw => (setRow_other _ _ _ _ (fun e => by subst e; exact absurd (whole_type hw HRS.out) (by decide))).trans hw
end Fee
end Go.Proofs.Ytlbfjdpcnnplnaa
