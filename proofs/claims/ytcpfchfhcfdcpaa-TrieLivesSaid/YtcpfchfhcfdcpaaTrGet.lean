/- Package trie: Get. -/
import Derived.Test.YtcpfchfhcfdcpaaTrFind
namespace Go.Proofs.Ytcpfchfhcfdcpaa
namespace Tri
open Go.ChangeShapes Go.WideShapes Go.ChangeAt Go.RowKit Go.Shelf
open Num Mem Words Chacha Aead Poly Quiet Ops Adr

attribute [local go_sem] Oper.semAt_some

theorem results_two {fn : Func} {p u : Tmp} {t1 t2 : TypeId} {P : Program} (h : fn.results = #[.cell p t1, .cell u t2]) (tmps : Array Value) (w : World) (g1 g2 : Nat) (v1 v2 : Value)
    (hp : tmps.getD p undef = .pointer (some ⟨g1, 0, none⟩)) (hu : tmps.getD u undef = .pointer (some ⟨g2, 0, none⟩)) (h1 : (loadVar t1 ⟨g1, 0, none⟩).run P w = .ok v1 w) (h2 : (loadVar t2 ⟨g2, 0, none⟩).run P w = .ok v2 w) :
    (results fn tmps).run P w = .ok (.tuple #[v1, v2]) w := by
  have hp' : tmps[p]?.getD undef = .pointer (some ⟨g1, 0, none⟩) := by simpa using hp
  have hu' : tmps[u]?.getD undef = .pointer (some ⟨g2, 0, none⟩) := by simpa using hu
  simp [results, h, hp', hu', asAddr, h1, h2]
theorem load_int (w : World) (g : Nat) (v : Int) (h : w.cell? ⟨g, 0, none⟩ = some (.int .i64 v)) : (loadVar 3 ⟨g, 0, none⟩).run Try.prog w = .ok (.int .i64 v) w := by
  have h1 : (isAgg 3).run Try.prog w = .ok false w := by kernel_rfl
  simp [loadVar, h1, Sem.run_bind, go_sem, h]
theorem load_bool (w : World) (g : Nat) (v : Bool) (h : w.cell? ⟨g, 0, none⟩ = some (.bool v)) : (loadVar 4 ⟨g, 0, none⟩).run Try.prog w = .ok (.bool v) w := by
  have h1 : (isAgg 4).run Try.prog w = .ok false w := by kernel_rfl
  simp [loadVar, h1, Sem.run_bind, go_sem, h]
/-- is it the prefix of a route? -/
def isP (s : Bool) (g : Nat → Nat) (z : Int) (x : Rt) : Bool := decide ((x.s = s ∧ ∀ i : Fin 16, byt x.p i.1 = g i.1) ∧ (x.p.length : Int) = z)
theorem isP_iff {s : Bool} {g : Nat → Nat} {z : Int} {x : Rt} : isP s g z x = true ↔ (x.s = s ∧ ∀ i, i < 16 → byt x.p i = g i) ∧ (x.p.length : Int) = z := by
  unfold isP
  rw [decide_eq_true_eq]
  exact ⟨fun h => ⟨⟨h.1.1, fun i hi => h.1.2 ⟨i, hi⟩⟩, h.2⟩, fun h => ⟨⟨h.1.1, fun i => h.1.2 i.1 i.2⟩, h.2⟩⟩
def getO (L : List Rt) (s : Bool) (g : Nat → Nat) (z : Int) : Int := ((L.find? (isP s g z)).map Rt.o).getD 0
def getB (L : List Rt) (s : Bool) (g : Nat → Nat) (z : Int) : Bool := (L.find? (isP s g z)).isSome
theorem get_none {L : List Rt} {s : Bool} {g : Nat → Nat} {z : Int} (h : ∀ x ∈ L, isP s g z x = false) : getO L s g z = 0 ∧ getB L s g z = false := by
  have : L.find? (isP s g z) = none := List.find?_eq_none.2 fun x hx => by rw [h x hx]; decide
  unfold getO getB
  rw [this]
  exact ⟨rfl, rfl⟩
theorem get_some {L pre : List Rt} {x : Rt} {s : Bool} {g : Nat → Nat} {z : Int} (hL : pre ++ [x] <+: L) (h : ∀ y ∈ pre, isP s g z y = false) (hx : isP s g z x = true) : getO L s g z = x.o ∧ getB L s g z = true := by
  have : L.find? (isP s g z) = some x := by
    obtain ⟨t, rfl⟩ := hL
    rw [List.append_assoc, List.find?_append, List.find?_eq_none.2 (fun y hy => by rw [h y hy]; decide)]
    simp [hx]
  unfold getO getB
  rw [this]
  exact ⟨rfl, rfl⟩
structure GeW (w : World) (PG : Array Value) (o : Int) (b : Bool) (X : World) : Prop where
  p : Whole X w.heap.size 29 PG
  num : Whole X (w.heap.size + 1) 3 #[.int .i64 o]
  yes : Whole X (w.heap.size + 2) 4 #[.bool b]
  bel : Below w.heap.size w X
theorem GeW.kc {w : World} {PG : Array Value} {o : Int} {b : Bool} {X Y : World} (h : GeW w PG o b X) (k : KC w.heap.size X Y) : GeW w PG o b Y := ⟨Whole.kc h.p k, Whole.kc h.num k, Whole.kc h.yes k, h.bel.trans k.low⟩
theorem GeW.set {w : World} {PG : Array Value} {o : Int} {b : Bool} {X : World} (h : GeW w PG o b X) (o' : Int) (b' : Bool) : GeW w PG o' b' ((X.setCell ⟨w.heap.size + 1, 0, none⟩ (.int .i64 o')).setCell ⟨w.heap.size + 1 + 1, 0, none⟩ (.bool b')) :=
  ⟨(h.p.far (p := ⟨w.heap.size + 1, 0, none⟩) (by simp) _).far (p := ⟨w.heap.size + 1 + 1, 0, none⟩) (by simp; omega) _, (h.num.put 0 _).far (p := ⟨w.heap.size + 1 + 1, 0, none⟩) (by simp) _, (h.yes.far (p := ⟨w.heap.size + 1, 0, none⟩) (by simp) _).put 0 _,
    (h.bel.setCell (p := ⟨w.heap.size + 1, 0, none⟩) (Nat.le_succ _) _).setCell (p := ⟨w.heap.size + 1 + 1, 0, none⟩) (by simp; omega) _⟩
set_option maxRecDepth 100000 in
set_option maxHeartbeats 8000000 in
theorem get_any {A : Nat → Prop} {w : World} {ta tb : Tr} {q : Option Nat} (h : IsTrie A w ta tb q) (oka : ta.Ok) (okb : tb.Ok) (s : Bool) (g : Nat → Nat) (hg : ∀ i, g i < 256) (z : Int) : Calls Try.prog 12 #[ptrV q, .agg (prefL s g z).toArray] w fun e w' => e = .returned (.tuple #[.int .i64 (getO (holdR s g ta tb) s g z), .bool (getB (holdR s g ta tb) s g z)]) ∧ Below w.heap.size w w' := by
  have HT := Lib.hid h.here
  have HALL := Lib.hid (fun X => callsIn_wide.2 (holding_any q s g X) : ∀ X, CallsIn Fence.wide (3 - 1) _ _ _ X _)
  have HTELL := Lib.hid (fun (X : World) (Bt Ba : Nat) (hc : X.cell? ⟨Bt, 0, none⟩ = some (ptrV q)) (hb : Bt < X.heap.size) (ha : Whole X Ba 27 (addrL s g).toArray) (hT : IsTrie (fun i => i < w.heap.size) X ta tb q) => holding_tells w.heap.size X Bt Ba q ta tb oka okb s g hg hc hb ha hT)
  have HAL := Lib.hid (addrL_length s g)
  have HPL := Lib.hid (prefL_length s g z)
  have HPR := Lib.hid (show ∀ X, Whole X w.heap.size 29 (prefL s g z).toArray → X.rangeAt w.heap.size 0 (addrL s g) from fun X h => pref_range h)
  have HEQ := Lib.hid (fun (x : Rt) (r : Bool) (hr : isP s g z x = r) X => eqin_pref 9996 x.s s (byt x.p) g (x.p.length : Int) z (byt_lt x.p) hg r (by rw [← hr]; exact isP_iff) X)
  obtain ⟨L, hL⟩ : ∃ L, holdR s g ta tb = L := ⟨_, rfl⟩
  obtain ⟨AL, hAL⟩ : ∃ AL, addrL s g = AL := ⟨_, rfl⟩
  obtain ⟨PG, hPG⟩ : ∃ PG, prefL s g z = PG := ⟨_, rfl⟩
  rw [hL] at HTELL ⊢
  rw [hAL] at HTELL HALL HAL HPR
  rw [hPG] at HPL HPR HEQ ⊢
  clear hL h hAL hPG
  obtain ⟨pq, hpq⟩ : ∃ pq, ptrV q = pq := ⟨_, rfl⟩
  rw [hpq] at HALL HTELL ⊢
  clear hpq
  have hzr := zero_route
  have HZS := Lib.hid (show (routeL false nought 0 0).toArray.size = 19 by rw [List.size_toArray, routeL_length])
  obtain ⟨Z, hZ⟩ : ∃ Z, (routeL false nought 0 0).toArray = Z := ⟨_, rfl⟩
  rw [hZ] at hzr HZS
  clear hZ
  refine (callsIn_wide (n := 3)).1 ?_
  have hdd : ∀ k : Nat, (Fence.wide.depth.isSome = true → 1 ≤ k) := fun k h => by cases h
  refine callsIn_of_wp_marks Try.func12 rfl trivial ?_ rfl
  simp only [Try.ntmps12, List.size_toArray, List.length_cons, List.length_nil, Nat.reduceAdd, Nat.reduceSub, Array.replicate_succ, Array.replicate_zero, List.push_toArray, List.append_toArray, List.nil_append, List.cons_append]
  gi_wp2_with (first
    | (refine listIn_value (fun _ => trivial) (by rfl) (fun c h => by cases h) _ (run_mid_in 27 (.tmp 8) rfl w.heap.size 0 rfl AL _ (HPR.out _ (((Whole.new w 29 PG.toArray).alloc _).alloc _)) rfl rfl (by rw [HAL.out]; kernel_rfl)) ?_)
    | ((try refine ⟨trivial, ?_⟩); (try refine ⟨hdd _, ?_⟩); gi_at_call 27; refine (HALL.out _).mono ?_; rintro e w' ⟨rfl, rfl⟩))
  have HW := Lib.hid (show GeW w PG.toArray 0 false (((((w.alloc (.cells PG.toArray 29)).alloc (.cells #[.int .i64 0] 3)).alloc (.cells #[.bool false] 4)).alloc (.cells #[pq] 23)).alloc (.cells AL.toArray 27)) ∧ (((((w.alloc (.cells PG.toArray 29)).alloc (.cells #[.int .i64 0] 3)).alloc (.cells #[.bool false] 4)).alloc (.cells #[pq] 23)).alloc (.cells AL.toArray 27)).cell? ⟨w.heap.size + 3, 0, none⟩ = some pq ∧ Whole (((((w.alloc (.cells PG.toArray 29)).alloc (.cells #[.int .i64 0] 3)).alloc (.cells #[.bool false] 4)).alloc (.cells #[pq] 23)).alloc (.cells AL.toArray 27)) (w.heap.size + 4) 27 AL.toArray from
    ⟨⟨((((Whole.new _ _ _).alloc _).alloc _).alloc _).alloc _, (((whole_new _ _ (by simp)).alloc _).alloc _).alloc _, ((whole_new _ _ (by simp)).alloc _).alloc _, (((((Below.refl _ w).alloc (Nat.le_refl _) _).alloc (by simp) _).alloc (by simp; omega) _).alloc (by simp; omega) _).alloc (by simp; omega) _⟩,
      by rw [(show Whole _ (w.heap.size + 3) 23 #[pq] from (whole_new _ _ (by simp)).alloc _).cell]; rfl, whole_new _ _ (by simp)⟩)
  generalize ((((w.alloc (.cells PG.toArray 29)).alloc (.cells #[.int .i64 0] 3)).alloc (.cells #[.bool false] 4)).alloc (.cells #[pq] 23)).alloc (.cells AL.toArray 27) = W at HW ⊢
  have HTL := Lib.hid (HTELL.out W (w.heap.size + 3) (w.heap.size + 4) HW.out.2.1 (by have := HW.out.2.2.lt; omega) HW.out.2.2 (HT.out.low HW.out.1.bel))
  clear HTELL HALL HT HPR
  refine range_known (gf := 41) (lb := #[.pointer (some ⟨w.heap.size + 3, 0, none⟩), .pointer (some ⟨w.heap.size + 4, 0, none⟩)]) rfl (enters_of Try.func41 (by kernel_rfl) rfl) w.heap.size HW.out.1.bel.size encRt (fun _ => rfl) L W (Below.refl _ _) (Below.refl _ _) (fun k => k = w.heap.size + 4) (fun k h => by rw [h]; exact HW.out.2.2.lt) HTL.out
    (fun pre X => GeW w PG.toArray 0 false X ∧ ∀ y ∈ pre, isP s g z y = false) (fun pre X => ∃ pre0 x, pre = pre0 ++ [x] ∧ GeW w PG.toArray x.o true X ∧ isP s g z x = true ∧ ∀ y ∈ pre0, isP s g z y = false)
    (fun pre X Y h k => ⟨h.1.kc k, h.2⟩) (fun pre X Y h k => by obtain ⟨p0, x, h1, h2, h3⟩ := h; exact ⟨p0, x, h1, h2.kc k, h3⟩) ⟨HW.out.1, fun y hy => by cases hy⟩ ?_ ?_ ?_
  · rintro l pre x X ⟨hX, hno⟩ hpre hsz
    have HX := Lib.hid hX
    have HNO := Lib.hid hno
    have HC := Lib.hid (show x.cells.length = 19 from x.len)
    have HCO := Lib.hid (show x.cells.toArray.all (·.oneCell') = true by rw [List.all_toArray, List.all_eq_true]; exact x.each)
    have HB4 := Lib.hid (Nat.lt_of_lt_of_le HW.out.2.2.lt hsz)
    have HXP := Lib.hid (show ∀ V M, Whole V M 38 x.cells.toArray → V.rangeAt M 0 (prefL x.s (byt x.p) (x.p.length : Int)) ∧ V.cell? ⟨M, 18, none⟩ = some (.int .i64 x.o) from fun V M h => ⟨fun j v hj => by rw [Nat.zero_add, h.cell, List.getElem?_toArray]; exact route_pre _ _ _ _ hj, by rw [h.cell, List.getElem?_toArray]; exact x.own⟩)
    have HXL := Lib.hid (prefL_length x.s (byt x.p) (x.p.length : Int))
    have HXE := Lib.hid (fun r hr => HEQ.out x r hr)
    obtain ⟨PX, hPX⟩ : ∃ PX, prefL x.s (byt x.p) (x.p.length : Int) = PX := ⟨_, rfl⟩
    rw [hPX] at HXP HXL HXE
    clear hX hno hpre HTL hsz hPX
    rw [show encRt x = #[.agg x.cells.toArray] from rfl, zip1]
    simp only [List.setIfInBounds_toArray, List.set_cons_zero, List.set_cons_succ]
    obtain ⟨C, hC⟩ : ∃ C, x.cells = C := ⟨_, rfl⟩
    rw [hC] at HC HCO HXP ⊢
    clear hC
    gi_wp2_with (refine listIn_store (fun _ => trivial) rfl 38 (.tmp 6) (.tmp 11) rfl X.heap.size C.toArray rfl rfl (Whole.new _ _ _) (by rw [List.size_toArray, HC.out]; kernel_rfl) (by rw [HZS.out, List.size_toArray, HC.out]) HCO.out ?_)
    refine ⟨keeps_of_below (below_var _ _ _ _), (below_var _ _ _ _).mono HX.out.bel.size, sm_below (fun k h => by rw [h]; exact HB4.out) (below_var _ _ _ _), ?_⟩
    intro Y hk
    have HY := Lib.hid (show GeW w PG.toArray 0 false Y ∧ Whole Y X.heap.size 38 C.toArray from ⟨(HX.out.kc (KC.of_below HX.out.bel.size (below_var _ _ _ _))).kc hk, Whole.kc (setRow_heap _ _ _ _ _ _ (Whole.new _ _ _)) hk⟩)
    have HM := Lib.hid (show w.heap.size + 4 < X.heap.size from HB4.out)
    clear hk HX HB4
    generalize X.heap.size = M at HY HM ⊢
    clear X
    obtain ⟨r, hr⟩ : ∃ r, isP s g z x = r := ⟨_, rfl⟩
    have HE := Lib.hid (HXE.out r hr)
    have HR := Lib.hid hr
    clear hr HXE HEQ
    have co := (HXP.out _ _ HY.out.2).2
    have c4 : Y.cell? ⟨w.heap.size + 1, 0, none⟩ = some (.int .i64 0) := by rw [HY.out.1.num.cell]; rfl
    have f4 := HY.out.1.num.free 0
    have c5 : (Y.setCell ⟨w.heap.size + 1, 0, none⟩ (.int .i64 x.o)).cell? ⟨w.heap.size + 1 + 1, 0, none⟩ = some (.bool false) := by rw [(HY.out.1.yes.far (p := ⟨w.heap.size + 1, 0, none⟩) (by simp) _).cell]; rfl
    have f5 := (HY.out.1.yes.far (p := ⟨w.heap.size + 1, 0, none⟩) (by simp) (.int .i64 x.o)).free 0
    cases r with
    | true =>
      gi_wp2_with (first
        | (refine listIn_value (fun _ => trivial) (by rfl) (fun c h => by cases h) _ (run_mid_in 29 (.tmp 12) rfl M 0 rfl PX _ (HXP.out _ _ HY.out.2).1 rfl rfl (by rw [HXL.out]; kernel_rfl)) ?_)
        | (refine listIn_value (fun _ => trivial) (by rfl) (fun c h => by cases h) _ (run_load_in 29 (.tmp 3) rfl w.heap.size rfl PG.toArray 18 (by rw [List.size_toArray, HPL.out]) HY.out.1.p rfl rfl (by kernel_rfl)) ?_)
        | (refine listIn_value (fun _ => trivial) (by rfl) (fun c h => by cases h) (.bool true) (Ops.run_eql_op 29 (.tmp 13) (.tmp 14) 29 rfl PX.toArray PG.toArray rfl rfl true (by kernel_rfl) HE.out _) ?_))
      exact ⟨(keeps_set _ _ _).trans (keeps_set _ _ _), pre, x, rfl, HY.out.1.set _ _, HR.out, HNO.out⟩
    | false =>
      gi_wp2_with (first
        | (refine listIn_value (fun _ => trivial) (by rfl) (fun c h => by cases h) _ (run_mid_in 29 (.tmp 12) rfl M 0 rfl PX _ (HXP.out _ _ HY.out.2).1 rfl rfl (by rw [HXL.out]; kernel_rfl)) ?_)
        | (refine listIn_value (fun _ => trivial) (by rfl) (fun c h => by cases h) _ (run_load_in 29 (.tmp 3) rfl w.heap.size rfl PG.toArray 18 (by rw [List.size_toArray, HPL.out]) HY.out.1.p rfl rfl (by kernel_rfl)) ?_)
        | (refine listIn_value (fun _ => trivial) (by rfl) (fun c h => by cases h) (.bool false) (Ops.run_eql_op 29 (.tmp 13) (.tmp 14) 29 rfl PX.toArray PG.toArray rfl rfl false (by kernel_rfl) HE.out _) ?_))
      refine ⟨KeepsFrom.refl _ _, Below.refl _ _, fun _ _ => rfl, HY.out.1, fun y hy => ?_⟩
      rcases List.mem_append.1 hy with hy | hy
      · exact HNO.out y hy
      · rw [List.mem_singleton.1 hy]; exact HR.out
  · rintro X ⟨hX, hno⟩ hd hsz
    have HX := Lib.hid hX
    have HD := Lib.hid hd
    have HG := Lib.hid (get_none hno)
    have c4 : X.cell? ⟨w.heap.size + 1, 0, none⟩ = some (.int .i64 0) := by rw [HX.out.num.cell]; rfl
    have f4 := HX.out.num.free 0
    have c5 : (X.setCell ⟨w.heap.size + 1, 0, none⟩ (.int .i64 0)).cell? ⟨w.heap.size + 1 + 1, 0, none⟩ = some (.bool false) := by rw [(HX.out.yes.far (p := ⟨w.heap.size + 1, 0, none⟩) (by simp) _).cell]; rfl
    have f5 := (HX.out.yes.far (p := ⟨w.heap.size + 1, 0, none⟩) (by simp) (.int .i64 0)).free 0
    clear hX hd hno
    gi_wp2_with fail
    have HS := Lib.hid (show GeW w PG.toArray 0 false ((X.setCell ⟨w.heap.size + 1, 0, none⟩ (.int .i64 0)).setCell ⟨w.heap.size + 1 + 1, 0, none⟩ (.bool false)) from HX.out.set 0 false)
    have hd : ((X.setCell ⟨w.heap.size + 1, 0, none⟩ (.int .i64 0)).setCell ⟨w.heap.size + 1 + 1, 0, none⟩ (.bool false)).heap[W.heap.size]? = some (.deferred (some [])) := (Below.heap_setCell _ ⟨w.heap.size + 1 + 1, 0, none⟩ _ _ (by have := HW.out.2.2.lt; simp; omega)).trans ((Below.heap_setCell _ ⟨w.heap.size + 1, 0, none⟩ _ _ (by have := HW.out.2.2.lt; simp; omega)).trans HD.out)
    generalize (X.setCell ⟨w.heap.size + 1, 0, none⟩ (.int .i64 0)).setCell ⟨w.heap.size + 1 + 1, 0, none⟩ (.bool false) = Y at HS hd ⊢
    refine ⟨by simp, .inl ⟨_, _, rfl, run_takeDeferred hd, ?_⟩⟩
    have hk := KC.put (n₀ := w.heap.size) (.deferred none) hd rfl HW.out.1.bel.size
    have HF := HS.out.kc hk
    exact ⟨_, results_two rfl _ _ (w.heap.size + 1) (w.heap.size + 2) _ _ rfl rfl (load_int _ _ _ (by rw [HF.num.cell]; rfl)) (load_bool _ _ _ (by rw [HF.yes.cell]; rfl)), by rw [HG.out.1, HG.out.2], HF.bel⟩
  · rintro pre X hpre ⟨pre0, x, rfl, hX, hx, hno⟩ hd hsz
    have HG := Lib.hid (get_some hpre hno hx)
    have HX := Lib.hid hX
    have HD := Lib.hid hd
    clear hpre hX hx hno hd
    gi_wp2_with fail
    refine ⟨by simp, .inl ⟨_, _, rfl, run_takeDeferred HD.out, ?_⟩⟩
    have hk := KC.put (n₀ := w.heap.size) (.deferred none) HD.out rfl HW.out.1.bel.size
    have HF := HX.out.kc hk
    exact ⟨_, results_two rfl _ _ (w.heap.size + 1) (w.heap.size + 2) _ _ rfl rfl (load_int _ _ _ (by rw [HF.num.cell]; rfl)) (load_bool _ _ _ (by rw [HF.yes.cell]; rfl)), by rw [HG.out.1, HG.out.2], HF.bel⟩
end Tri
end Go.Proofs.Ytcpfchfhcfdcpaa
