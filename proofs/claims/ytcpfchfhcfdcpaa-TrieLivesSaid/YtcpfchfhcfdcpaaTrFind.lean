/- Package trie: Find. -/
import Derived.Test.YtcpfchfhcfdcpaaTrCount
namespace Go.Proofs.Ytcpfchfhcfdcpaa
namespace Tri
open Go.ChangeShapes Go.WideShapes Go.ChangeAt Go.RowKit Go.Shelf
open Num Mem Words Chacha Aead Poly Quiet Ops Adr

attribute [local go_sem] Oper.semAt_some

def noRt : Rt := ⟨false, [], 0⟩
theorem noRt_cells : noRt.cells = routeL false nought 0 0 := by
  unfold Rt.cells noRt routeL
  rw [show prefL false (byt []) ((([] : Bs).length : Nat) : Int) = prefL false nought 0 from pref_congr fun i _ => byt_far (by simp)]
theorem zero_route : ∀ w : World, (zeroValue 38).run Try.prog w = .ok (.agg (routeL false nought 0 0).toArray) w := fun w => by kernel_rfl
/-- the last of the routes -/
def lastR (L : List Rt) : Rt := L.getLastD noRt
theorem lastR_snoc (L : List Rt) (x : Rt) : lastR (L ++ [x]) = x := by unfold lastR; simp
theorem Rt.own (x : Rt) : x.cells[18]? = some (.int .i64 x.o) := route_own _ _ _ _
/-- what a call leaves that holds two boxes of a route -/
structure FiW (w : World) (c r : Array Value) (X : World) : Prop where
  res : Whole X (w.heap.size + 1) 38 r
  cur : Whole X (w.heap.size + 2) 38 c
  bel : Below w.heap.size w X
theorem FiW.kc {w : World} {c r : Array Value} {X Y : World} (h : FiW w c r X) (k : KC w.heap.size X Y) : FiW w c r Y := ⟨Whole.kc h.res k, Whole.kc h.cur k, h.bel.trans k.low⟩
theorem FiW.set {w : World} {c r d : Array Value} {X : World} (h : FiW w c r X) : FiW w d r (X.setRow (w.heap.size + 2) d) :=
  ⟨Whole.farRow h.res (by omega) _, setRow_heap _ _ _ _ _ _ h.cur, below_setRow h.bel (by omega) _⟩
set_option maxRecDepth 100000 in
set_option maxHeartbeats 8000000 in
theorem find_any {A : Nat → Prop} {w : World} {ta tb : Tr} {q : Option Nat} (h : IsTrie A w ta tb q) (oka : ta.Ok) (okb : tb.Ok) (s : Bool) (f : Nat → Nat) (hf : ∀ i, f i < 256) : Calls Try.prog 10 #[ptrV q, .agg (addrL s f).toArray] w fun e w' => e = .returned (.tuple #[.agg (lastR (holdR s f ta tb)).cells.toArray, .bool (decide ((lastR (holdR s f ta tb)).o ≠ 0))]) ∧ Below w.heap.size w w' := by
  have HT := Lib.hid h.here
  have HALL := Lib.hid (fun X => callsIn_wide.2 (holding_any q s f X) : ∀ X, CallsIn Fence.wide (3 - 1) _ _ _ X _)
  have HTELL := Lib.hid (fun (X : World) (Bt Ba : Nat) (hc : X.cell? ⟨Bt, 0, none⟩ = some (ptrV q)) (hb : Bt < X.heap.size) (ha : Whole X Ba 27 (addrL s f).toArray) (hT : IsTrie (fun i => i < w.heap.size) X ta tb q) => holding_tells w.heap.size X Bt Ba q ta tb oka okb s f hf hc hb ha hT)
  have HAL := Lib.hid (addrL_length s f)
  obtain ⟨L, hL⟩ : ∃ L, holdR s f ta tb = L := ⟨_, rfl⟩
  obtain ⟨AL, hAL⟩ : ∃ AL, addrL s f = AL := ⟨_, rfl⟩
  rw [hL] at HTELL ⊢
  rw [hAL] at HTELL HALL HAL ⊢
  clear hL h hAL
  obtain ⟨pq, hpq⟩ : ∃ pq, ptrV q = pq := ⟨_, rfl⟩
  rw [hpq] at HALL HTELL ⊢
  clear hpq
  have hzr := zero_route
  have HNR := Lib.hid noRt_cells
  have HZS := Lib.hid (show (routeL false nought 0 0).toArray.size = 19 by rw [List.size_toArray, routeL_length])
  obtain ⟨Z, hZ⟩ : ∃ Z, (routeL false nought 0 0).toArray = Z := ⟨_, rfl⟩
  have HZE := Lib.hid hZ
  rw [hZ] at hzr HZS
  clear hZ
  refine (callsIn_wide (n := 3)).1 ?_
  have hdd : ∀ k : Nat, (Fence.wide.depth.isSome = true → 1 ≤ k) := fun k h => by cases h
  refine callsIn_of_wp_marks Try.func10 rfl trivial ?_ rfl
  simp only [Try.ntmps10, List.size_toArray, List.length_cons, List.length_nil, Nat.reduceAdd, Nat.reduceSub, Array.replicate_succ, Array.replicate_zero, List.push_toArray, List.append_toArray, List.nil_append, List.cons_append]
  gi_wp2_with (first
    | (refine listIn_value (fun _ => trivial) (by rfl) (fun c h => by cases h) _ (run_load_in 27 (.tmp 3) rfl w.heap.size rfl AL.toArray 17 (by rw [List.size_toArray, HAL.out]) (((Whole.new w 27 AL.toArray).alloc _).alloc _) rfl rfl (by kernel_rfl)) ?_)
    | ((try refine ⟨trivial, ?_⟩); (try refine ⟨hdd _, ?_⟩); gi_at_call 27; refine (HALL.out _).mono ?_; rintro e w' ⟨rfl, rfl⟩))
  have HW := Lib.hid (show FiW w Z Z (((((w.alloc (.cells AL.toArray 27)).alloc (.cells Z 38)).alloc (.cells Z 38)).alloc (.cells #[pq] 23)).alloc (.cells AL.toArray 27)) ∧ (((((w.alloc (.cells AL.toArray 27)).alloc (.cells Z 38)).alloc (.cells Z 38)).alloc (.cells #[pq] 23)).alloc (.cells AL.toArray 27)).cell? ⟨w.heap.size + 3, 0, none⟩ = some pq ∧ Whole (((((w.alloc (.cells AL.toArray 27)).alloc (.cells Z 38)).alloc (.cells Z 38)).alloc (.cells #[pq] 23)).alloc (.cells AL.toArray 27)) (w.heap.size + 4) 27 AL.toArray from
    ⟨⟨(((whole_new _ _ (by simp)).alloc _).alloc _).alloc _, ((whole_new _ _ (by simp)).alloc _).alloc _, (((((Below.refl _ w).alloc (Nat.le_refl _) _).alloc (by simp) _).alloc (by simp; omega) _).alloc (by simp; omega) _).alloc (by simp; omega) _⟩,
      by rw [(show Whole _ (w.heap.size + 3) 23 #[pq] from (whole_new _ _ (by simp)).alloc _).cell]; rfl, whole_new _ _ (by simp)⟩)
  generalize ((((w.alloc (.cells AL.toArray 27)).alloc (.cells Z 38)).alloc (.cells Z 38)).alloc (.cells #[pq] 23)).alloc (.cells AL.toArray 27) = W at HW ⊢
  have HTL := Lib.hid (HTELL.out W (w.heap.size + 3) (w.heap.size + 4) HW.out.2.1 (by have := HW.out.2.2.lt; omega) HW.out.2.2 (HT.out.low HW.out.1.bel))
  clear HTELL HALL HT
  refine range_known (gf := 41) (lb := #[.pointer (some ⟨w.heap.size + 3, 0, none⟩), .pointer (some ⟨w.heap.size + 4, 0, none⟩)]) rfl (enters_of Try.func41 (by kernel_rfl) rfl) w.heap.size HW.out.1.bel.size encRt (fun _ => rfl) L W (Below.refl _ _) (Below.refl _ _) (fun k => k = w.heap.size + 4) (fun k h => by rw [h]; exact HW.out.2.2.lt) HTL.out
    (fun pre X => FiW w (lastR pre).cells.toArray Z X) (fun _ _ => False) (fun pre X Y h k => h.kc k) (fun _ _ _ h _ => h) ?_ ?_ ?_ ?_
  · have : (lastR []).cells.toArray = Z := by rw [← HZE.out, ← HNR.out]; rfl
    rw [this]
    exact HW.out.1
  · rintro l pre x X hX hpre hsz
    have HX := Lib.hid hX
    have HC := Lib.hid (show x.cells.length = 19 from x.len)
    have HCO := Lib.hid (show x.cells.toArray.all (·.oneCell') = true by rw [List.all_toArray, List.all_eq_true]; exact x.each)
    have HB4 := Lib.hid (Nat.lt_of_lt_of_le HW.out.2.2.lt hsz)
    have HLS := Lib.hid (lastR_snoc pre x)
    have HL9 := Lib.hid (show (lastR pre).cells.toArray.size = 19 by rw [List.size_toArray]; exact Rt.len _)
    clear hX hpre HW HTL hsz
    rw [show encRt x = #[.agg x.cells.toArray] from rfl, zip1]
    simp only [List.setIfInBounds_toArray, List.set_cons_zero, List.set_cons_succ]
    obtain ⟨C, hC⟩ : ∃ C, x.cells = C := ⟨_, rfl⟩
    have HCE := Lib.hid hC
    rw [hC] at HC HCO ⊢
    clear hC
    gi_wp2_with (refine listIn_store (fun _ => trivial) rfl 38 (.tmp 7) (.tmp 11) rfl X.heap.size C.toArray rfl rfl (Whole.new _ _ _) (by rw [List.size_toArray, HC.out]; kernel_rfl) (by rw [HZS.out, List.size_toArray, HC.out]) HCO.out ?_)
    refine ⟨keeps_of_below (below_var _ _ _ _), (below_var _ _ _ _).mono HX.out.bel.size, sm_below (fun k h => by rw [h]; exact HB4.out) (below_var _ _ _ _), ?_⟩
    intro Y hk
    have HY := Lib.hid (show FiW w (lastR pre).cells.toArray Z Y ∧ Whole Y X.heap.size 38 C.toArray from ⟨(HX.out.kc (KC.of_below HX.out.bel.size (below_var _ _ _ _))).kc hk, Whole.kc (setRow_heap _ _ _ _ _ _ (Whole.new _ _ _)) hk⟩)
    have HM := Lib.hid (show w.heap.size + 4 < X.heap.size from HB4.out)
    clear hk HX HB4
    generalize X.heap.size = M at HY HM ⊢
    clear X
    gi_wp2_with (first
      | (refine listIn_value (fun _ => trivial) (by rfl) (fun c h => by cases h) _ (run_load_in 38 (.tmp 7) rfl M rfl C.toArray 19 (by rw [List.size_toArray, HC.out]) HY.out.2 rfl rfl (by kernel_rfl)) ?_)
      | (refine listIn_store (fun _ => trivial) rfl 38 (.tmp 6) (.tmp 12) rfl (w.heap.size + 2) C.toArray rfl rfl HY.out.1.cur (by rw [List.size_toArray, HC.out]; kernel_rfl) (by rw [HL9.out, List.size_toArray, HC.out]) HCO.out ?_))
    refine ⟨keeps_row HY.out.1.cur _, below_setRow (Below.refl _ _) (by omega) _, sm_row _ (fun k h => by omega) _, ?_⟩
    show FiW w (lastR (pre ++ [x])).cells.toArray Z _
    rw [HLS.out, HCE.out]
    exact HY.out.1.set
  · rintro X hX hd hsz
    have HX := Lib.hid hX
    have HD := Lib.hid hd
    clear hX hd
    obtain ⟨C, hC⟩ : ∃ C, lastR L = C := ⟨_, rfl⟩
    have HCL := Lib.hid hC
    rw [hC] at HX
    have c1 : X.cell? ⟨w.heap.size + 1 + 1, 18, none⟩ = some (.int .i64 C.o) := by rw [show w.heap.size + 1 + 1 = w.heap.size + 2 from rfl, HX.out.cur.cell, List.getElem?_toArray]; exact C.own
    clear hC
    gi_wp2_with fail
    have HCZ := Lib.hid (C.len)
    have HCO := Lib.hid (show C.cells.toArray.all (·.oneCell') = true by rw [List.all_toArray, List.all_eq_true]; exact C.each)
    have HOWN := Lib.hid (show ∀ V, Whole V (w.heap.size + 2) 38 C.cells.toArray → V.cell? ⟨w.heap.size + 1 + 1, 18, none⟩ = some (.int .i64 C.o) from fun V h => by rw [show w.heap.size + 1 + 1 = w.heap.size + 2 from rfl, h.cell, List.getElem?_toArray]; exact C.own)
    obtain ⟨CL, hCLL⟩ : ∃ CL, C.cells = CL := ⟨_, rfl⟩
    rw [hCLL] at HX HCZ HCO HOWN
    have HCLE := Lib.hid hCLL
    clear hCLL c1
    refine wpIn_norm (wpIn_wide.2 ?_)
    refine region_drew (fun V => Whole V (w.heap.size + 2) 38 CL.toArray ∧ ∃ r, Whole V (w.heap.size + 1) 38 r) (by kernel_rfl) ⟨HX.out.cur, _, HX.out.res⟩ (fun hS => ?_)
    refine take 0 (.agg CL.toArray) rfl (by kernel_rfl) (by kernel_rfl) (by kernel_rfl) (fun _ _ _ h => h) (by rfl) hS (fun w0 hw => run_load_in 38 (.tmp 6) rfl (w.heap.size + 2) rfl CL.toArray 19 (by rw [List.size_toArray, HCZ.out]) hw.1 rfl rfl (by kernel_rfl)) ?_
    try simp only [Act.put, List.setIfInBounds_toArray, List.set_cons_zero, List.set_cons_succ]
    refine take 1 _ rfl (by kernel_rfl) (by kernel_rfl) (by kernel_rfl) (fun _ _ _ h => h) (by rfl) hS (by intro w _; go_simp; with_reducible rfl) ?_
    try simp only [Act.put, List.setIfInBounds_toArray, List.set_cons_zero, List.set_cons_succ]
    refine take 2 _ rfl (by kernel_rfl) (by kernel_rfl) (by kernel_rfl) (fun _ _ _ h => h) (by rfl) hS (by intro w hw; have hcl := HOWN.out _ hw.1; go_simp; with_reducible rfl) ?_
    try simp only [Act.put, List.setIfInBounds_toArray, List.set_cons_zero, List.set_cons_succ]
    refine take 3 _ rfl (by kernel_rfl) (by kernel_rfl) (by kernel_rfl) (fun _ _ _ h => h) (by rfl) hS (by intro w _; go_simp; with_reducible rfl) ?_
    try simp only [Act.put, List.setIfInBounds_toArray, List.set_cons_zero, List.set_cons_succ]
    clear hS
    refine alone 4 rfl (by kernel_rfl) (by rfl) ?_
    intro K hK
    refine wp_store_row 38 (.tmp 4) (.tmp 13) rfl (w.heap.size + 1) CL.toArray (by rfl) (by rfl) 38 Z HX.out.res (by rw [List.size_toArray, HCZ.out]; kernel_rfl) (by rw [HZS.out, List.size_toArray, HCZ.out]) HCO.out ?_
    have HS2 := Lib.hid (show Whole (X.drew.setRow (w.heap.size + 1) CL.toArray) (w.heap.size + 2) 38 CL.toArray ∧ Whole (X.drew.setRow (w.heap.size + 1) CL.toArray) (w.heap.size + 1) 38 CL.toArray ∧ Below w.heap.size w (X.drew.setRow (w.heap.size + 1) CL.toArray) ∧ (X.drew.setRow (w.heap.size + 1) CL.toArray).heap[W.heap.size]? = some (.deferred (some [])) from
      ⟨Whole.farRow HX.out.cur (by omega) _, setRow_heap _ _ _ _ _ _ HX.out.res, below_setRow (HX.out.bel.drew) (by omega) _, (setRow_other _ _ _ _ (by have := HW.out.2.2.lt; omega)).trans HD.out⟩)
    refine hK.out _ _ ⟨HS2.out.1, _, HS2.out.2.1⟩ ?_
    clear hK K
    generalize X.drew.setRow (w.heap.size + 1) CL.toArray = Y at HS2 ⊢
    try simp only [Act.put]
    have hS : Whole Y (w.heap.size + 2) 38 CL.toArray ∧ ∃ r, Whole Y (w.heap.size + 1) 38 r := ⟨HS2.out.1, _, HS2.out.2.1⟩
    refine take 5 _ rfl (by kernel_rfl) (by kernel_rfl) (by kernel_rfl) (fun _ _ _ h => h) (by rfl) hS (by intro w _; go_simp; with_reducible rfl) ?_
    try simp only [Act.put, List.setIfInBounds_toArray, List.set_cons_zero, List.set_cons_succ]
    refine region_end (by kernel_rfl) ?_
    clear hS
    simp only [NoEx]
    gi_wp2_with fail
    refine ⟨by simp, .inl ⟨_, _, rfl, run_takeDeferred HS2.out.2.2.2, ?_⟩⟩
    have HR := Lib.hid (show Whole (Y.putObj W.heap.size (.deferred none)) (w.heap.size + 1) 38 CL.toArray from (World.putObj_heap_other (by have := HW.out.2.2.lt; omega)).trans HS2.out.2.1)
    refine ⟨_, Poly.results_cell_tmp rfl _ _ (w.heap.size + 1) 38 CL _ rfl HR.out rfl rfl (by rw [HCZ.out]; kernel_rfl), ?_, HS2.out.2.2.1.trans (KC.put _ HS2.out.2.2.2 rfl HW.out.1.bel.size).low⟩
    rw [HCL.out, HCLE.out]
    by_cases hc : C.o = 0 <;> simp [hc]
  · intro _ _ _ h
    exact h.elim
end Tri
end Go.Proofs.Ytcpfchfhcfdcpaa
