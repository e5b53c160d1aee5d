/- Package trie: DropAll. -/
import Derived.Test.YtcpfchfhcfdcpaaTrRem
namespace Go.Proofs.Ytcpfchfhcfdcpaa
namespace Tri
open Go.ChangeShapes Go.WideShapes Go.ChangeAt Go.RowKit Go.Shelf
open Num Mem Words Chacha Aead Poly Quiet Ops Adr

attribute [local go_sem] Oper.semAt_some

/-- without the routes of an owner, one by one -/
def dels (o : Int) (s : Bool) (pre : List Rt) (t : Tr) : Tr := pre.foldl (fun t x => if x.s = s ∧ x.o = o then t.del x.p else t) t
theorem dels_snoc (o : Int) (s : Bool) (pre : List Rt) (x : Rt) (t : Tr) : dels o s (pre ++ [x]) t = if x.s = s ∧ x.o = o then (dels o s pre t).del x.p else dels o s pre t := by unfold dels; rw [List.foldl_append]; rfl
theorem dels_ok {o : Int} {s : Bool} : ∀ {pre : List Rt} {t : Tr}, t.Ok → (dels o s pre t).Ok
  | [], _, h => h
  | x :: pre, t, h => by
    show (dels o s pre (if x.s = s ∧ x.o = o then t.del x.p else t)).Ok
    refine dels_ok ?_
    split
    · exact del_ok h
    · exact h
theorem mem_dels {o : Int} {s : Bool} : ∀ {pre : List Rt} {t : Tr}, t.Ok → ∀ y, y ∈ (dels o s pre t).toL ↔ y ∈ t.toL ∧ ∀ x ∈ pre, x.s = s → x.o = o → y.1 ≠ x.p
  | [], t, _, y => ⟨fun h => ⟨h, fun x hx => by cases hx⟩, fun h => h.1⟩
  | x :: pre, t, h, y => by
    show y ∈ (dels o s pre (if x.s = s ∧ x.o = o then t.del x.p else t)).toL ↔ _
    by_cases hc : x.s = s ∧ x.o = o
    · rw [if_pos hc, mem_dels (del_ok h), mem_del h]
      constructor
      · rintro ⟨⟨h1, h2⟩, h3⟩
        refine ⟨h2, fun z hz hs ho => ?_⟩
        rcases List.mem_cons.1 hz with rfl | hz
        · exact h1
        · exact h3 z hz hs ho
      · rintro ⟨h1, h2⟩
        exact ⟨⟨h2 x List.mem_cons_self hc.1 hc.2, h1⟩, fun z hz hs ho => h2 z (List.mem_cons_of_mem _ hz) hs ho⟩
    · rw [if_neg hc, mem_dels h]
      constructor
      · rintro ⟨h1, h2⟩
        refine ⟨h1, fun z hz hs ho => ?_⟩
        rcases List.mem_cons.1 hz with rfl | hz
        · exact absurd ⟨hs, ho⟩ hc
        · exact h2 z hz hs ho
      · rintro ⟨h1, h2⟩
        exact ⟨h1, fun z hz hs ho => h2 z (List.mem_cons_of_mem _ hz) hs ho⟩
theorem mem_routes {s : Bool} {t : Tr} {x : Rt} : x ∈ t.routes s ↔ x.s = s ∧ (x.p, x.o) ∈ t.toL := by
  unfold Tr.routes
  rw [List.mem_map]
  constructor
  · rintro ⟨y, hy, rfl⟩; exact ⟨rfl, hy⟩
  · rintro ⟨h, hy⟩; exact ⟨_, hy, by cases x; simp at h ⊢; exact h.symm⟩
theorem mem_routes2 {ta tb : Tr} {x : Rt} : x ∈ routes2 ta tb ↔ (x.p, x.o) ∈ (pickT x.s ta tb).toL := by
  unfold routes2
  rw [List.mem_append, mem_routes, mem_routes]
  cases hs : x.s <;> simp [pickT]
theorem routes_apart {ta tb : Tr} (oka : ta.Ok) (okb : tb.Ok) : (routes2 ta tb).Pairwise (fun x y => x.s = y.s → x.p ≠ y.p) := by
  have k : ∀ (s : Bool) {t : Tr}, t.Ok → (t.routes s).Pairwise (fun x y => x.s = y.s → x.p ≠ y.p) := fun s t ht => by
    unfold Tr.routes
    rw [List.pairwise_map]
    exact (toL_sorted ht).imp fun {a b} h => fun _ => lt_ne h
  refine List.pairwise_append.2 ⟨k _ oka, k _ okb, fun x hx y hy hs => ?_⟩
  rw [(mem_routes.1 hx).1, (mem_routes.1 hy).1] at hs
  cases hs
/-- the next one is there still -/
theorem there_next {ta tb : Tr} (oka : ta.Ok) (okb : tb.Ok) {pre : List Rt} {x : Rt} (h : pre ++ [x] <+: routes2 ta tb) (o : Int) : (x.p, x.o) ∈ (pickT x.s (dels o false pre ta) (dels o true pre tb)).toL := by
  have hp := (routes_apart oka okb).sublist h.sublist
  have hx : x ∈ routes2 ta tb := h.sublist.subset (List.mem_append_right _ List.mem_cons_self)
  have hap : ∀ z ∈ pre, z.s = x.s → z.p ≠ x.p := fun z hz => (List.pairwise_append.1 hp).2.2 z hz x List.mem_cons_self
  have hm := mem_routes2.1 hx
  have e : pickT x.s (dels o false pre ta) (dels o true pre tb) = dels o x.s pre (pickT x.s ta tb) := by cases x.s <;> rfl
  rw [e, mem_dels (ok_pick oka okb)]
  exact ⟨hm, fun z hz hs _ => (hap z hz hs).symm⟩
/-- what a trie's nodes hold may be -/
theorem isT_right {A : Nat → Prop} {w : World} {s : Bool} : ∀ {t : Tr} {q : Option Nat}, IsT A w s t q → ∀ y ∈ t.toL, (y.1.length : Int) ≤ digitsI s ∧ okI y.2 ∧ y.2 ≠ 0
  | .nil, _, _, y, hy => by cases hy
  | .node p o a b, q, h, y, hy => by
    obtain ⟨r, f, k0, k1, _, _, _, hr, _, ho, _, ha, hb⟩ := h
    rcases mem_node.1 hy with ⟨h0, rfl⟩ | hy | hy
    · exact ⟨(right_parts hr).2.2.1, ho, h0⟩
    · exact isT_right ha y hy
    · exact isT_right hb y hy
theorem routes_right {A : Nat → Prop} {w : World} {ta tb : Tr} {q : Option Nat} (h : IsTrie A w ta tb q) {x : Rt} (hx : x ∈ routes2 ta tb) : (x.p.length : Int) ≤ digitsI x.s ∧ okI x.o ∧ x.o ≠ 0 := by
  have hm := mem_routes2.1 hx
  cases q with
  | none => obtain ⟨rfl, rfl⟩ := h; cases hs : x.s <;> rw [hs] at hm <;> cases hm
  | some b =>
    obtain ⟨k0, k1, _, _, h0, h1⟩ := h
    cases hs : x.s <;> rw [hs] at hm
    · exact isT_right h0 _ hm
    · exact isT_right h1 _ hm
structure DaW (w : World) (o : Int) (ta tb : Tr) (pre : List Rt) (X : World) : Prop where
  own : Whole X w.heap.size 3 #[.int .i64 o]
  out : Whole X (w.heap.size + 2) 23 #[.pointer (some ⟨w.heap.size + 1, 0, none⟩)]
  trie : ∃ k0 k1, Whole X (w.heap.size + 1) 81 #[ptrV k0, ptrV k1] ∧ T0 X false (dels o false pre ta) k0 ∧ T0 X true (dels o true pre tb) k1
  bel : Below w.heap.size w X
theorem T0.kc {n₀ : Nat} {X Y : World} {s : Bool} {t : Tr} {q : Option Nat} (h : T0 X s t q) (k : KC n₀ X Y) : T0 Y s t q := h.keep fun _ _ _ hw => ⟨trivial, Whole.kc hw k⟩
theorem DaW.kc {w : World} {o : Int} {ta tb : Tr} {pre : List Rt} {X Y : World} (h : DaW w o ta tb pre X) (k : KC w.heap.size X Y) : DaW w o ta tb pre Y := by
  obtain ⟨k0, k1, h1, h2, h3⟩ := h.trie
  exact ⟨Whole.kc h.own k, Whole.kc h.out k, ⟨k0, k1, Whole.kc h1 k, h2.kc k, h3.kc k⟩, h.bel.trans k.low⟩
theorem trie_set (k0 k1 k : Option Nat) (s : Bool) : (#[ptrV k0, ptrV k1] : Array Value).setIfInBounds (if s then 1 else 0) (ptrV k) = #[ptrV (if s then k0 else k), ptrV (if s then k else k1)] := by cases s <;> rfl
/-- a round that takes one out -/
theorem DaW.take {w : World} {o : Int} {ta tb : Tr} {pre : List Rt} {Y X : World} {x : Rt} {k : Option Nat} (h : DaW w o ta tb pre Y) (hx : x.o = o) (hb : Below Y.heap.size Y X)
    (hk : T0 X x.s ((pickT x.s (dels o false pre ta) (dels o true pre tb)).del x.p) k) : DaW w o ta tb (pre ++ [x]) (X.setCell ⟨w.heap.size + 1, if x.s then 1 else 0, none⟩ (ptrV k)) := by
  obtain ⟨k0, k1, h1, h2, h3⟩ := h.trie
  have h1' := h1.below hb h1.lt
  refine ⟨(h.own.below hb h.own.lt).far (p := ⟨w.heap.size + 1, _, none⟩) (by simp) _, (h.out.below hb h.out.lt).far (p := ⟨w.heap.size + 1, _, none⟩) (by simp) _, ⟨if x.s then k0 else k, if x.s then k else k1, ?_, ?_, ?_⟩, (h.bel.trans (hb.mono h.bel.size)).setCell (p := ⟨w.heap.size + 1, _, none⟩) (Nat.le_succ _) _⟩
  · have := h1'.put (if x.s then 1 else 0) (ptrV k)
    rw [trie_set] at this
    exact this
  · rw [dels_snoc]
    refine T0.setTrie ?_ h1' _ _
    cases hs : x.s with
    | true => rw [if_neg (by simp), if_pos rfl]; exact T0.below h2 hb
    | false => rw [if_pos ⟨rfl, hx⟩, if_neg (by simp)]; rw [hs] at hk; exact hk
  · rw [dels_snoc]
    refine T0.setTrie ?_ h1' _ _
    cases hs : x.s with
    | true => rw [if_pos ⟨rfl, hx⟩, if_pos rfl]; rw [hs] at hk; exact hk
    | false => rw [if_neg (by simp), if_neg (by simp)]; exact T0.below h3 hb
theorem DaW.pass {w : World} {o : Int} {ta tb : Tr} {pre : List Rt} {Y : World} {x : Rt} (h : DaW w o ta tb pre Y) (hx : x.o ≠ o) : DaW w o ta tb (pre ++ [x]) Y := by
  obtain ⟨k0, k1, h1, h2, h3⟩ := h.trie
  refine ⟨h.own, h.out, ⟨k0, k1, h1, ?_, ?_⟩, h.bel⟩
  · rw [dels_snoc, if_neg (fun c => hx c.2)]; exact h2
  · rw [dels_snoc, if_neg (fun c => hx c.2)]; exact h3
set_option maxRecDepth 100000 in
set_option maxHeartbeats 8000000 in
theorem dropAll_any {A : Nat → Prop} {w : World} {ta tb : Tr} {q : Option Nat} (h : IsTrie A w ta tb q) (oka : ta.Ok) (okb : tb.Ok) (o : Int) : Calls Try.prog 23 #[ptrV q, .int .i64 o] w fun e w' => ∃ r, e = .returned (.pointer (some ⟨r, 0, none⟩)) ∧ IsTrie (fun _ => True) w' (dels o false (routes2 ta tb) ta) (dels o true (routes2 ta tb) tb) (some r) ∧ Below w.heap.size w w' := by
  have HT := Lib.hid h.here
  have HCOP := Lib.hid (fun (X : World) (hX : Below w.heap.size w X) => callsIn_wide.2 (copied_any (h.here.low hX)) : ∀ X, Below w.heap.size w X → CallsIn Fence.wide (3 - 1) _ _ _ X _)
  have HALL := Lib.hid (fun X => callsIn_wide.2 (all_any q X) : ∀ X, CallsIn Fence.wide (3 - 1) _ _ _ X _)
  have HTELL := Lib.hid (fun (X : World) (Bt : Nat) (hc : X.cell? ⟨Bt, 0, none⟩ = some (ptrV q)) (hb : Bt < X.heap.size) (hT : IsTrie (fun i => i < w.heap.size) X ta tb q) => all_tells w.heap.size X Bt q ta tb hc hb hT)
  have HRR := Lib.hid (fun (x : Rt) (hx : x ∈ routes2 ta tb) => routes_right h hx)
  have HTH := Lib.hid (fun (pre : List Rt) (x : Rt) (hx : pre ++ [x] <+: routes2 ta tb) => there_next oka okb hx o)
  obtain ⟨L, hL⟩ : ∃ L, routes2 ta tb = L := ⟨_, rfl⟩
  rw [hL] at HTELL HRR HTH ⊢
  clear hL h
  obtain ⟨pq, hpq⟩ : ∃ pq, ptrV q = pq := ⟨_, rfl⟩
  rw [hpq] at HALL HTELL HCOP ⊢
  clear hpq
  have hzr := zero_route
  have HZS := Lib.hid (show (routeL false nought 0 0).toArray.size = 19 by rw [List.size_toArray, routeL_length])
  obtain ⟨Z, hZ⟩ : ∃ Z, (routeL false nought 0 0).toArray = Z := ⟨_, rfl⟩
  rw [hZ] at hzr HZS
  clear hZ
  refine (callsIn_wide (n := 3)).1 ?_
  have hdd : ∀ k : Nat, (Fence.wide.depth.isSome = true → 1 ≤ k) := fun k h => by cases h
  refine callsIn_of_wp_marks Try.func23 rfl trivial ?_ rfl
  simp only [Try.ntmps23, List.size_toArray, List.length_cons, List.length_nil, Nat.reduceAdd, Nat.reduceSub, Array.replicate_succ, Array.replicate_zero, List.push_toArray, List.append_toArray, List.nil_append, List.cons_append]
  gi_wp2_with (first
    | ((try refine ⟨trivial, ?_⟩); (try refine ⟨hdd _, ?_⟩); gi_at_call 35; refine (HCOP.out _ (below_alloc (Below.refl _ _) _)).mono ?_; rintro e w' ⟨k0, k1, rfl, rfl, hk0, hk1⟩)
    | ((try refine ⟨trivial, ?_⟩); (try refine ⟨hdd _, ?_⟩); gi_at_call 30; refine (HALL.out _).mono ?_; rintro e w' ⟨rfl, rfl⟩))
  have HW := Lib.hid (show DaW w o ta tb [] ((((w.alloc (.cells #[.int .i64 o] 3)).alloc (.cells #[ptrV k0, ptrV k1] 81)).alloc (.cells #[.pointer (some ⟨w.heap.size + 1, 0, none⟩)] 23)).alloc (.cells #[pq] 23)) ∧ ((((w.alloc (.cells #[.int .i64 o] 3)).alloc (.cells #[ptrV k0, ptrV k1] 81)).alloc (.cells #[.pointer (some ⟨w.heap.size + 1, 0, none⟩)] 23)).alloc (.cells #[pq] 23)).cell? ⟨w.heap.size + 3, 0, none⟩ = some pq ∧ w.heap.size + 3 < ((((w.alloc (.cells #[.int .i64 o] 3)).alloc (.cells #[ptrV k0, ptrV k1] 81)).alloc (.cells #[.pointer (some ⟨w.heap.size + 1, 0, none⟩)] 23)).alloc (.cells #[pq] 23)).heap.size from by
    have hb1 : Below (w.alloc (.cells #[.int .i64 o] 3)).heap.size (w.alloc (.cells #[.int .i64 o] 3)) ((((w.alloc (.cells #[.int .i64 o] 3)).alloc (.cells #[ptrV k0, ptrV k1] 81)).alloc (.cells #[.pointer (some ⟨w.heap.size + 1, 0, none⟩)] 23)).alloc (.cells #[pq] 23)) := (((Below.refl _ _).alloc (Nat.le_refl _) _).alloc (by simp) _).alloc (by simp) _
    exact ⟨⟨(((Whole.new _ _ _).alloc _).alloc _).alloc _, (whole_new _ _ (by simp)).alloc _, ⟨k0, k1, ((whole_new _ _ (by simp)).alloc _).alloc _, T0.below hk0 hb1, T0.below hk1 hb1⟩, ((((Below.refl _ w).alloc (Nat.le_refl _) _).alloc (by simp) _).alloc (by simp; omega) _).alloc (by simp; omega) _⟩, by rw [(show Whole _ (w.heap.size + 3) 23 #[pq] from whole_new _ _ (by simp)).cell]; rfl, by simp⟩)
  clear hk0 hk1
  generalize ((((w.alloc (.cells #[.int .i64 o] 3)).alloc (.cells #[ptrV k0, ptrV k1] 81)).alloc (.cells #[.pointer (some ⟨w.heap.size + 1, 0, none⟩)] 23)).alloc (.cells #[pq] 23)) = W at HW ⊢
  have HTL := Lib.hid (HTELL.out W (w.heap.size + 3) HW.out.2.1 HW.out.2.2 (HT.out.low HW.out.1.bel))
  clear HTELL HALL HT HCOP
  refine range_known (gf := 46) (lb := #[.pointer (some ⟨w.heap.size + 3, 0, none⟩)]) rfl (enters_of Try.func46 (by kernel_rfl) rfl) w.heap.size HW.out.1.bel.size encRt (fun _ => rfl) L W (Below.refl _ _) (Below.refl _ _) (fun _ => False) (fun _ h => h.elim) HTL.out
    (fun pre X => DaW w o ta tb pre X) (fun _ _ => False) (fun pre X Y h k => h.kc k) (fun _ _ _ h _ => h) HW.out.1 ?_ ?_ ?_
  · rintro l pre x X hX hpre hsz
    have HX := Lib.hid hX
    have HC := Lib.hid (show x.cells.length = 19 from x.len)
    have HCO := Lib.hid (show x.cells.toArray.all (·.oneCell') = true by rw [List.all_toArray, List.all_eq_true]; exact x.each)
    have HB4 := Lib.hid (Nat.lt_of_lt_of_le HW.out.2.2 hsz)
    have HXP := Lib.hid (show ∀ V M, Whole V M 38 x.cells.toArray → V.rangeAt M 0 (prefL x.s (byt x.p) (x.p.length : Int)) ∧ V.cell? ⟨M, 18, none⟩ = some (.int .i64 x.o) from fun V M h => ⟨fun j v hj => by rw [Nat.zero_add, h.cell, List.getElem?_toArray]; exact route_pre _ _ _ _ hj, by rw [h.cell, List.getElem?_toArray]; exact x.own⟩)
    have HXL := Lib.hid (prefL_length x.s (byt x.p) (x.p.length : Int))
    have HREM := Lib.hid (show ∀ V, DaW w o ta tb pre V → Calls Try.prog 38 #[.pointer (some ⟨w.heap.size + 1, 0, none⟩), .agg (prefL x.s (byt x.p) (x.p.length : Int)).toArray] V fun e Y => e = .returned (.tuple #[]) ∧ (x.o = o → DaW w o ta tb (pre ++ [x]) Y ∧ KeepsFrom W.heap.size V Y ∧ Below w.heap.size V Y) from fun V hV => by
      obtain ⟨j0, j1, h1, h2, h3⟩ := hV.trie
      have hm := HTH.out pre x hpre
      have hxr := (HRR.out x (hpre.sublist.subset (List.mem_append_right _ List.mem_cons_self))).1
      have oka' := dels_ok (o := o) (s := false) (pre := pre) oka
      have okb' := dels_ok (o := o) (s := true) (pre := pre) okb
      refine (remove_any h1 h2 h3 oka' okb' x.s (byt x.p) x.p.length (byt_lt _) (right_byt hxr) ⟨x.o, by rw [bs_byt]; exact hm⟩).mono ?_
      rintro e Y ⟨rfl, X2, k, hb, rfl, hk⟩
      rw [bs_byt] at hk
      exact ⟨rfl, fun hxo => ⟨hV.take hxo hb hk, (keeps_of_below hb).trans (keeps_set _ _ _), (hb.mono hV.bel.size).setCell (p := ⟨w.heap.size + 1, _, none⟩) (Nat.le_succ _) _⟩⟩)
    obtain ⟨PX, hPX⟩ : ∃ PX, prefL x.s (byt x.p) (x.p.length : Int) = PX := ⟨_, rfl⟩
    rw [hPX] at HXP HXL HREM
    clear hX hpre HTL hsz hPX
    rw [show encRt x = #[.agg x.cells.toArray] from rfl, zip1]
    simp only [List.setIfInBounds_toArray, List.set_cons_zero, List.set_cons_succ]
    obtain ⟨C, hC⟩ : ∃ C, x.cells = C := ⟨_, rfl⟩
    rw [hC] at HC HCO HXP ⊢
    clear hC
    gi_wp2_with (refine listIn_store (fun _ => trivial) rfl 38 (.tmp 6) (.tmp 11) rfl X.heap.size C.toArray rfl rfl (Whole.new _ _ _) (by rw [List.size_toArray, HC.out]; kernel_rfl) (by rw [HZS.out, List.size_toArray, HC.out]) HCO.out ?_)
    refine ⟨keeps_of_below (below_var _ _ _ _), (below_var _ _ _ _).mono HX.out.bel.size, sm_none, ?_⟩
    intro Y hk
    have HY := Lib.hid (show DaW w o ta tb pre Y ∧ Whole Y X.heap.size 38 C.toArray from ⟨(HX.out.kc (KC.of_below HX.out.bel.size (below_var _ _ _ _))).kc hk, Whole.kc (setRow_heap _ _ _ _ _ _ (Whole.new _ _ _)) hk⟩)
    clear hk HX HB4
    generalize X.heap.size = M at HY ⊢
    clear X
    have c3 : Y.cell? ⟨w.heap.size, 0, none⟩ = some (.int .i64 o) := by rw [HY.out.1.own.cell]; rfl
    have c5 : Y.cell? ⟨w.heap.size + 1 + 1, 0, none⟩ = some (.pointer (some ⟨w.heap.size + 1, 0, none⟩)) := by rw [HY.out.1.out.cell]; rfl
    have co := (HXP.out _ _ HY.out.2).2
    by_cases hxo : x.o = o
    · have HXO := Lib.hid hxo
      have ht : (x.o == o) = true := by simp [hxo]
      clear hxo
      gi_wp2_with (first
        | (refine listIn_value (fun _ => trivial) (by rfl) (fun c h => by cases h) _ (run_mid_in 29 (.tmp 17) rfl M 0 rfl PX _ (HXP.out _ _ HY.out.2).1 rfl rfl (by rw [HXL.out]; kernel_rfl)) ?_)
        | ((try refine ⟨trivial, ?_⟩); (try refine ⟨(fun h => by cases h), ?_⟩); gi_at_call 38; refine (CallsIn.inRound l (callsIn_wide.2 (HREM.out _ HY.out.1))).mono ?_; rintro e Z2 ⟨rfl, hz⟩))
      have hz := hz HXO.out
      exact ⟨hz.2.1, hz.2.2, sm_none, hz.1⟩
    · have HXO := Lib.hid hxo
      have ht : (x.o == o) = false := by simp [hxo]
      clear hxo
      gi_wp2_with fail
      exact ⟨KeepsFrom.refl _ _, Below.refl _ _, sm_none, HY.out.1.pass HXO.out⟩
  · rintro X hX hd hsz
    have HX := Lib.hid hX
    have HD := Lib.hid hd
    have c5 : X.cell? ⟨w.heap.size + 1 + 1, 0, none⟩ = some (.pointer (some ⟨w.heap.size + 1, 0, none⟩)) := by rw [HX.out.out.cell]; rfl
    clear hX hd
    gi_wp2_with fail
    refine ⟨by simp, .inl ⟨_, _, rfl, run_takeDeferred HD.out, ?_⟩⟩
    have HF := HX.out.kc (KC.put (n₀ := w.heap.size) (.deferred none) HD.out rfl HW.out.1.bel.size)
    obtain ⟨j0, j1, h1, h2, h3⟩ := HF.trie
    exact ⟨_, results_tmp rfl _ _ _, w.heap.size + 1, rfl, ⟨j0, j1, trivial, h1, h2, h3⟩, HF.bel⟩
  · intro _ _ _ h
    exact h.elim
end Tri
end Go.Proofs.Ytcpfchfhcfdcpaa
