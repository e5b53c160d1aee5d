/- Package trie: Routes. -/
import Derived.Test.YtcpfchfhcfdcpaaTrAllD
import Derived.RangeFuncBox
import Derived.Great.Walk
import Derived.Test.YtcpfchfhcfdcpaaRowS
namespace Go.Proofs.Ytcpfchfhcfdcpaa
namespace Tri
open Go.ChangeShapes Go.WideShapes Go.ChangeAt Go.RowKit Go.Shelf
open Num Mem Words Chacha Aead Poly Quiet Ops Adr RowV RowS

attribute [local go_sem] Oper.semAt_some

theorem built_route (s : Bool) (f : Nat → Nat) (z o : Int) : Try.prog.builtSlice 38 1 [(0, .agg (routeL s f z o).toArray)] = some (routeL s f z o).toArray := by kernel_rfl
theorem info_route : (Try.prog.info? 38).map (fun i => (i.zero, i.size, i.bytes)) = some (some (.agg (routeL false nought 0 0).toArray), 19, 40) := by kernel_rfl
theorem listIn_rows {F : Fence} (hF : ∀ f, F.fn f) {n : Nat} {P : Program} {ops : Array Oper} {rest : List Oper} {o : Oper} {a : Act} {w : World} {Q : Exit → Act → World → Prop} (hgd : o.guard = none) (t e : TypeId) (len : Nat) (parts : Array (Nat × Operand)) (ho : o.op = .buildSlice t len parts) (hu : P.underlying t = some (.slice e)) (cells : Array Value) (hf : P.builtSlice e len (parts.map fun (i, x) => (i, a.eval x)).toList = some cells)
    (h : wpListIn F n P ops Q rest (a.put o.dst (.slice (some ⟨w.heap.size, 0, none⟩) len len)) (w.alloc (.cells cells e))) : wpListIn F n P ops Q (o :: rest) a w := by
  refine wpListIn_plain hgd fun K hK => ⟨fun f _ => hF f, ?_⟩
  rw [Oper.semAt_plain F _ _ (by rw [ho]; intro c h; cases h)]
  unfold execOp
  unfold Program.builtSlice at hf
  cases hie : P.info? e with
  | none => simp [hie] at hf
  | some ie =>
    simp only [hie] at hf
    cases hz : ie.zero with
    | none => simp [hz] at hf
    | some z =>
      simp only [hz] at hf
      by_cases hc : len * ie.size > 2 ^ 24 ∨ len * ie.size = 0
      · simp [hc] at hf
      · rw [if_neg hc] at hf
        simp only [ho, Sem.run_bind, run_buildSlice w t e len _ cells ie z hu hie hz (fun h' => hc (Or.inl h')) (fun h' => hc (Or.inr h')) hf, Result.andThen_ok]
        exact hK _ _ h
theorem listIn_row {F : Fence} (hF : ∀ f, F.fn f) {n : Nat} {P : Program} {ops : Array Oper} {rest : List Oper} {o : Oper} {a : Act} {w : World} {Q : Exit → Act → World → Prop} (hgd : o.guard = none) (t e : TypeId) (x : Operand) (ho : o.op = .buildSlice t 1 #[(0, x)]) (v : Value) (hx : a.eval x = v) (hu : P.underlying t = some (.slice e)) (cells : Array Value) (hb : P.builtSlice e 1 [(0, v)] = some cells)
    (h : wpListIn F n P ops Q rest (a.put o.dst (.slice (some ⟨w.heap.size, 0, none⟩) 1 1)) (w.alloc (.cells cells e))) : wpListIn F n P ops Q (o :: rest) a w :=
  listIn_rows hF hgd t e 1 _ ho hu cells (by simpa [hx] using hb) h
theorem owns_same {X Y : World} {base : Nat} {e : TypeId} {size : Nat} {v : Value} {n : Nat} {xs : List Value} (h : X.ownsRow base e size v n xs) (k : ∀ g cs, Whole X g e cs → v.ownBlock = some g → Whole Y g e cs) : Y.ownsRow base e size v n xs := by
  refine ⟨h.1, ?_⟩
  rcases h.2 with h0 | ⟨c, cap, cur, hv, hB, hh, rest⟩
  · exact .inl h0
  · exact .inr ⟨c, cap, cur, hv, hB, k c cur hh (by rw [hv]; rfl), rest⟩
theorem owns_row {X : World} {base : Nat} {e : TypeId} {size : Nat} {v : Value} {n : Nat} {xs : List Value} (h : X.ownsRow base e size v n xs) {j : Nat} (hj : v.ownBlock = some j) : base ≤ j ∧ ∃ cs, Whole X j e cs := by
  rcases h.2 with ⟨h0, _⟩ | ⟨c, cap, cur, hv, hB, hh, rest⟩
  · rw [h0] at hj; cases hj
  · rw [hv] at hj; cases hj; exact ⟨hB, cur, hh⟩
theorem below_grown' {Y w1 : World} {n0 B : Nat} {e : TypeId} {size n : Nat} {v : Value} {xs : List Value} {o : Obj} (own : Y.ownsRow B e size v n xs) (hg : (Y.alloc o).grownBy w1 v.ownBlock) (hsz : n0 + 2 ≤ Y.heap.size) (hB : n0 ≤ B := by omega) : Below n0 Y w1 :=
  ((Below.refl n0 Y).alloc (by omega) o).grown hg (by rw [World.size_alloc]; omega) fun k hk => Nat.le_trans hB (owns_row own hk).1
def flatR (L : List Rt) : List Value := (L.map Rt.cells).flatten
theorem flatR_snoc (L : List Rt) (x : Rt) : flatR (L ++ [x]) = flatR L ++ x.cells := by unfold flatR; simp
theorem flatR_length : ∀ L : List Rt, (flatR L).length = L.length * 19
  | [] => rfl
  | x :: L => by
    have := flatR_length L
    unfold flatR at this ⊢
    rw [List.map_cons, List.flatten_cons, List.length_append, this, x.len, List.length_cons]
    omega
theorem flatR_at : ∀ (L : List Rt) (k : Nat) (x : Rt), L[k]? = some x → ∀ j v, x.cells[j]? = some v → (flatR L)[k * 19 + j]? = some v
  | [], _, _, h, _, _, _ => by simp at h
  | y :: L, 0, x, h, j, v, hj => by
    simp at h
    subst h
    have hlt := (List.getElem?_eq_some_iff.1 hj).1
    unfold flatR
    rw [List.map_cons, List.flatten_cons, Nat.zero_mul, Nat.zero_add, List.getElem?_append_left hlt]
    exact hj
  | y :: L, k + 1, x, h, j, v, hj => by
    have := flatR_at L k x (by simpa using h) j v hj
    unfold flatR at this ⊢
    rw [List.map_cons, List.flatten_cons, List.getElem?_append_right (by rw [y.len]; omega), y.len, show (k + 1) * 19 + j - 19 = k * 19 + j by omega]
    exact this
/-- a row that can be read -/
structure RdR (X : World) (A : Option Addr) (xs : List Value) : Prop where
  cells : xs = [] ∨ ∃ b, A = some ⟨b, 0, none⟩ ∧ b < X.heap.size ∧ ∀ i v, xs[i]? = some v → X.cell? ⟨b, i, none⟩ = some v
theorem RdR.below {X Y : World} {A : Option Addr} {xs : List Value} (h : RdR X A xs) {B : Nat} (hb : Below B X Y) (hB : X.heap.size ≤ B) : RdR Y A xs := ⟨h.cells.imp id fun ⟨b, h1, h2, h3⟩ => ⟨b, h1, Nat.lt_of_lt_of_le h2 hb.size, fun i v hv => (hb.cell (p := ⟨b, i, none⟩) (Nat.lt_of_lt_of_le h2 hB)).trans (h3 i v hv)⟩⟩
theorem rdR_own {X : World} {B e n c size : Nat} {A : Option Addr} {xs : List Value} (h : X.ownsRow B e size (.slice A n c) n xs) : RdR X A xs := by
  refine ⟨?_⟩
  rcases h.2 with ⟨_, h0⟩ | ⟨g, cap, cur, hv, hB, hh, h1, h2, h3, ht⟩
  · left
    have := h.1
    rw [h0, Nat.zero_mul] at this
    exact List.eq_nil_of_length_eq_zero this
  · right
    injection hv with e1
    have hw : Whole X g e cur := hh
    refine ⟨g, e1, hw.lt, fun i v hi => ?_⟩
    rw [hw.cell, ← Array.getElem?_toList]
    rw [← ht] at hi
    rw [List.getElem?_take] at hi
    split at hi
    · exact hi
    · cases hi
set_option maxRecDepth 100000 in
theorem clip_any (A : Option Addr) (len cap : Nat) (hl : len ≤ cap) (w : World) : Calls Try.prog 31 #[.slice A len cap] w fun e w' => e = .returned (.slice A len len) ∧ w' = w := by
  have hA : (0 : Int) ≤ (len : Int) := Int.natCast_nonneg _
  have hB : (len : Int) ≤ (cap : Int) := Int.ofNat_le.2 hl
  have hC : (len : Int) ≤ (len : Int) := Int.le_refl _
  go_enter Try.func31, Try.ntmps31
  go_wp2
  go_ret
  exact ⟨rfl, rfl⟩
structure RoW (w : World) (pre : List Rt) (A : Option Addr) (c : Nat) (X : World) : Prop where
  box : Whole X w.heap.size 50 #[.slice A pre.length c]
  own : X.ownsRow (w.heap.size + 2) 38 19 (.slice A pre.length c) pre.length (flatR pre)
  bel : Below w.heap.size w X
theorem RoW.kc {w : World} {pre : List Rt} {A : Option Addr} {c : Nat} {X Y : World} (h : RoW w pre A c X) (k : KC w.heap.size X Y) : RoW w pre A c Y := ⟨Whole.kc h.box k, owns_same h.own fun _ _ hw _ => Whole.kc hw k, h.bel.trans k.low⟩
theorem RoW.push {w : World} {pre : List Rt} {A : Option Addr} {c : Nat} {Y : World} {C : List Value} {x : Rt} (h : RoW w pre A c Y) (hsz : w.heap.size + 2 ≤ Y.heap.size) (hx : x.cells = C) {v' : Value} {w1 : World} (hown : w1.ownsRow (w.heap.size + 2) 38 19 v' (pre.length + 1) (flatR pre ++ C))
    (hg : (Y.alloc (.cells C.toArray 38)).grownBy w1 (Value.slice A pre.length c).ownBlock) (B : Nat) : ∃ A' c', v' = .slice A' (pre.length + 1) c' ∧ w1.cell? ⟨w.heap.size, 0, none⟩ = some (.slice A pre.length c) ∧ w1.frozen? ⟨w.heap.size, 0, none⟩ = false ∧
      RoW w (pre ++ [x]) A' c' (w1.setCell ⟨w.heap.size, 0, none⟩ (.slice A' (pre.length + 1) c')) ∧ KeepsFrom B Y (w1.setCell ⟨w.heap.size, 0, none⟩ (.slice A' (pre.length + 1) c')) ∧ Below w.heap.size Y (w1.setCell ⟨w.heap.size, 0, none⟩ (.slice A' (pre.length + 1) c')) := by
  obtain ⟨g', cap', rfl⟩ := ownsRow_succ hown
  have hne : some w.heap.size ≠ (Value.slice A pre.length c).ownBlock := fun e => by
    obtain ⟨hlt, _⟩ := owns_row h.own e.symm
    omega
  have hbox : Whole w1 w.heap.size 50 #[.slice A pre.length c] := (hg.block w.heap.size (by rw [World.size_alloc]; omega) hne).trans (h.box.alloc _)
  have hb1 : Below w.heap.size Y w1 := below_grown' h.own hg hsz
  refine ⟨_, _, rfl, by rw [hbox.cell]; rfl, hbox.free 0, ⟨?_, ?_, (h.bel.trans hb1).setCell (p := ⟨w.heap.size, 0, none⟩) (Nat.le_refl _) _⟩, ?_, hb1.setCell (p := ⟨w.heap.size, 0, none⟩) (Nat.le_refl _) _⟩
  · have := hbox.put 0 (.slice (some ⟨g', 0, none⟩) (pre.length + 1) cap')
    rw [List.length_append, List.length_singleton]
    exact this
  · rw [List.length_append, List.length_singleton, flatR_snoc, hx]
    refine owns_same hown fun g cs hw hv => hw.far (p := ⟨w.heap.size, 0, none⟩) ?_ _
    obtain ⟨hlt, _⟩ := owns_row hown hv
    show g ≠ w.heap.size
    omega
  · refine ((KeepsOthers.trans ((KeepsOthers.alloc Y _).trans (KeepsOthers.of_grownBy hg fun j o hj ho => ?_)) (KeepsOthers.setCell _ _ _)).from B)
    obtain ⟨_, cs, hcs⟩ := owns_row h.own hj
    have h1 : (Y.alloc (.cells C.toArray 38)).heap[j]? = some (.cells cs 38 (0, 0)) := hcs.alloc _
    rw [h1] at ho
    cases ho
    rfl
set_option maxRecDepth 100000 in
set_option maxHeartbeats 8000000 in
theorem routes_any {A : Nat → Prop} {w : World} {ta tb : Tr} {q : Option Nat} (h : IsTrie A w ta tb q) (hlen : (routes2 ta tb).length ≤ 1000) : Calls Try.prog 17 #[ptrV q] w fun e w' => ∃ R, e = .returned (.slice R (routes2 ta tb).length (routes2 ta tb).length) ∧ RdR w' R (flatR (routes2 ta tb)) ∧ Below w.heap.size w w' := by
  have HT := Lib.hid h.here
  have HALL := Lib.hid (fun X => callsIn_wide.2 (all_any q X) : ∀ X, CallsIn Fence.wide (3 - 1) _ _ _ X _)
  have HCLIP := Lib.hid (fun A len cap hl X => callsIn_wide.2 (clip_any A len cap hl X) : ∀ A len cap (_ : len ≤ cap) X, CallsIn Fence.wide (3 - 1) _ _ _ X _)
  have HTELL := Lib.hid (fun (X : World) (Bt : Nat) (hc : X.cell? ⟨Bt, 0, none⟩ = some (ptrV q)) (hb : Bt < X.heap.size) (hT : IsTrie (fun i => i < w.heap.size) X ta tb q) => all_tells w.heap.size X Bt q ta tb hc hb hT)
  obtain ⟨L, hL⟩ : ∃ L, routes2 ta tb = L := ⟨_, rfl⟩
  rw [hL] at HTELL hlen ⊢
  clear hL h
  obtain ⟨pq, hpq⟩ : ∃ pq, ptrV q = pq := ⟨_, rfl⟩
  rw [hpq] at HALL HTELL ⊢
  clear hpq
  have hzr := zero_route
  have HZS := Lib.hid (show (routeL false nought 0 0).toArray.size = 19 by rw [List.size_toArray, routeL_length])
  obtain ⟨i0, hi, hz0, hz1, hz2⟩ := info_parts info_route
  have HI := Lib.hid (show Try.prog.info? 38 = some i0 ∧ i0.zero = some (.agg (routeL false nought 0 0).toArray) ∧ i0.size = 19 ∧ i0.bytes = 40 from ⟨hi, hz0, hz1, hz2⟩)
  have HZC := Lib.hid (show (Value.agg (routeL false nought 0 0).toArray).cells.size = 19 by show (routeL false nought 0 0).toArray.size = 19; rw [List.size_toArray, routeL_length])
  obtain ⟨Z, hZ⟩ : ∃ Z, (routeL false nought 0 0).toArray = Z := ⟨_, rfl⟩
  rw [hZ] at hzr HZS HI HZC
  clear hZ hi hz0 hz1 hz2
  refine (callsIn_wide (n := 3)).1 ?_
  have hdd : ∀ k : Nat, (Fence.wide.depth.isSome = true → 1 ≤ k) := fun k h => by cases h
  refine callsIn_of_wp_marks Try.func17 rfl trivial ?_ rfl
  simp only [Try.ntmps17, List.size_toArray, List.length_cons, List.length_nil, Nat.reduceAdd, Nat.reduceSub, Array.replicate_succ, Array.replicate_zero, List.push_toArray, List.append_toArray, List.nil_append, List.cons_append]
  gi_wp2_with (first
    | ((try refine ⟨trivial, ?_⟩); (try refine ⟨hdd _, ?_⟩); gi_at_call 30; refine (HALL.out _).mono ?_; rintro e w' ⟨rfl, rfl⟩))
  have HW := Lib.hid (show RoW w [] none 0 ((w.alloc (.cells #[.slice none 0 0] 50)).alloc (.cells #[pq] 23)) ∧ ((w.alloc (.cells #[.slice none 0 0] 50)).alloc (.cells #[pq] 23)).cell? ⟨w.heap.size + 1, 0, none⟩ = some pq ∧ ((w.alloc (.cells #[.slice none 0 0] 50)).alloc (.cells #[pq] 23)).heap.size = w.heap.size + 2 from
    ⟨⟨(Whole.new _ _ _).alloc _, World.ownsRow_nil _ _ _ _, ((Below.refl _ w).alloc (Nat.le_refl _) _).alloc (by simp) _⟩, by rw [(show Whole _ (w.heap.size + 1) 23 #[pq] from whole_new _ _ (by simp)).cell]; rfl, by simp⟩)
  generalize (w.alloc (.cells #[.slice none 0 0] 50)).alloc (.cells #[pq] 23) = W at HW ⊢
  have HTL := Lib.hid (HTELL.out W (w.heap.size + 1) HW.out.2.1 (by rw [HW.out.2.2]; omega) (HT.out.low HW.out.1.bel))
  clear HTELL HALL HT
  refine range_known (gf := 46) (lb := #[.pointer (some ⟨w.heap.size + 1, 0, none⟩)]) rfl (enters_of Try.func46 (by kernel_rfl) rfl) w.heap.size HW.out.1.bel.size encRt (fun _ => rfl) L W (Below.refl _ _) (Below.refl _ _) (fun _ => False) (fun _ h => h.elim) HTL.out
    (fun pre X => ∃ A c, RoW w pre A c X) (fun _ _ => False) (fun pre X Y h k => by obtain ⟨A, c, h⟩ := h; exact ⟨A, c, h.kc k⟩) (fun _ _ _ h _ => h) ⟨_, _, HW.out.1⟩ ?_ ?_ ?_
  · rintro l pre x X ⟨A, c, hX⟩ hpre hsz
    have HX := Lib.hid hX
    have hlt := hpre.length_le
    rw [List.length_append, List.length_singleton] at hlt
    have HC := Lib.hid (show x.cells.length = 19 from x.len)
    have HCE := Lib.hid x.each
    have HCO := Lib.hid (show x.cells.toArray.all (·.oneCell') = true by rw [List.all_toArray, List.all_eq_true]; exact x.each)
    have HBS := Lib.hid (show Try.prog.builtSlice 38 1 [(0, .agg x.cells.toArray)] = some x.cells.toArray from built_route _ _ _ _)
    have HFS := Lib.hid (flatR_snoc pre x)
    clear hX hpre HTL
    rw [show encRt x = #[.agg x.cells.toArray] from rfl, zip1]
    simp only [List.setIfInBounds_toArray, List.set_cons_zero, List.set_cons_succ]
    obtain ⟨C, hC⟩ : ∃ C, x.cells = C := ⟨_, rfl⟩
    rw [hC] at HC HCO HCE HBS HFS ⊢
    have HXC := Lib.hid hC
    clear hC
    gi_wp2_with (refine listIn_store (fun _ => trivial) rfl 38 (.tmp 4) (.tmp 7) rfl X.heap.size C.toArray rfl rfl (Whole.new _ _ _) (by rw [List.size_toArray, HC.out]; kernel_rfl) (by rw [HZS.out, List.size_toArray, HC.out]) HCO.out ?_)
    refine ⟨keeps_of_below (below_var _ _ _ _), (below_var _ _ _ _).mono HX.out.bel.size, sm_none, ?_⟩
    intro Y hk
    have HY := Lib.hid (show RoW w pre A c Y ∧ Whole Y X.heap.size 38 C.toArray from ⟨(HX.out.kc (KC.of_below HX.out.bel.size (below_var _ _ _ _))).kc hk, Whole.kc (setRow_heap _ _ _ _ _ _ (Whole.new _ _ _)) hk⟩)
    have HSZ := Lib.hid (show w.heap.size + 2 ≤ X.heap.size by have := HW.out.2.2; omega)
    clear hk HX hsz
    generalize X.heap.size = M at HY HSZ ⊢
    clear X
    have c3 : Y.cell? ⟨w.heap.size, 0, none⟩ = some (.slice A pre.length c) := by rw [HY.out.1.box.cell]; rfl
    have HYS := Lib.hid (show w.heap.size + 2 ≤ Y.heap.size from by have := HY.out.2.lt; have := HSZ.out; omega)
    gi_wp2_with (first
      | (refine listIn_value (fun _ => trivial) (by rfl) (fun c h => by cases h) _ (run_load_in 38 (.tmp 4) rfl M rfl C.toArray 19 (by rw [List.size_toArray, HC.out]) HY.out.2 rfl rfl (by kernel_rfl)) ?_)
      | (refine listIn_row (fun _ => trivial) rfl 50 38 (.tmp 9) rfl (.agg C.toArray) rfl rfl C.toArray HBS.out ?_)
      | (gi_at_builtin; refine wpListIn_append_own _ rfl _ _ 50 rfl (w.heap.size + 2) 38 i0 (.agg Z) 19 40 Try.underlying50 HI.out.1 HI.out.2.1 HI.out.2.2.1 HI.out.2.2.2 HZC.out (by decide) (.slice A pre.length c) pre.length (flatR pre) rfl (World.ownsRow.alloc HY.out.1.own _) ⟨Y.heap.size, 0, none⟩ 1 1 C rfl (by rw [HC.out]) (news_new _ _ _) HCE.out (by unfold maxLen; omega) (by omega) (by have := HYS.out; rw [World.size_alloc]; omega) ?_; intro v' w1 hown' hgrow _; obtain ⟨A', c', rfl, c4, f4, hrow, hkeep, hbel⟩ := RoW.push HY.out.1 HYS.out HXC.out hown' hgrow W.heap.size; have HROW := Lib.hid hrow; have HKB := Lib.hid (And.intro hkeep hbel); clear hown' hgrow hrow hkeep hbel))
    exact ⟨HKB.out.1, HKB.out.2, sm_none, A', c', HROW.out⟩
  · rintro X ⟨A, c, hX⟩ hd hsz
    have HX := Lib.hid hX
    have HD := Lib.hid hd
    have hcap : L.length ≤ c := by
      rcases hX.own.2 with ⟨h0, h1⟩ | ⟨_, cap, _, hv, _, _, h1, _⟩
      · omega
      · injection hv with _ _ e3; omega
    have c3 : X.cell? ⟨w.heap.size, 0, none⟩ = some (.slice A L.length c) := by rw [HX.out.box.cell]; rfl
    clear hX hd
    gi_wp2_with ((try refine ⟨trivial, ?_⟩); (try refine ⟨hdd _, ?_⟩); gi_at_call 31; refine (HCLIP.out A L.length c hcap _).mono ?_; rintro e w' ⟨rfl, rfl⟩)
    refine ⟨by simp, .inl ⟨_, _, rfl, run_takeDeferred HD.out, ?_⟩⟩
    have HF := HX.out.kc (KC.put (n₀ := w.heap.size) (.deferred none) HD.out rfl HW.out.1.bel.size)
    exact ⟨_, results_tmp rfl _ _ _, A, rfl, rdR_own HF.own, HF.bel⟩
  · intro _ _ _ h
    exact h.elim
end Tri
end Go.Proofs.Ytcpfchfhcfdcpaa
