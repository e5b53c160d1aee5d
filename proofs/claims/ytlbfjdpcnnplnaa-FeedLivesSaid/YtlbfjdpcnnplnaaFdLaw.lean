/- FeedLives: the events and the items as the document's. -/
import Derived.Test.YtlbfjdpcnnplnaaFdWho
import Derived.Test.YtlbfjdpcnnplnaaFdEq
namespace Go.Proofs.Ytlbfjdpcnnplnaa
namespace Fee
open Go.ChangeShapes Go.WideShapes Go.ChangeAt Go.RowKit Go.Maps
open Num Mem Words Chacha Aead Poly Quiet RowV RowS EqLits

theorem info_rev : (Try.prog.info? 78).map (fun i => (i.zero, i.size, i.bytes)) = some (some (.agg (evL noEv).toArray), 34, 48) := by kernel_rfl
theorem revent_built (k : Int) (f : Nat → Nat) (v : Nat) : Try.prog.built 78 [(0, .int .i64 k), (1, .agg (byteCells f 32).toArray), (2, .int .u64 (v : Nat))] = some (evL ⟨k, f, v⟩).toArray := by kernel_rfl
theorem revent_row (e : Ev) : Try.prog.builtSlice 78 1 [(0, .agg (evL e).toArray)] = some (evL e).toArray := by kernel_rfl
theorem ritem_built (e : Ev) (n : Nat) : Try.prog.built 81 [(0, .agg (evL e).toArray), (1, .int .u64 (n : Nat))] = some (itL ⟨e, n⟩).toArray := by kernel_rfl
theorem run_built3 {P : Program} {o : Oper} {a : Act} {w : World} (t : TypeId) (k m l : Nat) (x y z : Operand) (ho : o.op = .build t #[(k, x), (m, y), (l, z)])
    (v u s : Value) (hx : a.eval x = v) (hy : a.eval y = u) (hz : a.eval z = s) (vs : Array Value) (hb : P.built t [(k, v), (m, u), (l, s)] = some vs) : (execOp a.eval o).run P w = .ok (.value (.agg vs)) w := by
  have e : P.built t ((#[(k, x), (m, y), (l, z)] : Array (Nat × Operand)).map fun (i, x) => (i, a.eval x)).toList = some vs := by simpa [hx, hy, hz] using hb
  unfold execOp
  simp only [ho, Sem.run_bind, run_build w t _ vs e, Result.andThen_ok, Sem.run_pure]
theorem run_built2 {P : Program} {o : Oper} {a : Act} {w : World} (t : TypeId) (k m : Nat) (x y : Operand) (ho : o.op = .build t #[(k, x), (m, y)])
    (v u : Value) (hx : a.eval x = v) (hy : a.eval y = u) (vs : Array Value) (hb : P.built t [(k, v), (m, u)] = some vs) : (execOp a.eval o).run P w = .ok (.value (.agg vs)) w := by
  have e : P.built t ((#[(k, x), (m, y)] : Array (Nat × Operand)).map fun (i, x) => (i, a.eval x)).toList = some vs := by simpa [hx, hy] using hb
  unfold execOp
  simp only [ho, Sem.run_bind, run_build w t _ vs e, Result.andThen_ok, Sem.run_pure]
theorem RdE.range {w : World} {A : Option Addr} {l : List Ev} (h : RdE w A l) {i : Nat} {e : Ev} (he : l[i]? = some e) : ∃ b off, A = some ⟨b, off, none⟩ ∧ b < w.heap.size ∧ w.rangeAt b (off + i * 34) (evL e) := by
  rcases h with rfl | ⟨b, off, e1, hl, hc⟩
  · simp at he
  · exact ⟨b, off, e1, hl, hc i e he⟩
/-- a row of the document's events of one's own -/
def OwR (w : World) (B : Nat) (A : Option Addr) (c : Nat) (l : List Ev) : Prop := w.ownsRow B 78 34 (.slice A l.length c) l.length (flatE l)
theorem OwR.rd {w : World} {B : Nat} {A : Option Addr} {c : Nat} {l : List Ev} (h : OwR w B A c l) : RdE w A l := by
  rcases l with _ | ⟨x, l⟩
  · exact .inl rfl
  · obtain ⟨g, e, _, hlt, hc⟩ := own_cells h (by rw [List.length_cons]; omega)
    refine .inr ⟨g, 0, e, hlt, fun i y hy j v hv => ?_⟩
    have hj : j < 34 := by rw [← evL_length y]; exact (List.getElem?_eq_some_iff.1 hv).1
    have := flatE_get (x :: l) i j y hy hj
    rw [hv] at this
    rw [Nat.zero_add]
    exact (hc _ _ this).1
theorem OwR.base {w : World} {B : Nat} {A : Option Addr} {c : Nat} {l : List Ev} (h : OwR w B A c l) : ∀ b off, A = some ⟨b, off, none⟩ → B ≤ b ∧ b < w.heap.size := by
  intro b off e
  subst e
  exact World.ownsRow.lt h b rfl
structure ErW (w : World) (l : List Ev) (k : Nat) (A : Option Addr) (c : Nat) (X : World) : Prop where
  own : X.ownsRow w.heap.size 78 34 (.slice A k c) k (flatE (l.take k))
  bel : Below w.heap.size w X
theorem evL_at (e : Ev) : (evL e)[0]? = some (.int .i64 e.k) ∧ (∀ j v, (byteCells e.f 32)[j]? = some v → (evL e)[1 + j]? = some v) ∧ (evL e)[33]? = some (.int .u64 (e.v : Nat)) := by
  refine ⟨rfl, fun j v hv => ?_, by kernel_rfl⟩
  have hj : j < 32 := by have := (List.getElem?_eq_some_iff.1 hv).1; rwa [byteCells_length] at this
  unfold evL
  rw [show 1 + j = j + 1 by omega, List.getElem?_cons_succ, List.getElem?_append_left (by rw [byteCells_length]; exact hj)]
  exact hv
theorem ev_parts {w : World} {b o : Nat} {e : Ev} (h : w.rangeAt b o (evL e)) : w.cell? ⟨b, o, none⟩ = some (.int .i64 e.k) ∧ w.rangeAt b (o + 1) (byteCells e.f 32) ∧ w.cell? ⟨b, o + 33, none⟩ = some (.int .u64 (e.v : Nat)) :=
  ⟨h 0 _ (evL_at e).1, fun j v hv => by rw [Nat.add_assoc]; exact h _ _ ((evL_at e).2.1 j v hv), h 33 _ (evL_at e).2.2⟩
set_option maxRecDepth 100000 in
set_option maxHeartbeats 4000000 in
theorem revents_any {w : World} {A : Option Addr} {l : List Ev} (c : Nat) (h : RdE w A l) (hL : l.length ≤ 1000) :
    Calls Try.prog 16 #[.slice A l.length c] w fun e w' => ∃ A' c', e = .returned (.slice A' l.length c') ∧ OwR w' w.heap.size A' c' l ∧ Below w.heap.size w w' := by
  have HR := Lib.hid h
  have HO := Lib.hid (fun (w' : World) (A' : Option Addr) (c' : Nat) (h : w'.ownsRow w.heap.size 78 34 (.slice A' l.length c') l.length (flatE l)) => (show OwR w' w.heap.size A' c' l from h))
  obtain ⟨n, hn⟩ : ∃ n, l.length = n := ⟨_, rfl⟩
  rw [hn] at hL HO ⊢
  have HN := Lib.hid hn
  clear h hn
  go_enter Try.func16, Try.ntmps16
  go_wp2_with fail
  go_loopw [3, 4] (fun out i X => ∃ k A' c', k ≤ n ∧ i = .int .i64 (k : Nat) ∧ out = .slice A' k c' ∧ ErW w l k A' c' X) (fun _ i _ => n - (intOf i).toNat)
  case atStart => exact ⟨0, none, 0, Nat.zero_le _, rfl, rfl, ⟨⟨rfl, .inl ⟨rfl, rfl⟩⟩, Below.refl _ _⟩⟩
  case round =>
    obtain ⟨k, A', c', hk, rfl, rfl, hW⟩ := hrel
    have HW := Lib.hid hW
    clear hW
    by_cases hlt : k < n
    · have hkL : k < l.length := by rw [HN.out]; exact hlt
      have hx := List.getElem?_eq_getElem hkL
      have hts : l.take (k + 1) = l.take k ++ [l[k]] := List.take_succ_eq_append_getElem hkL
      generalize l[k] = x at hx hts
      obtain ⟨b, off, rfl, hgl, hrg⟩ := HR.out.range hx
      obtain ⟨p0, p1, p2⟩ := ev_parts hrg
      have H0 := Lib.hid (show ∀ V, Below w.heap.size w V → V.cell? ⟨b, off + k * 34, none⟩ = some (.int .i64 x.k) from fun V hV => (hV.cell hgl).trans p0)
      have H1 := Lib.hid (show ∀ V, Below w.heap.size w V → V.rangeAt b (off + k * 34 + 1) (byteCells x.f 32) from fun V hV => range_below p1 hV hgl)
      have H2 := Lib.hid (show ∀ V, Below w.heap.size w V → V.cell? ⟨b, off + k * 34 + 33, none⟩ = some (.int .u64 (x.v : Nat)) from fun V hV => (hV.cell hgl).trans p2)
      have HEB := Lib.hid (revent_built x.k x.f x.v)
      have HER := Lib.hid (revent_row x)
      have HEL := Lib.hid (show (evL x).length = 34 ∧ (∀ u ∈ evL x, u.oneCell' = true) ∧ flatE (l.take k) ++ evL x = flatE (l.take (k + 1)) from ⟨evL_length _, evL_each _, by rw [hts, flatE_append]; show _ = flatE (l.take k) ++ (evL x ++ []); rw [List.append_nil]⟩)
      have HEQ := Lib.hid (show evL ⟨x.k, x.f, x.v⟩ = evL x from rfl)
      rw [HEQ.out] at HEB
      obtain ⟨E, hE⟩ : ∃ E, evL x = E := ⟨_, rfl⟩
      rw [hE] at HEB HER HEL
      obtain ⟨K0, hK0⟩ : ∃ K0, byteCells x.f 32 = K0 := ⟨_, rfl⟩
      have HKL := Lib.hid (show K0.length = 32 by rw [← hK0, byteCells_length])
      rw [hK0] at HEB H1
      clear hx hts hgl hrg hkL p0 p1 p2 HEQ hE hK0
      go_upto_region 5 with fail
      refine region_drew (fun V => Below w.heap.size w V) (by kernel_rfl) HW.out.bel.drew (fun hS => ?_)
      refine take 0 _ rfl (by kernel_rfl) (by kernel_rfl) (by kernel_rfl) (fun _ _ _ h => h) (by rfl) hS (by intro w _; go_simp; with_reducible rfl) ?_
      try simp only [Act.put, List.setIfInBounds_toArray, List.set_cons_zero, List.set_cons_succ]
      refine take 1 _ rfl (by kernel_rfl) (by kernel_rfl) (by kernel_rfl) (fun _ _ _ h => h) (by rfl) hS (by intro w _; go_simp; with_reducible rfl) ?_
      try simp only [Act.put, List.setIfInBounds_toArray, List.set_cons_zero, List.set_cons_succ]
      refine take 2 _ rfl (by kernel_rfl) (by kernel_rfl) (by kernel_rfl) (fun _ _ _ h => h) (by rfl) hS (by intro w _; go_simp; with_reducible rfl) ?_
      try simp only [Act.put, List.setIfInBounds_toArray, List.set_cons_zero, List.set_cons_succ]
      refine take 3 _ rfl (by kernel_rfl) (by kernel_rfl) (by kernel_rfl) (fun _ _ _ h => h) (by rfl) hS (by intro w _; go_simp; with_reducible rfl) ?_
      try simp only [Act.put, List.setIfInBounds_toArray, List.set_cons_zero, List.set_cons_succ]
      refine take 4 _ rfl (by kernel_rfl) (by kernel_rfl) (by kernel_rfl) (fun _ _ _ h => h) (by rfl) hS (by intro w _; go_simp; with_reducible rfl) ?_
      try simp only [Act.put, List.setIfInBounds_toArray, List.set_cons_zero, List.set_cons_succ]
      refine take 5 _ rfl (by kernel_rfl) (by kernel_rfl) (by kernel_rfl) (fun _ _ _ h => h) (by rfl) hS (by intro w hw; have hcl := H0.out w hw; go_simp; with_reducible rfl) ?_
      try simp only [Act.put, List.setIfInBounds_toArray, List.set_cons_zero, List.set_cons_succ]
      refine take 6 _ rfl (by kernel_rfl) (by kernel_rfl) (by kernel_rfl) (fun _ _ _ h => h) (by rfl) hS (by intro w _; go_simp; with_reducible rfl) ?_
      try simp only [Act.put, List.setIfInBounds_toArray, List.set_cons_zero, List.set_cons_succ]
      refine take 7 _ rfl (by kernel_rfl) (by kernel_rfl) (by kernel_rfl) (fun _ _ _ h => h) (by rfl) hS (by intro w _; go_simp; with_reducible rfl) ?_
      try simp only [Act.put, List.setIfInBounds_toArray, List.set_cons_zero, List.set_cons_succ]
      refine take 8 _ rfl (by kernel_rfl) (by kernel_rfl) (by kernel_rfl) (fun _ _ _ h => h) (by rfl) hS (by intro w _; go_simp; with_reducible rfl) ?_
      try simp only [Act.put, List.setIfInBounds_toArray, List.set_cons_zero, List.set_cons_succ]
      refine take 9 _ rfl (by kernel_rfl) (by kernel_rfl) (by kernel_rfl) (fun _ _ _ h => h) (by rfl) hS (by intro w _; go_simp; with_reducible rfl) ?_
      try simp only [Act.put, List.setIfInBounds_toArray, List.set_cons_zero, List.set_cons_succ]
      refine take 10 (.agg K0.toArray) rfl (by kernel_rfl) (by kernel_rfl) (by kernel_rfl) (fun _ _ _ h => h) (by rfl) hS (fun w hw => run_load_mid_op 43 (.tmp 20) rfl b (off + k * 34 + 1) rfl K0 _ (H1.out w hw) rfl rfl (by rw [HKL.out]; kernel_rfl)) ?_
      try simp only [Act.put, List.setIfInBounds_toArray, List.set_cons_zero, List.set_cons_succ]
      refine take 11 _ rfl (by kernel_rfl) (by kernel_rfl) (by kernel_rfl) (fun _ _ _ h => h) (by rfl) hS (by intro w _; go_simp; with_reducible rfl) ?_
      try simp only [Act.put, List.setIfInBounds_toArray, List.set_cons_zero, List.set_cons_succ]
      refine take 12 _ rfl (by kernel_rfl) (by kernel_rfl) (by kernel_rfl) (fun _ _ _ h => h) (by rfl) hS (by intro w _; go_simp; with_reducible rfl) ?_
      try simp only [Act.put, List.setIfInBounds_toArray, List.set_cons_zero, List.set_cons_succ]
      refine take 13 _ rfl (by kernel_rfl) (by kernel_rfl) (by kernel_rfl) (fun _ _ _ h => h) (by rfl) hS (by intro w _; go_simp; with_reducible rfl) ?_
      try simp only [Act.put, List.setIfInBounds_toArray, List.set_cons_zero, List.set_cons_succ]
      refine take 14 _ rfl (by kernel_rfl) (by kernel_rfl) (by kernel_rfl) (fun _ _ _ h => h) (by rfl) hS (by intro w _; go_simp; with_reducible rfl) ?_
      try simp only [Act.put, List.setIfInBounds_toArray, List.set_cons_zero, List.set_cons_succ]
      refine take 15 _ rfl (by kernel_rfl) (by kernel_rfl) (by kernel_rfl) (fun _ _ _ h => h) (by rfl) hS (by intro w hw; have hcl := H2.out w hw; go_simp; with_reducible rfl) ?_
      try simp only [Act.put, List.setIfInBounds_toArray, List.set_cons_zero, List.set_cons_succ]
      refine take 16 (.agg E.toArray) rfl (by kernel_rfl) (by kernel_rfl) (by kernel_rfl) (fun _ _ _ h => h) (by rfl) hS (fun w hw => run_built3 78 0 1 2 (.tmp 16) (.tmp 21) (.tmp 26) rfl (.int .i64 x.k) (.agg K0.toArray) (.int .u64 (x.v : Nat)) rfl rfl rfl _ HEB.out) ?_
      try simp only [Act.put, List.setIfInBounds_toArray, List.set_cons_zero, List.set_cons_succ]
      refine alone 17 rfl (by kernel_rfl) (by rfl) ?_
      intro K hK
      refine wp_rowOne 40 78 (.tmp 27) rfl (.agg E.toArray) rfl Try.underlying40 _ HER.out ?_
      refine hK.out _ _ (by exact below_alloc hS _) ?_
      clear hK K
      try simp only [Act.put, List.setIfInBounds_toArray, List.set_cons_zero, List.set_cons_succ]
      refine alone 18 rfl (by kernel_rfl) (by rfl) ?_
      intro K hK
      change Oper.wp _ _ _ (wr.drew.alloc (.cells E.toArray 78)) _ _
      refine wp_pushS (w := wr.drew) E 34 _ _ 40 78 (.agg (evL noEv).toArray) 48 Try.underlying40 info_rev rfl (by omega) rfl rfl rfl (show wr.drew.ownsRow _ _ _ _ _ _ from HW.out.own) HW.out.bel.size HEL.out.1 HEL.out.2.1 (by omega) (by omega) ?_
      intro A2 c2 w3 hown hbel
      have H3 := Lib.hid (show ErW w l (k + 1) A2 c2 w3 from ⟨by rw [← HEL.out.2.2]; exact hown, HW.out.bel.drew.trans hbel⟩)
      refine hK.out _ _ (by exact HW.out.bel.drew.trans hbel) ?_
      clear hK K hown hbel
      try simp only [Act.put, List.setIfInBounds_toArray, List.set_cons_zero, List.set_cons_succ]
      have hS := H3.out.bel
      refine take 19 _ rfl (by kernel_rfl) (by kernel_rfl) (by kernel_rfl) (fun _ _ _ h => h) (by rfl) hS (by intro w _; go_simp; with_reducible rfl) ?_
      try simp only [Act.put, List.setIfInBounds_toArray, List.set_cons_zero, List.set_cons_succ]
      refine region_end (by kernel_rfl) ?_
      go_wp2_with fail
      go_round
      case rel => exact ⟨k + 1, A2, c2, by omega, by go_num, rfl, H3.out⟩
      case measure => simp only [intOf]; omega
    · obtain rfl : k = n := by omega
      have HO2 := Lib.hid (HO.out wr A' c' (by
        have h := HW.out.own
        rwa [List.take_of_length_le (Nat.le_of_eq HN.out)] at h))
      go_wp2_with fail
      go_ret
      exact ⟨A', c', rfl, HO2.out, HW.out.bel⟩
structure AsW (w : World) (L : List It) (k : Nat) (A : Option Addr) (c : Nat) (X : World) : Prop where
  own : X.ownsRow w.heap.size 81 35 (.slice A k c) k (flatI (L.take k))
  bel : Below w.heap.size w X
theorem AsW.below {w X Y : World} {L : List It} {k c : Nat} {A : Option Addr} (h : AsW w L k A c X) (hb : Below X.heap.size X Y) : AsW w L k A c Y := ⟨own_keep h.own hb, h.bel.trans (hb.mono h.bel.size)⟩
theorem itL_at (x : It) : (∀ (j : Nat) (v : Value), (evL x.e)[j]? = some v → (itL x)[j]? = some v) ∧ (itL x)[34]? = some (.int .u64 (x.lost : Nat)) := by
  refine ⟨fun j v hv => ?_, ?_⟩
  · unfold itL
    rw [List.getElem?_append_left (List.getElem?_eq_some_iff.1 hv).1]
    exact hv
  · unfold itL
    rw [List.getElem?_append_right (by rw [evL_length]; omega), evL_length]
    rfl
theorem it_parts {w : World} {b o : Nat} {x : It} (h : w.rangeAt b o (itL x)) : w.rangeAt b o (evL x.e) ∧ w.cell? ⟨b, o + 34, none⟩ = some (.int .u64 (x.lost : Nat)) :=
  ⟨fun j v hv => h _ _ ((itL_at x).1 j v hv), h 34 _ (itL_at x).2⟩
theorem ritem_row (x : It) : Try.prog.builtSlice 81 1 [(0, .agg (itL x).toArray)] = some (itL x).toArray := by kernel_rfl
set_option maxRecDepth 100000 in
set_option maxHeartbeats 4000000 in
theorem as_any {w : World} {v : Value} {L : List It} (h : Its w v L) (hL : L.length ≤ 1000) :
    Calls Try.prog 20 #[v] w fun e w' => ∃ A' c', e = .returned (.slice A' L.length c') ∧ OwI w' w.heap.size A' c' L ∧ Below w.heap.size w w' := by
  obtain ⟨A, rfl, hr⟩ := h.range
  have HR := Lib.hid hr
  have HO := Lib.hid (fun (w' : World) (A' : Option Addr) (c' : Nat) (h : w'.ownsRow w.heap.size 81 35 (.slice A' L.length c') L.length (flatI L)) => (show OwI w' w.heap.size A' c' L from h))
  obtain ⟨n, hn⟩ : ∃ n, L.length = n := ⟨_, rfl⟩
  rw [hn] at hL HO ⊢
  have HN := Lib.hid hn
  clear h hn hr
  go_enter Try.func20, Try.ntmps20
  go_wp2_with fail
  go_loopw [3, 4, 5] (fun out i _ X => ∃ k A' c', k ≤ n ∧ i = .int .i64 (k : Nat) ∧ out = .slice A' k c' ∧ AsW w L k A' c' X) (fun _ i _ _ => n - (intOf i).toNat)
  case atStart => exact ⟨0, none, 0, Nat.zero_le _, rfl, rfl, ⟨⟨rfl, .inl ⟨rfl, rfl⟩⟩, Below.refl _ _⟩⟩
  case round =>
    obtain ⟨k, A', c', hk, rfl, rfl, hW⟩ := hrel
    have HW := Lib.hid hW
    clear hW
    by_cases hlt : k < n
    · have hkL : k < L.length := by rw [HN.out]; exact hlt
      have hx := List.getElem?_eq_getElem hkL
      have hts : L.take (k + 1) = L.take k ++ [L[k]] := List.take_succ_eq_append_getElem hkL
      generalize L[k] = x at hx hts
      obtain ⟨b, off, rfl, hgl, hrg⟩ := HR.out k x hx
      obtain ⟨q0, q1⟩ := it_parts hrg
      have hwr := HW.out.bel
      have HLD := Lib.hid (range_below q0 hwr hgl)
      have HGL := Lib.hid (Nat.lt_of_lt_of_le hgl hwr.size)
      have HLO := Lib.hid (show ∀ V, Below w.heap.size w V → V.cell? ⟨b, off + k * 35 + 34, none⟩ = some (.int .u64 (x.lost : Nat)) from fun V hV => (hV.cell hgl).trans q1)
      have HPA := Lib.hid (fun (V : World) (N : Nat) (hV : Whole V N 45 (evL x.e).toArray) => (ev_parts (w := V) (b := N) (o := 0) (e := x.e) (fun j v hv => by rw [Nat.zero_add]; exact (hV.cell j).trans (by rw [List.getElem?_toArray]; exact hv))))
      have HEB := Lib.hid (revent_built x.e.k x.e.f x.e.v)
      have HIB := Lib.hid (ritem_built x.e x.lost)
      have HER := Lib.hid (ritem_row x)
      have HEL := Lib.hid (show (itL x).length = 35 ∧ (∀ u ∈ itL x, u.oneCell' = true) ∧ flatI (L.take k) ++ itL x = flatI (L.take (k + 1)) from ⟨itL_length _, itL_each _, by rw [hts, flatI_append, flatI_one]⟩)
      have HEQ := Lib.hid (show evL ⟨x.e.k, x.e.f, x.e.v⟩ = evL x.e ∧ itL ⟨x.e, x.lost⟩ = itL x from ⟨rfl, rfl⟩)
      rw [HEQ.out.1] at HEB
      rw [HEQ.out.2] at HIB
      obtain ⟨I, hI⟩ : ∃ I, itL x = I := ⟨_, rfl⟩
      obtain ⟨E, hE⟩ : ∃ E, evL x.e = E := ⟨_, rfl⟩
      have HEO := Lib.hid (show E.toArray.all (·.oneCell') = true by rw [← hE]; exact evL_one x.e)
      have HE34 := Lib.hid (show E.length = 34 by rw [← hE, evL_length])
      rw [hE] at HEB HIB HLD HPA
      rw [hI] at HIB HER HEL
      obtain ⟨K0, hK0⟩ : ∃ K0, byteCells x.e.f 32 = K0 := ⟨_, rfl⟩
      have HKL := Lib.hid (show K0.length = 32 by rw [← hK0, byteCells_length])
      rw [hK0] at HEB HPA
      clear hx hts hgl hrg hkL q0 q1 HEQ hE hK0 hI hwr
      have hz := zero_ev
      obtain ⟨Z, hZ⟩ : ∃ Z, (evL noEv).toArray = Z := ⟨_, rfl⟩
      have HZS := Lib.hid (show Z.size = 34 by rw [← hZ, List.size_toArray, evL_length])
      rw [hZ] at hz
      clear hZ
      go_upto_region 6 with (first | (refine wpList_load_mid rfl 45 (.tmp 15) rfl b (off + k * 35) rfl E _ HLD.out rfl rfl (by rw [HE34.out]; kernel_rfl) ?_) | (refine wpList_store_row rfl 45 (.tmp 5) (.tmp 16) rfl wr.heap.size E.toArray rfl rfl 45 _ (Whole.new _ _ _) (by rw [List.size_toArray, HE34.out]; kernel_rfl) (by rw [HZS.out, List.size_toArray, HE34.out]) HEO.out ?_))
      try simp only [Act.put]
      refine cut_world (fun X => AsW w L k A' c' X ∧ Whole X wr.heap.size 45 E.toArray) ⟨HW.out.below (below_setRow (below_alloc (Below.refl _ _) _) (Nat.le_refl _) _), setRow_heap _ _ _ _ _ _ (Whole.new _ _ _)⟩ ?_
      rintro W ⟨hX, hXE⟩
      have HX := Lib.hid hX
      have HXE := Lib.hid hXE
      generalize wr.heap.size = N at HXE ⊢
      clear hX hXE HW hz HZS HLD HGL
      refine region_drew (fun V => Below w.heap.size w V ∧ Whole V N 45 E.toArray) (by kernel_rfl) ⟨HX.out.bel.drew, HXE.out⟩ (fun hS => ?_)
      refine take 0 _ rfl (by kernel_rfl) (by kernel_rfl) (by kernel_rfl) (fun _ _ _ h => h) (by rfl) hS (by intro w _; go_simp; with_reducible rfl) ?_
      try simp only [Act.put, List.setIfInBounds_toArray, List.set_cons_zero, List.set_cons_succ]
      refine take 1 _ rfl (by kernel_rfl) (by kernel_rfl) (by kernel_rfl) (fun _ _ _ h => h) (by rfl) hS (by intro w _; go_simp; with_reducible rfl) ?_
      try simp only [Act.put, List.setIfInBounds_toArray, List.set_cons_zero, List.set_cons_succ]
      refine take 2 _ rfl (by kernel_rfl) (by kernel_rfl) (by kernel_rfl) (fun _ _ _ h => h) (by rfl) hS (by intro w hw; have hcl := (by have h0 := (HPA.out w N hw.2).1; exact h0); go_simp; with_reducible rfl) ?_
      try simp only [Act.put, List.setIfInBounds_toArray, List.set_cons_zero, List.set_cons_succ]
      refine take 3 _ rfl (by kernel_rfl) (by kernel_rfl) (by kernel_rfl) (fun _ _ _ h => h) (by rfl) hS (by intro w _; go_simp; with_reducible rfl) ?_
      try simp only [Act.put, List.setIfInBounds_toArray, List.set_cons_zero, List.set_cons_succ]
      refine take 4 (.agg K0.toArray) rfl (by kernel_rfl) (by kernel_rfl) (by kernel_rfl) (fun _ _ _ h => h) (by rfl) hS (fun w hw => run_load_mid_op 43 (.tmp 20) rfl N 1 rfl K0 _ (by have h0 := (HPA.out w N hw.2).2.1; exact h0) rfl rfl (by rw [HKL.out]; kernel_rfl)) ?_
      try simp only [Act.put, List.setIfInBounds_toArray, List.set_cons_zero, List.set_cons_succ]
      refine take 5 _ rfl (by kernel_rfl) (by kernel_rfl) (by kernel_rfl) (fun _ _ _ h => h) (by rfl) hS (by intro w _; go_simp; with_reducible rfl) ?_
      try simp only [Act.put, List.setIfInBounds_toArray, List.set_cons_zero, List.set_cons_succ]
      refine take 6 _ rfl (by kernel_rfl) (by kernel_rfl) (by kernel_rfl) (fun _ _ _ h => h) (by rfl) hS (by intro w hw; have hcl := (by have h0 := (HPA.out w N hw.2).2.2; exact h0); go_simp; with_reducible rfl) ?_
      try simp only [Act.put, List.setIfInBounds_toArray, List.set_cons_zero, List.set_cons_succ]
      refine take 7 (.agg E.toArray) rfl (by kernel_rfl) (by kernel_rfl) (by kernel_rfl) (fun _ _ _ h => h) (by rfl) hS (fun w hw => run_built3 78 0 1 2 (.tmp 19) (.tmp 21) (.tmp 23) rfl (.int .i64 x.e.k) (.agg K0.toArray) (.int .u64 (x.e.v : Nat)) rfl rfl rfl _ HEB.out) ?_
      try simp only [Act.put, List.setIfInBounds_toArray, List.set_cons_zero, List.set_cons_succ]
      refine take 8 _ rfl (by kernel_rfl) (by kernel_rfl) (by kernel_rfl) (fun _ _ _ h => h) (by rfl) hS (by intro w _; go_simp; with_reducible rfl) ?_
      try simp only [Act.put, List.setIfInBounds_toArray, List.set_cons_zero, List.set_cons_succ]
      refine take 9 _ rfl (by kernel_rfl) (by kernel_rfl) (by kernel_rfl) (fun _ _ _ h => h) (by rfl) hS (by intro w _; go_simp; with_reducible rfl) ?_
      try simp only [Act.put, List.setIfInBounds_toArray, List.set_cons_zero, List.set_cons_succ]
      refine take 10 _ rfl (by kernel_rfl) (by kernel_rfl) (by kernel_rfl) (fun _ _ _ h => h) (by rfl) hS (by intro w _; go_simp; with_reducible rfl) ?_
      try simp only [Act.put, List.setIfInBounds_toArray, List.set_cons_zero, List.set_cons_succ]
      refine take 11 _ rfl (by kernel_rfl) (by kernel_rfl) (by kernel_rfl) (fun _ _ _ h => h) (by rfl) hS (by intro w _; go_simp; with_reducible rfl) ?_
      try simp only [Act.put, List.setIfInBounds_toArray, List.set_cons_zero, List.set_cons_succ]
      refine take 12 _ rfl (by kernel_rfl) (by kernel_rfl) (by kernel_rfl) (fun _ _ _ h => h) (by rfl) hS (by intro w hw; have hcl := HLO.out w hw.1; go_simp; with_reducible rfl) ?_
      try simp only [Act.put, List.setIfInBounds_toArray, List.set_cons_zero, List.set_cons_succ]
      refine take 13 (.agg I.toArray) rfl (by kernel_rfl) (by kernel_rfl) (by kernel_rfl) (fun _ _ _ h => h) (by rfl) hS (fun w hw => run_built2 81 0 1 (.tmp 24) (.tmp 29) rfl (.agg E.toArray) (.int .u64 (x.lost : Nat)) rfl rfl _ HIB.out) ?_
      try simp only [Act.put, List.setIfInBounds_toArray, List.set_cons_zero, List.set_cons_succ]
      refine alone 14 rfl (by kernel_rfl) (by rfl) ?_
      intro K hK
      refine wp_rowOne 49 81 (.tmp 30) rfl (.agg I.toArray) rfl Try.underlying49 _ HER.out ?_
      refine hK.out _ _ (by exact ⟨below_alloc hS.1 _, hS.2.alloc _⟩) ?_
      clear hK K
      try simp only [Act.put, List.setIfInBounds_toArray, List.set_cons_zero, List.set_cons_succ]
      refine alone 15 rfl (by kernel_rfl) (by rfl) ?_
      intro K hK
      change Oper.wp _ _ _ (W.drew.alloc (.cells I.toArray 81)) _ _
      obtain ⟨i0, hi, hz0, hz1, hz2⟩ := info_parts info_ritem
      refine wp_append_own _ (.tmp 17) (.tmp 31) 49 rfl w.heap.size 81 i0 _ 35 56 Try.underlying49 hi hz0 hz1 hz2 rfl (by decide) (.slice A' k c') k (flatI (L.take k)) rfl (World.ownsRow.alloc (show W.drew.ownsRow _ _ _ _ _ _ from HX.out.own) _) ⟨W.drew.heap.size, 0, none⟩ 1 1 I rfl (by rw [Nat.one_mul]; exact HEL.out.1) (news_new _ _ _) HEL.out.2.1 (by simp only [maxLen]; omega) (by omega) (by have := HX.out.bel.size; simp; omega) ?_
      intro v' w3 g1 g2 _
      have hown0 : (W.drew.alloc (.cells I.toArray 81)).ownsRow w.heap.size 81 35 (.slice A' k c') k (flatI (L.take k)) := World.ownsRow.alloc (show W.drew.ownsRow _ _ _ _ _ _ from HX.out.own) _
      have hbel := keeps_row hown0 (below_alloc (Below.drew HX.out.bel) _) g2 (by have := HX.out.bel.size; simp; omega)
      have hN3 : Whole w3 N 45 E.toArray := by
        have hw : Whole (W.drew.alloc (.cells I.toArray 81)) N 45 E.toArray := Whole.alloc HXE.out _
        refine (g2.block N hw.lt (fun e => ?_)).trans hw
        obtain ⟨cs, hc⟩ := own_whole hown0 e.symm
        exact absurd (whole_type hw hc) (by decide)
      rcases g1.2 with ⟨_, h0⟩ | ⟨g3, cap, cur, rfl, r3⟩
      · omega
      have H3 := Lib.hid (show AsW w L (k + 1) (some ⟨g3, 0, none⟩) cap w3 from ⟨by rw [← HEL.out.2.2]; exact g1, hbel⟩)
      have HS3 := Lib.hid (show Below w.heap.size w w3 ∧ Whole w3 N 45 E.toArray from ⟨hbel, hN3⟩)
      refine hK.out _ _ HS3.out ?_
      clear hK K hown0 hbel hN3 g1 g2 r3
      try simp only [Act.put, List.setIfInBounds_toArray, List.set_cons_zero, List.set_cons_succ]
      have hS := HS3.out
      refine take 16 _ rfl (by kernel_rfl) (by kernel_rfl) (by kernel_rfl) (fun _ _ _ h => h) (by rfl) hS (by intro w _; go_simp; with_reducible rfl) ?_
      try simp only [Act.put, List.setIfInBounds_toArray, List.set_cons_zero, List.set_cons_succ]
      refine region_end (by kernel_rfl) ?_
      go_wp2_with fail
      go_round
      case rel => exact ⟨k + 1, _, _, by omega, by go_num, rfl, H3.out⟩
      case measure => simp only [intOf]; omega
    · obtain rfl : k = n := by omega
      have HO2 := Lib.hid (HO.out wr A' c' (by
        have h := HW.out.own
        rwa [List.take_of_length_le (Nat.le_of_eq HN.out)] at h))
      go_wp2_with fail
      go_ret
      exact ⟨A', c', rfl, HO2.out, HW.out.bel⟩
end Fee
end Go.Proofs.Ytlbfjdpcnnplnaa
