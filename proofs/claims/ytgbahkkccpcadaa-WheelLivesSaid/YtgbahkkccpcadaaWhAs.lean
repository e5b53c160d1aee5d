/- Packages aditlaw21 and aditref21: As, Same. -/
import Derived.Test.YtgbahkkccpcadaaWhAlive
namespace Go.Proofs.Ytgbahkkccpcadaa
namespace Wh
open Go.ChangeShapes Go.WideShapes Go.ChangeAt Go.RowKit Go.Maps
open Num Mem Words Chacha Aead Poly Quiet RowV RowS Ops EqLits Stamp

/-- a row of timers that can be read -/
def RdT (w : World) (A : Option Addr) (L : List Tm) : Prop := ∀ k x, L[k]? = some x → ∃ g, A = some ⟨g, 0, none⟩ ∧ g < w.heap.size ∧ w.rangeAt g (k * 3) (tmL x)
theorem RdT.below {w w' : World} {A : Option Addr} {L : List Tm} (h : RdT w A L) (hb : Below w.heap.size w w') : RdT w' A L := fun k x hx => by
  obtain ⟨g, e, hl, hr⟩ := h k x hx
  exact ⟨g, e, Nat.lt_of_lt_of_le hl hb.size, range_below hr hb hl⟩
theorem RdT.own {w : World} {B c : Nat} {e : TypeId} {A : Option Addr} {L : List Tm} (h : w.ownsRow B e 3 (.slice A L.length c) L.length (flatT L)) : RdT w A L := fun k x hx => by
  have hk : k < L.length := (List.getElem?_eq_some_iff.1 hx).1
  obtain ⟨g, e, _, hl, hc⟩ := own_cells h (by omega)
  refine ⟨g, e, hl, fun j v hj => ?_⟩
  have hj3 : j < 3 := (List.getElem?_eq_some_iff.1 hj).1
  exact (hc (k * 3 + j) v (by rw [flatT_get L k j x hx hj3]; exact hj)).1
theorem infoR : (Try.prog.info? 43).map (fun i => (i.zero, i.size, i.bytes)) = some (some (.agg zeroT.toArray), 3, 24) := by kernel_rfl
theorem builtR (o k t : Int) : Try.prog.built 43 [(0, .int .i64 o), (1, .int .i64 k), (2, .int .i64 t)] = some #[.int .i64 o, .int .i64 k, .int .i64 t] := by kernel_rfl
theorem run_built3 {P : Program} {o : Oper} {a : Act} {w : World} (t : TypeId) (k m l : Nat) (x y z : Operand) (ho : o.op = .build t #[(k, x), (m, y), (l, z)])
    (v u s : Value) (hx : a.eval x = v) (hy : a.eval y = u) (hz : a.eval z = s) (vs : Array Value) (hb : P.built t [(k, v), (m, u), (l, s)] = some vs) : (execOp a.eval o).run P w = .ok (.value (.agg vs)) w := by
  have e : P.built t ((#[(k, x), (m, y), (l, z)] : Array (Nat × Operand)).map fun (i, x) => (i, a.eval x)).toList = some vs := by simpa [hx, hy, hz] using hb
  unfold execOp
  simp only [ho, Sem.run_bind, run_build w t _ vs e, Result.andThen_ok, Sem.run_pure]
/-- the world in the loop -/
structure AsW (w : World) (L : List Tm) (k : Nat) (A : Option Addr) (c : Nat) (X : World) : Prop where
  row : X.ownsRow w.heap.size 43 3 (.slice A k c) k (flatT (L.take k))
  bel : Below w.heap.size w X
set_option maxRecDepth 100000 in
set_option maxHeartbeats 4000000 in
theorem as_any {w : World} {A : Option Addr} {L : List Tm} (c : Nat) (h : RdT w A L) (hL : L.length ≤ 1000) :
    Calls Try.prog 15 #[.slice A L.length c] w fun e w' => ∃ A' c', e = .returned (.slice A' L.length c') ∧ w'.ownsRow w.heap.size 43 3 (.slice A' L.length c') L.length (flatT L) ∧ Below w.heap.size w w' := by
  have HR := Lib.hid h
  obtain ⟨n, hn⟩ : ∃ n, L.length = n := ⟨_, rfl⟩
  rw [hn] at hL ⊢
  have HN := Lib.hid hn
  clear h hn
  go_enter Try.func15, Try.ntmps15
  go_wp2_with fail
  go_loopw [3, 4] (fun out i X => ∃ k A' c', k ≤ n ∧ i = .int .i64 (k : Nat) ∧ out = .slice A' k c' ∧ AsW w L k A' c' X) (fun _ i _ => n - (intOf i).toNat)
  case atStart => exact ⟨0, none, 0, Nat.zero_le _, rfl, rfl, ⟨⟨rfl, .inl ⟨rfl, rfl⟩⟩, Below.refl _ _⟩⟩
  case round =>
    obtain ⟨k, A', c', hk, rfl, rfl, hW⟩ := hrel
    have HW := Lib.hid hW
    clear hW
    by_cases hlt : k < n
    · have hkL : k < L.length := by rw [HN.out]; exact hlt
      have hx := List.getElem?_eq_getElem hkL
      have hts : L.take (k + 1) = L.take k ++ [L[k]] := List.take_succ_eq_append_getElem hkL
      generalize L[k] = x at hx hts
      obtain ⟨g, rfl, hgl, hrg⟩ := HR.out k x hx
      have HTS := Lib.hid hts
      have HG := Lib.hid hgl
      have HRG := Lib.hid hrg
      have h0 : ∀ V, Below w.heap.size w V → V.cell? ⟨g, k * 3, none⟩ = some (.int .i64 x.o) := fun V hV => (range_below hrg hV hgl) 0 _ rfl
      have h1 : ∀ V, Below w.heap.size w V → V.cell? ⟨g, k * 3 + 1, none⟩ = some (.int .i64 x.k) := fun V hV => (range_below hrg hV hgl) 1 _ rfl
      have h2 : ∀ V, Below w.heap.size w V → V.cell? ⟨g, k * 3 + 2, none⟩ = some (.int .i64 x.t) := fun V hV => (range_below hrg hV hgl) 2 _ rfl
      have H0 := Lib.hid h0
      have H1 := Lib.hid h1
      have H2 := Lib.hid h2
      clear hx hts hgl hrg h0 h1 h2 hkL
      go_upto_region 5 with fail
      refine region_drew (fun V => Below w.heap.size w V) (by kernel_rfl) HW.out.bel.drew (fun hS => ?_)
      refine take 0 _ rfl (by kernel_rfl) (by kernel_rfl) (by kernel_rfl) (fun _ _ _ h => h) (by rfl) hS (by intro w _; go_simp; with_reducible rfl) ?_
      try simp only [Act.put, List.setIfInBounds_toArray, List.set_cons_zero, List.set_cons_succ]
      refine take 1 _ rfl (by kernel_rfl) (by kernel_rfl) (by kernel_rfl) (fun _ _ _ h => h) (by rfl) hS (by intro w _; go_simp; with_reducible rfl) ?_
      try simp only [Act.put, List.setIfInBounds_toArray, List.set_cons_zero, List.set_cons_succ]
      refine take 2 _ rfl (by kernel_rfl) (by kernel_rfl) (by kernel_rfl) (fun _ _ _ h => h) (by rfl) hS (by intro w _; go_simp; with_reducible rfl) ?_
      try simp only [Act.put, List.setIfInBounds_toArray, List.set_cons_zero, List.set_cons_succ]
      refine take 3 _ rfl (by kernel_rfl) (by kernel_rfl) (by kernel_rfl) (fun _ _ _ h => h) (by rfl) hS (by intro w _; go_simp; with_reducible rfl) ?_
      try simp only [Act.put, List.setIfInBounds_toArray, List.set_cons_zero, List.set_cons_succ]
      refine take 4 _ rfl (by kernel_rfl) (by kernel_rfl) (by kernel_rfl) (fun _ _ _ h => h) (by rfl) hS (by intro w _; go_simp; with_reducible rfl) ?_
      try simp only [Act.put, List.setIfInBounds_toArray, List.set_cons_zero, List.set_cons_succ]
      refine take 5 _ rfl (by kernel_rfl) (by kernel_rfl) (by kernel_rfl) (fun _ _ _ h => h) (by rfl) hS (by intro w hw; have hcl := H0.out w hw; go_simp; with_reducible rfl) ?_
      try simp only [Act.put, List.setIfInBounds_toArray, List.set_cons_zero, List.set_cons_succ]
      refine take 6 _ rfl (by kernel_rfl) (by kernel_rfl) (by kernel_rfl) (fun _ _ _ h => h) (by rfl) hS (by intro w _; go_simp; with_reducible rfl) ?_
      try simp only [Act.put, List.setIfInBounds_toArray, List.set_cons_zero, List.set_cons_succ]
      refine take 7 _ rfl (by kernel_rfl) (by kernel_rfl) (by kernel_rfl) (fun _ _ _ h => h) (by rfl) hS (by intro w _; go_simp; with_reducible rfl) ?_
      try simp only [Act.put, List.setIfInBounds_toArray, List.set_cons_zero, List.set_cons_succ]
      refine take 8 _ rfl (by kernel_rfl) (by kernel_rfl) (by kernel_rfl) (fun _ _ _ h => h) (by rfl) hS (by intro w _; go_simp; with_reducible rfl) ?_
      try simp only [Act.put, List.setIfInBounds_toArray, List.set_cons_zero, List.set_cons_succ]
      refine take 9 _ rfl (by kernel_rfl) (by kernel_rfl) (by kernel_rfl) (fun _ _ _ h => h) (by rfl) hS (by intro w _; go_simp; with_reducible rfl) ?_
      try simp only [Act.put, List.setIfInBounds_toArray, List.set_cons_zero, List.set_cons_succ]
      refine take 10 _ rfl (by kernel_rfl) (by kernel_rfl) (by kernel_rfl) (fun _ _ _ h => h) (by rfl) hS (by intro w hw; have hcl := H1.out w hw; go_simp; with_reducible rfl) ?_
      try simp only [Act.put, List.setIfInBounds_toArray, List.set_cons_zero, List.set_cons_succ]
      refine take 11 _ rfl (by kernel_rfl) (by kernel_rfl) (by kernel_rfl) (fun _ _ _ h => h) (by rfl) hS (by intro w _; go_simp; with_reducible rfl) ?_
      try simp only [Act.put, List.setIfInBounds_toArray, List.set_cons_zero, List.set_cons_succ]
      refine take 12 _ rfl (by kernel_rfl) (by kernel_rfl) (by kernel_rfl) (fun _ _ _ h => h) (by rfl) hS (by intro w _; go_simp; with_reducible rfl) ?_
      try simp only [Act.put, List.setIfInBounds_toArray, List.set_cons_zero, List.set_cons_succ]
      refine take 13 _ rfl (by kernel_rfl) (by kernel_rfl) (by kernel_rfl) (fun _ _ _ h => h) (by rfl) hS (by intro w _; go_simp; with_reducible rfl) ?_
      try simp only [Act.put, List.setIfInBounds_toArray, List.set_cons_zero, List.set_cons_succ]
      refine take 14 _ rfl (by kernel_rfl) (by kernel_rfl) (by kernel_rfl) (fun _ _ _ h => h) (by rfl) hS (by intro w _; go_simp; with_reducible rfl) ?_
      try simp only [Act.put, List.setIfInBounds_toArray, List.set_cons_zero, List.set_cons_succ]
      refine take 15 _ rfl (by kernel_rfl) (by kernel_rfl) (by kernel_rfl) (fun _ _ _ h => h) (by rfl) hS (by intro w hw; have hcl := H2.out w hw; go_simp; with_reducible rfl) ?_
      try simp only [Act.put, List.setIfInBounds_toArray, List.set_cons_zero, List.set_cons_succ]
      refine take 16 (.agg #[.int .i64 x.o, .int .i64 x.k, .int .i64 x.t]) rfl (by kernel_rfl) (by kernel_rfl) (by kernel_rfl) (fun _ _ _ h => h) (by rfl) hS (fun w hw => run_built3 43 0 1 2 (.tmp 16) (.tmp 21) (.tmp 26) rfl (.int .i64 x.o) (.int .i64 x.k) (.int .i64 x.t) rfl rfl rfl _ (builtR x.o x.k x.t)) ?_
      try simp only [Act.put, List.setIfInBounds_toArray, List.set_cons_zero, List.set_cons_succ]
      refine alone 17 rfl (by kernel_rfl) (by rfl) ?_
      intro K hK
      go_simp
      refine hK.out _ _ (by exact below_alloc hS _) ?_
      clear hK K
      try simp only [Act.put, List.setIfInBounds_toArray, List.set_cons_zero, List.set_cons_succ]
      refine alone 18 rfl (by kernel_rfl) (by rfl) ?_
      intro K hK
      obtain ⟨i0, hi0, hz0, hz1, hz2⟩ := info_parts infoR
      change Oper.wp _ _ _ (wr.drew.alloc (.cells (tmL x).toArray 43)) _ _
      refine wp_pushS (w := wr.drew) (tmL x) 3 _ _ 29 43 (.agg zeroT.toArray) 24 Try.underlying29 infoR rfl (by omega) rfl rfl rfl (show wr.drew.ownsRow _ _ _ _ _ _ from HW.out.row) HW.out.bel.size rfl (tm_each x) (by omega) (by omega) ?_
      intro A2 c2 w3 hown hbel
      have H3 := Lib.hid (show AsW w L (k + 1) A2 c2 w3 from ⟨by rw [HTS.out, flatT_append, flatT_one]; exact hown, HW.out.bel.drew.trans hbel⟩)
      refine hK.out _ _ (by exact HW.out.bel.drew.trans hbel) ?_
      clear hK K hown hbel
      try simp only [Act.put, List.setIfInBounds_toArray, List.set_cons_zero, List.set_cons_succ]
      have hS := H3.out.bel
      refine take 19 _ rfl (by kernel_rfl) (by kernel_rfl) (by kernel_rfl) (fun _ _ _ h => h) (by rfl) hS (by intro w _; go_simp; with_reducible rfl) ?_
      try simp only [Act.put, List.setIfInBounds_toArray, List.set_cons_zero, List.set_cons_succ]
      refine region_end (by kernel_rfl) ?_
      go_wp2_with fail
      go_round
      case rel => exact ⟨k + 1, A2, c2, by omega, by go_num, rfl, H3.out⟩
      case measure => simp only [intOf]; omega
    · obtain rfl : k = n := by omega
      go_wp2_with fail
      go_ret
      refine ⟨A', c', rfl, ?_, HW.out.bel⟩
      have h := HW.out.row
      rw [List.take_of_length_le (Nat.le_of_eq HN.out)] at h
      exact h

set_option maxRecDepth 100000 in
set_option maxHeartbeats 4000000 in
theorem same_any {w : World} {A A2 : Option Addr} {L M : List Tm} (c c2 : Nat) (h : RdT w A L) (h2 : RdT w A2 M) (hL : L.length ≤ 1000) (hM : M.length ≤ 1000) :
    Calls Try.prog 20 #[.slice A L.length c, .slice A2 M.length c2] w fun e w' => e = .returned (.bool (decide (L = M))) ∧ Below w.heap.size w w' := by
  obtain ⟨n, hn⟩ : ∃ n, L.length = n := ⟨_, rfl⟩
  obtain ⟨m, hm⟩ : ∃ m, M.length = m := ⟨_, rfl⟩
  obtain ⟨r, hr⟩ : ∃ r, decide (L = M) = r := ⟨_, rfl⟩
  rw [hr]
  have HR := Lib.hid hr
  have HA := Lib.hid h
  have HB := Lib.hid h2
  have HN := Lib.hid hn
  have HM := Lib.hid hm
  rw [hn] at hL ⊢
  rw [hm] at hM ⊢
  clear h h2 hn hm hr
  by_cases hnm : n = m
  · subst hnm
    go_enter Try.func20, Try.ntmps20
    go_wp2_with fail
    go_loopw [5] (fun i X => ∃ k : Nat, k ≤ n ∧ i = .int .i64 k ∧ L.take k = M.take k ∧ Below w.heap.size w X) (fun i _ => n - (intOf i).toNat)
    case atStart => exact ⟨0, Nat.zero_le _, rfl, rfl, Below.refl _ _⟩
    case round =>
      obtain ⟨k, hk, rfl, heq, hb⟩ := hrel
      have HE := Lib.hid heq
      have HBL := Lib.hid hb
      clear heq hb
      by_cases hlt : k < n
      · have hkL : k < L.length := by rw [HN.out]; exact hlt
        have hkM : k < M.length := by rw [HM.out]; exact hlt
        have hx := List.getElem?_eq_getElem hkL
        have hy := List.getElem?_eq_getElem hkM
        have h1 : L.take (k + 1) = L.take k ++ [L[k]] := List.take_succ_eq_append_getElem hkL
        have h2 : M.take (k + 1) = M.take k ++ [M[k]] := List.take_succ_eq_append_getElem hkM
        generalize L[k] = x at hx h1
        generalize M[k] = y at hy h2
        obtain ⟨g, rfl, hgl, hrg⟩ := HA.out k x hx
        obtain ⟨g2, rfl, hgl2, hrg2⟩ := HB.out k y hy
        have HX := Lib.hid hx
        have HY := Lib.hid hy
        have H1 := Lib.hid h1
        have H2 := Lib.hid h2
        have HG1 := Lib.hid (range_below hrg HBL.out hgl)
        have HG2 := Lib.hid (range_below hrg2 HBL.out hgl2)
        have HL1 := Lib.hid (Nat.lt_of_lt_of_le hgl HBL.out.size)
        have HL2 := Lib.hid (Nat.lt_of_lt_of_le hgl2 HBL.out.size)
        clear hx hy h1 h2 hgl hrg hgl2 hrg2 hkL hkM
        obtain ⟨U, hU⟩ : ∃ U, (tmL x).toArray = U := ⟨_, rfl⟩
        obtain ⟨V, hV⟩ : ∃ V, (tmL y).toArray = V := ⟨_, rfl⟩
        have HU := Lib.hid hU
        have HV := Lib.hid hV
        obtain ⟨q, hq⟩ : ∃ q, (!decide (x = y)) = q := ⟨_, rfl⟩
        have HQ := Lib.hid hq
        have HEQ := Lib.hid (fun w => eqin_rtm 9997 x y w)
        rw [hU, hV] at HEQ
        clear hU hV hq
        go_upto_region 6 with fail
        refine q_start (by kernel_rfl) (by kernel_rfl) ?_
        refine Ops.wq_in ?_
        refine Ops.wq_take _ (by rfl) (fun X hx => by go_simp; try with_reducible rfl) ?_
        try simp only [Act.put, List.setIfInBounds_toArray, List.set_cons_zero, List.set_cons_succ]
        refine Ops.wq_take _ (by rfl) (fun X hx => by go_simp; try with_reducible rfl) ?_
        try simp only [Act.put, List.setIfInBounds_toArray, List.set_cons_zero, List.set_cons_succ]
        refine Ops.wq_take _ (by rfl) (fun X hx => by go_simp; try with_reducible rfl) ?_
        try simp only [Act.put, List.setIfInBounds_toArray, List.set_cons_zero, List.set_cons_succ]
        refine Ops.wq_take (.agg U) (by rfl) (fun X hx => by rw [← HU.out]; exact run_mid_in 43 (.tmp 19) rfl g (k * 3) (by go_simp) (tmL x) _ (range_below HG1.out hx HL1.out) rfl rfl (by kernel_rfl)) ?_
        try simp only [Act.put, List.setIfInBounds_toArray, List.set_cons_zero, List.set_cons_succ]
        refine Ops.wq_take _ (by rfl) (fun X hx => by go_simp; try with_reducible rfl) ?_
        try simp only [Act.put, List.setIfInBounds_toArray, List.set_cons_zero, List.set_cons_succ]
        refine Ops.wq_take _ (by rfl) (fun X hx => by go_simp; try with_reducible rfl) ?_
        try simp only [Act.put, List.setIfInBounds_toArray, List.set_cons_zero, List.set_cons_succ]
        refine Ops.wq_take _ (by rfl) (fun X hx => by go_simp; try with_reducible rfl) ?_
        try simp only [Act.put, List.setIfInBounds_toArray, List.set_cons_zero, List.set_cons_succ]
        refine Ops.wq_take (.agg V) (by rfl) (fun X hx => by rw [← HV.out]; exact run_mid_in 43 (.tmp 23) rfl g2 (k * 3) (by go_simp) (tmL y) _ (range_below HG2.out hx HL2.out) rfl rfl (by kernel_rfl)) ?_
        try simp only [Act.put, List.setIfInBounds_toArray, List.set_cons_zero, List.set_cons_succ]
        refine Ops.wq_take (.bool q) (by rfl) (fun X hx => Ops.run_neq_op 43 (.tmp 20) (.tmp 24) 43 rfl U V rfl rfl (decide (x = y)) q HQ.out.symm (by kernel_rfl) (fun w => HEQ.out w) X) ?_
        try simp only [Act.put, List.setIfInBounds_toArray, List.set_cons_zero, List.set_cons_succ]
        refine Ops.wq_end ?_
        intro w2 hb2
        have HB2 := Lib.hid (below_trans HBL.out hb2)
        clear HBL hb2 HG1 HG2 HL1 HL2
        by_cases he : x = y
        · obtain rfl : q = false := by rw [← HQ.out, decide_eq_true he]; rfl
          go_wp2_with fail
          go_round
          case rel => exact ⟨k + 1, by omega, by go_num, by rw [H1.out, H2.out, HE.out, he], HB2.out⟩
          case measure => simp only [intOf]; omega
        · obtain rfl : q = true := by rw [← HQ.out, decide_eq_false he]; rfl
          obtain rfl : r = false := by
            rw [← HR.out]
            refine decide_eq_false fun e => he ?_
            have h := HX.out
            rw [e, HY.out] at h
            exact (Option.some.inj h).symm
          go_wp2_with fail
          go_ret
          exact ⟨rfl, HB2.out⟩
      · obtain rfl : k = n := by omega
        obtain rfl : r = true := by
          rw [← HR.out]
          refine decide_eq_true ?_
          have h := HE.out
          rw [List.take_of_length_le (Nat.le_of_eq HN.out), List.take_of_length_le (Nat.le_of_eq HM.out)] at h
          exact h
        go_wp2_with fail
        go_ret
        exact ⟨rfl, HBL.out⟩
  · obtain rfl : r = false := by
      rw [← HR.out]
      refine decide_eq_false fun e => hnm ?_
      rw [← HN.out, ← HM.out, e]
    have hne : ¬ ((n : Int) = (m : Int)) := by omega
    go_enter Try.func20, Try.ntmps20
    go_wp2_with fail
    go_ret
    exact ⟨rfl, Below.refl _ _⟩
end Wh
end Go.Proofs.Ytgbahkkccpcadaa
