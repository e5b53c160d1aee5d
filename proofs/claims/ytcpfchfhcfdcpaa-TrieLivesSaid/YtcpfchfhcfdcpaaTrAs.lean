/- aditlaw14.As, aditref14.Same: rows of routes. -/
import Derived.Test.YtcpfchfhcfdcpaaTrEq
namespace Go.Proofs.Ytcpfchfhcfdcpaa
namespace Tri
open Go.ChangeShapes Go.WideShapes Go.ChangeAt Go.RowKit
open Num Mem Words Chacha Aead Poly Quiet Ops Adr RowS

/-- a row of routes that can be read -/
structure RdQ (w : World) (A : Option Addr) (L : List Rt) : Prop where
  out : ∀ (k : Nat) (x : Rt), L[k]? = some x → ∃ g, A = some ⟨g, 0, none⟩ ∧ g < w.heap.size ∧ w.rangeAt g (k * 19) x.cells
theorem range_below {w w' : World} {g o B : Nat} {cs : List Value} (h : w.rangeAt g o cs) (hb : Below B w w') (hg : g < B) : w'.rangeAt g o cs := fun j v hj => (hb.cell (p := ⟨g, o + j, none⟩) hg).trans (h j v hj)
theorem RdQ.below {w w' : World} {A : Option Addr} {L : List Rt} {B : Nat} (h : RdQ w A L) (hb : Below B w w') (hB : w.heap.size ≤ B) : RdQ w' A L :=
  ⟨fun k x hx => by
    obtain ⟨g, h1, h2, h3⟩ := h.out k x hx
    exact ⟨g, h1, Nat.lt_of_lt_of_le h2 hb.size, range_below h3 hb (Nat.lt_of_lt_of_le h2 hB)⟩⟩
theorem rdQ_of {w : World} {A : Option Addr} {L : List Rt} (h : RdR w A (flatR L)) : RdQ w A L := by
  refine ⟨fun k x hx => ?_⟩
  rcases h.cells with h0 | ⟨b, h1, h2, h3⟩
  · have := flatR_at L k x hx 0 _ (show x.cells[0]? = some (.bool x.s) from rfl)
    rw [h0] at this
    simp at this
  · exact ⟨b, h1, h2, fun j v hj => h3 _ _ (flatR_at L k x hx j v hj)⟩
theorem owns_short {X : World} {B e n m c size : Nat} {A : Option Addr} {xs : List Value} (h : X.ownsRow B e size (.slice A n c) m xs) : n = m := by
  rcases h.2 with ⟨h0, h1⟩ | ⟨g, cap, cur, hv, _⟩
  · injection h0 with _ e; omega
  · injection hv
theorem wp_buildSliceTo {P : Program} {o : Oper} {a : Act} {w : World} {K : Act → World → Prop} {Q : Exit → Act → World → Prop} (t e : TypeId) (len : Nat) (parts : Array (Nat × Operand)) (ho : o.op = .buildSlice t len parts)
    (hu : P.underlying t = some (.slice e)) (cells : Array Value) (hf : P.builtSlice e len (parts.map fun (i, x) => (i, a.eval x)).toList = some cells)
    (h : K (a.put o.dst (.slice (some ⟨w.heap.size, 0, none⟩) len len)) (w.alloc (.cells cells e))) : o.wp P a w K Q := by
  unfold Program.builtSlice at hf
  cases hie : P.info? e with
  | none => simp [hie] at hf
  | some ie =>
    simp only [hie] at hf
    cases hz : ie.zero with
    | none => simp [hz] at hf
    | some z =>
      simp only [hz] at hf
      by_cases hc : len * ie.size > 2 ^ 24 ∨ len * ie.size = 0
      · simp [hc] at hf
      · rw [if_neg hc] at hf
        exact wp_buildSlice t e len parts ho cells ie z hu hie hz (fun h' => hc (Or.inl h')) (fun h' => hc (Or.inr h')) hf h
theorem wp_rowOne {P : Program} {o : Oper} {a : Act} {w : World} {K : Act → World → Prop} {Q : Exit → Act → World → Prop} (t e : TypeId) (x : Operand) (ho : o.op = .buildSlice t 1 #[(0, x)])
    (v : Value) (hx : a.eval x = v) (hu : P.underlying t = some (.slice e)) (cells : Array Value) (hb : P.builtSlice e 1 [(0, v)] = some cells)
    (h : K (a.put o.dst (.slice (some ⟨w.heap.size, 0, none⟩) 1 1)) (w.alloc (.cells cells e))) : o.wp P a w K Q := by
  have e1 : P.builtSlice e 1 ((#[(0, x)] : Array (Nat × Operand)).map fun (i, x) => (i, a.eval x)).toList = some cells := by simpa [hx] using hb
  exact wp_buildSliceTo t e 1 _ ho hu cells e1 h
structure AsW (w : World) (L : List Rt) (k : Nat) (A : Option Addr) (c : Nat) (X : World) : Prop where
  row : X.ownsRow w.heap.size 41 19 (.slice A k c) k (flatR (L.take k))
  bel : Below w.heap.size w X
set_option maxRecDepth 100000 in
set_option maxHeartbeats 4000000 in
theorem as_any {w : World} {A : Option Addr} {L : List Rt} (c : Nat) (h : RdQ w A L) (hL : L.length ≤ 1000) :
    Calls Try.prog 16 #[.slice A L.length c] w fun e w' => ∃ A' c', e = .returned (.slice A' L.length c') ∧ RdQ w' A' L ∧ Below w.heap.size w w' := by
  have HR := Lib.hid h
  obtain ⟨n, hn⟩ : ∃ n, L.length = n := ⟨_, rfl⟩
  rw [hn] at hL ⊢
  have HN := Lib.hid hn
  clear h hn
  go_enter Try.func16, Try.ntmps16
  go_wp2_with fail
  go_loopw [3, 4] (fun out i X => ∃ k A' c', k ≤ n ∧ i = .int .i64 (k : Nat) ∧ out = .slice A' k c' ∧ AsW w L k A' c' X) (fun _ i _ => n - (intOf i).toNat)
  case atStart => exact ⟨0, none, 0, Nat.zero_le _, rfl, rfl, ⟨⟨rfl, .inl ⟨rfl, rfl⟩⟩, Below.refl _ _⟩⟩
  case round =>
    obtain ⟨k, A', c', hk, rfl, rfl, hW⟩ := hrel
    have HW := Lib.hid hW
    clear hW
    by_cases hlt : k < n
    · have hkL : k < L.length := by rw [HN.out]; exact hlt
      have hx := List.getElem?_eq_getElem hkL
      have hts : L.take (k + 1) = L.take k ++ [L[k]] := List.take_succ_eq_append_getElem hkL
      generalize L[k] = x at hx hts
      obtain ⟨g, rfl, hgl, hrg⟩ := HR.out.out k x hx
      have HTS := Lib.hid hts
      have HRP := Lib.hid (show ∀ V, Below w.heap.size w V → V.rangeAt g (k * 19) (prefL x.s (byt x.p) (x.p.length : Int)) ∧ V.cell? ⟨g, k * 19 + 18, none⟩ = some (.int .i64 x.o) from fun V hV => ⟨fun j v hj => (range_below hrg hV hgl) j v (route_pre _ _ _ _ hj), (range_below hrg hV hgl) 18 _ (route_own _ _ _ _)⟩)
      have HPL := Lib.hid (prefL_length x.s (byt x.p) (x.p.length : Int))
      have HB1 := Lib.hid (refr_built x)
      have HB2 := Lib.hid (built_refr x)
      have HXC := Lib.hid (show x.cells.length = 19 ∧ ∀ u ∈ x.cells, u.oneCell' = true from ⟨x.len, x.each⟩)
      have HFS := Lib.hid (show flatR (L.take (k + 1)) = flatR (L.take k) ++ x.cells from by rw [hts, flatR_snoc])
      obtain ⟨PL, hPL⟩ : ∃ PL, prefL x.s (byt x.p) (x.p.length : Int) = PL := ⟨_, rfl⟩
      rw [hPL] at HRP HPL HB1
      obtain ⟨C, hC⟩ : ∃ C, x.cells = C := ⟨_, rfl⟩
      rw [hC] at HB1 HB2 HXC HFS
      clear hx hts hgl hrg hkL hPL hC
      go_upto_region 5 with fail
      refine region_drew (fun V => Below w.heap.size w V) (by kernel_rfl) HW.out.bel.drew (fun hS => ?_)
      refine take 0 _ rfl (by kernel_rfl) (by kernel_rfl) (by kernel_rfl) (fun _ _ _ h => h) (by rfl) hS (by intro w _; go_simp; with_reducible rfl) ?_
      try simp only [Act.put, List.setIfInBounds_toArray, List.set_cons_zero, List.set_cons_succ]
      refine take 1 _ rfl (by kernel_rfl) (by kernel_rfl) (by kernel_rfl) (fun _ _ _ h => h) (by rfl) hS (by intro w _; go_simp; with_reducible rfl) ?_
      try simp only [Act.put, List.setIfInBounds_toArray, List.set_cons_zero, List.set_cons_succ]
      refine take 2 _ rfl (by kernel_rfl) (by kernel_rfl) (by kernel_rfl) (fun _ _ _ h => h) (by rfl) hS (by intro w _; go_simp; with_reducible rfl) ?_
      try simp only [Act.put, List.setIfInBounds_toArray, List.set_cons_zero, List.set_cons_succ]
      refine take 3 _ rfl (by kernel_rfl) (by kernel_rfl) (by kernel_rfl) (fun _ _ _ h => h) (by rfl) hS (by intro w _; go_simp; with_reducible rfl) ?_
      try simp only [Act.put, List.setIfInBounds_toArray, List.set_cons_zero, List.set_cons_succ]
      refine take 4 _ rfl (by kernel_rfl) (by kernel_rfl) (by kernel_rfl) (fun _ _ _ h => h) (by rfl) hS (by intro w _; go_simp; with_reducible rfl) ?_
      try simp only [Act.put, List.setIfInBounds_toArray, List.set_cons_zero, List.set_cons_succ]
      refine take 5 (.agg PL.toArray) rfl (by kernel_rfl) (by kernel_rfl) (by kernel_rfl) (fun _ _ _ h => h) (by rfl) hS (fun w0 hw => run_mid_in 29 (.tmp 15) rfl g (k * 19) (by go_simp) PL _ (HRP.out w0 hw).1 rfl rfl (by rw [HPL.out]; kernel_rfl)) ?_
      try simp only [Act.put, List.setIfInBounds_toArray, List.set_cons_zero, List.set_cons_succ]
      refine take 6 _ rfl (by kernel_rfl) (by kernel_rfl) (by kernel_rfl) (fun _ _ _ h => h) (by rfl) hS (by intro w _; go_simp; with_reducible rfl) ?_
      try simp only [Act.put, List.setIfInBounds_toArray, List.set_cons_zero, List.set_cons_succ]
      refine take 7 _ rfl (by kernel_rfl) (by kernel_rfl) (by kernel_rfl) (fun _ _ _ h => h) (by rfl) hS (by intro w _; go_simp; with_reducible rfl) ?_
      try simp only [Act.put, List.setIfInBounds_toArray, List.set_cons_zero, List.set_cons_succ]
      refine take 8 _ rfl (by kernel_rfl) (by kernel_rfl) (by kernel_rfl) (fun _ _ _ h => h) (by rfl) hS (by intro w _; go_simp; with_reducible rfl) ?_
      try simp only [Act.put, List.setIfInBounds_toArray, List.set_cons_zero, List.set_cons_succ]
      refine take 9 _ rfl (by kernel_rfl) (by kernel_rfl) (by kernel_rfl) (fun _ _ _ h => h) (by rfl) hS (by intro w _; go_simp; with_reducible rfl) ?_
      try simp only [Act.put, List.setIfInBounds_toArray, List.set_cons_zero, List.set_cons_succ]
      refine take 10 _ rfl (by kernel_rfl) (by kernel_rfl) (by kernel_rfl) (fun _ _ _ h => h) (by rfl) hS (by intro w hw; have hcl := (HRP.out w hw).2; go_simp; with_reducible rfl) ?_
      try simp only [Act.put, List.setIfInBounds_toArray, List.set_cons_zero, List.set_cons_succ]
      refine take 11 (.agg C.toArray) rfl (by kernel_rfl) (by kernel_rfl) (by kernel_rfl) (fun _ _ _ h => h) (by rfl) hS (fun w0 hw => run_built2 41 0 1 (.tmp 16) (.tmp 21) rfl (.agg PL.toArray) (.int .i64 x.o) rfl rfl C.toArray HB1.out) ?_
      try simp only [Act.put, List.setIfInBounds_toArray, List.set_cons_zero, List.set_cons_succ]
      refine alone 12 rfl (by kernel_rfl) (by rfl) ?_
      intro K hK
      refine wp_rowOne 24 41 (.tmp 22) rfl (.agg C.toArray) rfl Try.underlying24 C.toArray HB2.out ?_
      refine hK.out _ _ (by exact below_alloc hS _) ?_
      clear hK K
      try simp only [Act.put, List.setIfInBounds_toArray, List.set_cons_zero, List.set_cons_succ]
      refine alone 13 rfl (by kernel_rfl) (by rfl) ?_
      intro K hK
      change Oper.wp _ _ _ (wr.drew.alloc (.cells C.toArray 41)) _ _
      refine wp_pushS (w := wr.drew) C 19 _ _ 24 41 (.agg (routeL false nought 0 0).toArray) 40 Try.underlying24 info_refr (by show (routeL false nought 0 0).toArray.size = 19; rw [List.size_toArray, routeL_length]) (by omega) rfl rfl rfl (show wr.drew.ownsRow _ _ _ _ _ _ from HW.out.row) HW.out.bel.size HXC.out.1 HXC.out.2 (by omega) (by omega) ?_
      intro A2 c2 w3 hown hbel
      have H3 := Lib.hid (show AsW w L (k + 1) A2 c2 w3 from ⟨by rw [HFS.out]; exact hown, HW.out.bel.drew.trans hbel⟩)
      refine hK.out _ _ (by exact HW.out.bel.drew.trans hbel) ?_
      clear hK K hown hbel
      try simp only [Act.put, List.setIfInBounds_toArray, List.set_cons_zero, List.set_cons_succ]
      have hS := H3.out.bel
      refine take 14 _ rfl (by kernel_rfl) (by kernel_rfl) (by kernel_rfl) (fun _ _ _ h => h) (by rfl) hS (by intro w _; go_simp; with_reducible rfl) ?_
      try simp only [Act.put, List.setIfInBounds_toArray, List.set_cons_zero, List.set_cons_succ]
      refine region_end (by kernel_rfl) ?_
      go_wp2_with fail
      go_round
      case rel => exact ⟨k + 1, A2, c2, by omega, by go_num, rfl, H3.out⟩
      case measure => simp only [intOf]; omega
    · obtain rfl : k = n := by omega
      go_wp2_with fail
      go_ret
      refine ⟨A', c', rfl, ?_, HW.out.bel⟩
      have h := HW.out.row
      rw [List.take_of_length_le (Nat.le_of_eq HN.out)] at h
      exact rdQ_of (rdR_own h)

def Fits (L : List Rt) : Prop := ∀ x ∈ L, (x.p.length : Int) ≤ digitsI x.s
set_option maxRecDepth 100000 in
set_option maxHeartbeats 4000000 in
theorem same_any {w : World} {A A2 : Option Addr} {L M : List Rt} (c c2 : Nat) (h : RdQ w A L) (h2 : RdQ w A2 M) (hL : L.length ≤ 1000) (hM : M.length ≤ 1000) (fL : Fits L) (fM : Fits M) (r : Bool) (hr : r = true ↔ L = M) :
    Calls Try.prog 15 #[.slice A L.length c, .slice A2 M.length c2] w fun e w' => e = .returned (.bool r) ∧ Below w.heap.size w w' := by
  obtain ⟨n, hn⟩ : ∃ n, L.length = n := ⟨_, rfl⟩
  obtain ⟨m, hm⟩ : ∃ m, M.length = m := ⟨_, rfl⟩
  have HR := Lib.hid hr
  have HA := Lib.hid h
  have HB := Lib.hid h2
  have HN := Lib.hid hn
  have HM := Lib.hid hm
  have HF := Lib.hid (And.intro fL fM)
  rw [hn] at hL ⊢
  rw [hm] at hM ⊢
  clear h h2 hn hm hr fL fM
  by_cases hnm : n = m
  · subst hnm
    go_enter Try.func15, Try.ntmps15
    go_wp2_with fail
    go_loopw [5] (fun i X => ∃ k : Nat, k ≤ n ∧ i = .int .i64 k ∧ L.take k = M.take k ∧ Below w.heap.size w X) (fun i _ => n - (intOf i).toNat)
    case atStart => exact ⟨0, Nat.zero_le _, rfl, rfl, Below.refl _ _⟩
    case round =>
      obtain ⟨k, hk, rfl, heq, hb⟩ := hrel
      have HE := Lib.hid heq
      have HBL := Lib.hid hb
      clear heq hb
      by_cases hlt : k < n
      · have hkL : k < L.length := by rw [HN.out]; exact hlt
        have hkM : k < M.length := by rw [HM.out]; exact hlt
        have hx := List.getElem?_eq_getElem hkL
        have hy := List.getElem?_eq_getElem hkM
        have h1 : L.take (k + 1) = L.take k ++ [L[k]] := List.take_succ_eq_append_getElem hkL
        have h2 : M.take (k + 1) = M.take k ++ [M[k]] := List.take_succ_eq_append_getElem hkM
        have f1 := HF.out.1 L[k] (List.getElem_mem hkL)
        have f2 := HF.out.2 M[k] (List.getElem_mem hkM)
        generalize L[k] = x at hx h1 f1
        generalize M[k] = y at hy h2 f2
        obtain ⟨g, rfl, hgl, hrg⟩ := HA.out.out k x hx
        obtain ⟨g2, rfl, hgl2, hrg2⟩ := HB.out.out k y hy
        have HX := Lib.hid hx
        have HY := Lib.hid hy
        have H1 := Lib.hid h1
        have H2 := Lib.hid h2
        have HG1 := Lib.hid (range_below hrg HBL.out hgl)
        have HG2 := Lib.hid (range_below hrg2 HBL.out hgl2)
        have HL1 := Lib.hid (Nat.lt_of_lt_of_le hgl HBL.out.size)
        have HL2 := Lib.hid (Nat.lt_of_lt_of_le hgl2 HBL.out.size)
        obtain ⟨d, hd⟩ : ∃ d : Bool, d = true ↔ x = y := by
          by_cases e : x = y
          · exact ⟨true, fun _ => e, fun _ => rfl⟩
          · exact ⟨false, (fun c => by cases c), fun c => absurd c e⟩
        have HQ := Lib.hid hd
        have HEQ := Lib.hid (fun w => eqin_refr 9995 x y f1 f2 d hd w)
        have HXL := Lib.hid (And.intro x.len y.len)
        clear hx hy h1 h2 hgl hrg hgl2 hrg2 hkL hkM f1 f2 hd
        obtain ⟨U, hU⟩ : ∃ U, x.cells = U := ⟨_, rfl⟩
        obtain ⟨V, hV⟩ : ∃ V, y.cells = V := ⟨_, rfl⟩
        rw [hU] at HEQ HXL HG1
        rw [hV] at HEQ HXL HG2
        clear hU hV
        go_upto_region 6 with fail
        refine q_start (by kernel_rfl) (by kernel_rfl) ?_
        refine Ops.wq_in ?_
        refine Ops.wq_take _ (by rfl) (fun X hx => by go_simp; try with_reducible rfl) ?_
        try simp only [Act.put, List.setIfInBounds_toArray, List.set_cons_zero, List.set_cons_succ]
        refine Ops.wq_take _ (by rfl) (fun X hx => by go_simp; try with_reducible rfl) ?_
        try simp only [Act.put, List.setIfInBounds_toArray, List.set_cons_zero, List.set_cons_succ]
        refine Ops.wq_take _ (by rfl) (fun X hx => by go_simp; try with_reducible rfl) ?_
        try simp only [Act.put, List.setIfInBounds_toArray, List.set_cons_zero, List.set_cons_succ]
        refine Ops.wq_take (.agg U.toArray) (by rfl) (fun X hx => run_mid_in 41 (.tmp 19) rfl g (k * 19) (by go_simp) U _ (range_below HG1.out hx HL1.out) rfl rfl (by rw [HXL.out.1]; kernel_rfl)) ?_
        try simp only [Act.put, List.setIfInBounds_toArray, List.set_cons_zero, List.set_cons_succ]
        refine Ops.wq_take _ (by rfl) (fun X hx => by go_simp; try with_reducible rfl) ?_
        try simp only [Act.put, List.setIfInBounds_toArray, List.set_cons_zero, List.set_cons_succ]
        refine Ops.wq_take _ (by rfl) (fun X hx => by go_simp; try with_reducible rfl) ?_
        try simp only [Act.put, List.setIfInBounds_toArray, List.set_cons_zero, List.set_cons_succ]
        refine Ops.wq_take _ (by rfl) (fun X hx => by go_simp; try with_reducible rfl) ?_
        try simp only [Act.put, List.setIfInBounds_toArray, List.set_cons_zero, List.set_cons_succ]
        refine Ops.wq_take (.agg V.toArray) (by rfl) (fun X hx => run_mid_in 41 (.tmp 23) rfl g2 (k * 19) (by go_simp) V _ (range_below HG2.out hx HL2.out) rfl rfl (by rw [HXL.out.2]; kernel_rfl)) ?_
        try simp only [Act.put, List.setIfInBounds_toArray, List.set_cons_zero, List.set_cons_succ]
        refine Ops.wq_take (.bool (!d)) (by rfl) (fun X hx => Ops.run_neq_op 41 (.tmp 20) (.tmp 24) 41 rfl U.toArray V.toArray rfl rfl d (!d) rfl (by kernel_rfl) (fun w => HEQ.out w) X) ?_
        try simp only [Act.put, List.setIfInBounds_toArray, List.set_cons_zero, List.set_cons_succ]
        refine Ops.wq_end ?_
        intro w2 hb2
        have HB2 := Lib.hid (below_trans HBL.out hb2)
        clear HBL hb2 HG1 HG2 HL1 HL2
        cases d with
        | true =>
          have he := HQ.out.1 rfl
          have HHE := Lib.hid he
          clear he
          go_wp2_with fail
          go_round
          case rel => exact ⟨k + 1, by omega, by go_num, by rw [H1.out, H2.out, HE.out, HHE.out], HB2.out⟩
          case measure => simp only [intOf]; omega
        | false =>
          have hr0 : r = false := by
            cases r with
            | false => rfl
            | true =>
              have h := HX.out
              rw [HR.out.1 rfl, HY.out] at h
              have := HQ.out.2 (Option.some.inj h).symm
              cases this
          subst hr0
          go_wp2_with fail
          go_ret
          exact ⟨rfl, HB2.out⟩
      · obtain rfl : k = n := by omega
        obtain rfl : r = true := by
          refine HR.out.2 ?_
          have h := HE.out
          rw [List.take_of_length_le (Nat.le_of_eq HN.out), List.take_of_length_le (Nat.le_of_eq HM.out)] at h
          exact h
        go_wp2_with fail
        go_ret
        exact ⟨rfl, HBL.out⟩
  · obtain rfl : r = false := by
      cases r with
      | false => rfl
      | true => exact absurd (by rw [← HN.out, ← HM.out, HR.out.1 rfl]) hnm
    have hne : (((n : Nat) : Int) != ((m : Nat) : Int)) = true := by simp; omega
    clear HR
    go_enter Try.func15, Try.ntmps15
    go_wp2_with fail
    go_ret
    exact ⟨rfl, Below.refl _ _⟩
end Tri
end Go.Proofs.Ytcpfchfhcfdcpaa
