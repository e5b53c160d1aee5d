/- Package wheel: rows of timers in memory; what a binary search finds. -/
import Derived.Test.YtgbahkkccpcadaaWhNum
import Derived.Test.YtgbahkkccpcadaaRowS
import Derived.Deep.MidRow
import Derived.StillTailTactics
namespace Go.Proofs.Ytgbahkkccpcadaa
namespace Wh
open Go.ChangeShapes Go.WideShapes Go.ChangeAt Go.RowKit
open Num Mem Words Chacha Aead Poly Quiet RowV RowS Ops

theorem tm_one (x : Tm) : (tmL x).toArray.all (·.oneCell') = true := by simp [tmL, Value.oneCell']
theorem tm_each (x : Tm) : ∀ u ∈ tmL x, u.oneCell' = true := by
  intro u hu
  simp only [tmL, List.mem_cons, List.not_mem_nil, or_false] at hu
  rcases hu with rfl | rfl | rfl <;> rfl
def flatT : List Tm → List Value
  | [] => []
  | p :: R => tmL p ++ flatT R
theorem flatT_length : ∀ R : List Tm, (flatT R).length = R.length * 3
  | [] => rfl
  | p :: R => by show (tmL p ++ flatT R).length = _; rw [List.length_append, flatT_length R, List.length_cons]; show 3 + _ = _; omega
theorem flatT_append : ∀ (R S : List Tm), flatT (R ++ S) = flatT R ++ flatT S
  | [], _ => rfl
  | p :: R, S => by show tmL p ++ flatT (R ++ S) = (tmL p ++ flatT R) ++ flatT S; rw [flatT_append R S, List.append_assoc]
theorem flatT_one (p : Tm) : flatT [p] = tmL p := List.append_nil _
theorem flatT_each : ∀ (R : List Tm), ∀ u ∈ flatT R, u.oneCell' = true
  | [], u, h => by cases h
  | p :: R, u, h => by
    rcases List.mem_append.1 h with h | h
    · exact tm_each p u h
    · exact flatT_each R u h
theorem flatT_get : ∀ (R : List Tm) (i j : Nat) (p : Tm), R[i]? = some p → j < 3 → (flatT R)[i * 3 + j]? = (tmL p)[j]?
  | [], i, j, p, h, hj => by simp at h
  | d :: R, 0, j, p, h, hj => by
    injection h with h
    subst h
    show (tmL d ++ flatT R)[0 * 3 + j]? = _
    rw [Nat.zero_mul, Nat.zero_add, List.getElem?_append_left (by exact hj)]
  | d :: R, i + 1, j, p, h, hj => by
    rw [List.getElem?_cons_succ] at h
    show (tmL d ++ flatT R)[(i + 1) * 3 + j]? = _
    have e : (tmL d).length = 3 := rfl
    rw [List.getElem?_append_right (by rw [e]; omega), e, show (i + 1) * 3 + j - 3 = i * 3 + j by omega]
    exact flatT_get R i j p h hj
theorem flatT_take : ∀ (R : List Tm) (i : Nat), flatT (R.take i) = (flatT R).take (i * 3)
  | [], i => by simp [flatT]
  | d :: R, 0 => by simp [flatT]
  | d :: R, i + 1 => by
    rw [List.take_succ_cons]
    show tmL d ++ flatT (R.take i) = (tmL d ++ flatT R).take ((i + 1) * 3)
    have e : (tmL d).take ((i + 1) * 3) = tmL d := List.take_of_length_le (by show 3 ≤ _; omega)
    have e2 : (i + 1) * 3 - (tmL d).length = i * 3 := by show _ - 3 = _; omega
    rw [flatT_take R i, List.take_append, e, e2]
theorem flatT_drop : ∀ (R : List Tm) (i : Nat), flatT (R.drop i) = (flatT R).drop (i * 3)
  | [], i => by simp [flatT]
  | d :: R, 0 => by simp [flatT]
  | d :: R, i + 1 => by
    rw [List.drop_succ_cons]
    show flatT (R.drop i) = (tmL d ++ flatT R).drop ((i + 1) * 3)
    have e : (tmL d).drop ((i + 1) * 3) = [] := List.drop_of_length_le (by show 3 ≤ _; omega)
    have e2 : (i + 1) * 3 - (tmL d).length = i * 3 := by show _ - 3 = _; omega
    rw [flatT_drop R i, List.drop_append, e, e2, List.nil_append]
theorem infoT : (Try.prog.info? 38).map (fun i => (i.zero, i.size, i.bytes)) = some (some (.agg zeroT.toArray), 3, 24) := by kernel_rfl
/-- a row of timers of one's own -/
def RowT (w : World) (B : Nat) (A : Option Addr) (c : Nat) (L : List Tm) : Prop := w.ownsRow B 38 3 (.slice A L.length c) L.length (flatT L)
theorem RowT.at {w : World} {B c : Nat} {A : Option Addr} {L : List Tm} (h : RowT w B A c L) {k : Nat} {x : Tm} (hx : L[k]? = some x) : ∃ g, A = some ⟨g, 0, none⟩ ∧ g < w.heap.size ∧ w.rangeAt g (k * 3) (tmL x) := by
  have hk : k < L.length := (List.getElem?_eq_some_iff.1 hx).1
  obtain ⟨g, e, _, hl, hc⟩ := own_cells h (by omega)
  refine ⟨g, e, hl, fun j v hj => ?_⟩
  have hj3 : j < 3 := (List.getElem?_eq_some_iff.1 hj).1
  exact (hc (k * 3 + j) v (by rw [flatT_get L k j x hx hj3]; exact hj)).1
theorem range_below {w w' : World} {B g off : Nat} {cs : List Value} (h : w.rangeAt g off cs) (hb : Below B w w') (hg : g < B) : w'.rangeAt g off cs := fun j v hj => (hb.cell (p := ⟨g, off + j, none⟩) hg).trans (h j v hj)
theorem run_mid_in {P : Program} {o : Oper} {a : Act} {w : World} (ty : TypeId) (x : Operand) (ho : o.op = .load ty x) (g off : Nat) (hx : a.eval x = .pointer (some ⟨g, off, none⟩)) (cs : List Value) (d : TypeDesc) (hg : w.rangeAt g off cs)
    (hu : P.underlying ty = some d) (hd : d.isRow = true) (hi : (P.info? ty).map (·.size) = some cs.length) : (execOp a.eval o).run P w = .ok (.value (.agg cs.toArray)) w := by
  unfold execOp
  simp only [ho, hx, Sem.run_bind, run_loadAt_mid w g off ty cs d hg hu hd hi, Result.andThen_ok, Sem.run_pure]
theorem mid_bounds {L : List Tm} {x : Tm} {m : Nat} (hs : Srt L) {y : Tm} (hy : L[m]? = some y) :
    (ltB y x = true → ∀ j z, j < m + 1 → L[j]? = some z → ltB z x = true) ∧ (ltB y x = false → ∀ j z, m ≤ j → L[j]? = some z → ltB z x = false) := by
  have hp : ∀ i j a b, i < j → L[i]? = some a → L[j]? = some b → ltB a b = true := fun i j a b hij ha hb => by
    obtain ⟨h1, rfl⟩ := List.getElem?_eq_some_iff.1 ha
    obtain ⟨h2, rfl⟩ := List.getElem?_eq_some_iff.1 hb
    exact List.pairwise_iff_getElem.1 hs i j h1 h2 hij
  refine ⟨fun hyx j z hj hz => ?_, fun hyx j z hj hz => ?_⟩
  · by_cases e : j = m
    · subst e; rw [hy] at hz; injection hz with hz; rw [← hz]; exact hyx
    · exact lt_trans (hp j m z y (by omega) hz hy) hyx
  · by_cases e : j = m
    · subst e; rw [hy] at hz; injection hz with hz; rw [← hz]; exact hyx
    · refine Bool.eq_false_iff.2 fun c => ?_
      rw [lt_trans (hp m j y z (by omega) hy hz) c] at hyx
      cases hyx

/-- is it there? -/
def fnd (x : Tm) (L : List Tm) : Bool := decide (L[pos x L]? = some x)
/-- the search on its way -/
structure Bs (w : World) (t4 : Nat) (x : Tm) (X : World) : Prop where
  box : Whole X t4 38 (tmL x).toArray
  bel : Below w.heap.size w X
set_option maxRecDepth 100000 in
set_option maxHeartbeats 4000000 in
theorem bsearch_any {w : World} {B c : Nat} {A : Option Addr} (L : List Tm) (x : Tm) (hs : Srt L) (hr : RowT w B A c L) (hL : L.length ≤ 1000000) :
    Calls Try.prog 31 #[.slice A L.length c, tmV x, .func (.func 28) #[] #[]] w fun e w' => e = .returned (.tuple #[.int .i64 (pos x L : Nat), .bool (fnd x L)]) ∧ Below w.heap.size w w' := by
  obtain ⟨n, hn⟩ : ∃ n, L.length = n := ⟨_, rfl⟩
  have HR := Lib.hid hr
  have HS := Lib.hid hs
  rw [hn] at hL ⊢
  have HN := Lib.hid hn
  have HC := Lib.hid (fun y W => compare_any y x W)
  clear hr hs hn
  obtain ⟨po, hpo⟩ : ∃ po, pos x L = po := ⟨_, rfl⟩
  have HPO := Lib.hid hpo
  obtain ⟨fb, hfb⟩ : ∃ fb, fnd x L = fb := ⟨_, rfl⟩
  have HFB := Lib.hid (show decide (L[po]? = some x) = fb from by rw [← hfb, ← hpo]; rfl)
  rw [hpo, hfb]
  clear hpo hfb
  obtain ⟨Z, hZ⟩ : ∃ Z, (tmL x).toArray = Z := ⟨_, rfl⟩
  have HZS := Lib.hid (show Z.size = 3 by rw [← hZ]; rfl)
  have HZO := Lib.hid (show Z.all (·.oneCell') = true by rw [← hZ]; exact tm_one x)
  have HZ := Lib.hid hZ
  unfold tmV
  rw [hZ]
  clear hZ
  obtain ⟨t4, ht4⟩ : ∃ t4, w.heap.size = t4 := ⟨_, rfl⟩
  have HT := Lib.hid ht4
  go_enter Try.func31, Try.ntmps31
  go_upto_region 1 with fail
  refine cut_world (fun X => Bs w t4 x X) ⟨HZ.out ▸ whole_new _ _ ht4, below_alloc (Below.refl _ _) _⟩ ?_
  intro X hX
  have HX := Lib.hid hX
  clear hX ht4
  go_wp2_with fail
  go_loopw [9, 10] (fun lo hi Y => ∃ l h : Nat, lo = .int .i64 l ∧ hi = .int .i64 h ∧ l ≤ h ∧ h ≤ n ∧ Bs w t4 x Y ∧ (∀ j z, j < l → L[j]? = some z → ltB z x = true) ∧ (∀ j z, h ≤ j → L[j]? = some z → ltB z x = false)) (fun lo hi _ => (intOf hi - intOf lo).toNat)
  case atStart => exact ⟨0, n, rfl, rfl, Nat.zero_le _, Nat.le_refl _, HX.out, (by intro j z hj; omega), (by intro j z hj hz; have := (List.getElem?_eq_some_iff.1 hz).1; have := HN.out; omega)⟩
  case round =>
    obtain ⟨l, h, rfl, rfl, hlh, hhn, hb, h1, h2⟩ := hrel
    have HB := Lib.hid hb
    have H1 := Lib.hid h1
    have H2 := Lib.hid h2
    clear hb h1 h2 HX
    by_cases hlt : l < h
    · obtain ⟨m, hm⟩ : ∃ m, (l + h) / 2 = m := ⟨_, rfl⟩
      have hm2 : ((l : Int) + (h : Int)) / 2 = (m : Int) := by omega
      have hml : l ≤ m := by omega
      have hmh : m < h := by omega
      have hmn : m < n := by omega
      have HML := Lib.hid hml
      have HMH := Lib.hid hmh
      go_upto_region 5 with fail
      have hmL : m < L.length := by rw [HN.out]; exact hmn
      have hy := List.getElem?_eq_getElem hmL
      generalize L[m] = y at hy
      have HMB := Lib.hid (mid_bounds (x := x) HS.out hy)
      obtain ⟨g, rfl, hgl, hrg⟩ := HR.out.at hy
      have HG := Lib.hid hgl
      have HRG := Lib.hid hrg
      obtain ⟨V, hV⟩ : ∃ V, (tmL y).toArray = V := ⟨_, rfl⟩
      have HV := Lib.hid hV
      have HCY := Lib.hid (HC.out y)
      unfold tmV at HCY
      rw [hV, HZ.out] at HCY
      clear hm hm2 hmL hy hgl hrg hV hml hmh
      obtain ⟨r, hr⟩ : ∃ r, cmpT y x = r := ⟨_, rfl⟩
      have HCR := Lib.hid hr
      rw [hr] at HCY
      clear hr
      refine q_start (by kernel_rfl) (by kernel_rfl) ?_
      refine q_take _ (by rfl) (fun X hx => by go_simp; try with_reducible rfl) ?_
      try simp only [Act.put, List.setIfInBounds_toArray, List.set_cons_zero, List.set_cons_succ]
      refine q_take _ (by rfl) (fun X hx => by go_simp; try with_reducible rfl) ?_
      try simp only [Act.put, List.setIfInBounds_toArray, List.set_cons_zero, List.set_cons_succ]
      refine q_take _ (by rfl) (fun X hx => by go_simp; try with_reducible rfl) ?_
      try simp only [Act.put, List.setIfInBounds_toArray, List.set_cons_zero, List.set_cons_succ]
      refine q_take _ (by rfl) (fun X hx => by go_simp; try with_reducible rfl) ?_
      try simp only [Act.put, List.setIfInBounds_toArray, List.set_cons_zero, List.set_cons_succ]
      refine q_take (.agg V) (by rfl) (fun X hx => by rw [← HV.out]; exact run_mid_in 38 (.tmp 27) rfl g (m * 3) (by go_simp) (tmL y) _ (range_below HRG.out (below_trans HB.out.bel hx) HG.out) rfl rfl (by kernel_rfl)) ?_
      try simp only [Act.put, List.setIfInBounds_toArray, List.set_cons_zero, List.set_cons_succ]
      refine q_take (.agg Z) (by rfl) (fun X hx => by rw [← HZ.out]; exact run_load_in 38 (.tmp 4) rfl t4 rfl (tmL x).toArray 3 rfl (HB.out.box.below hx HB.out.box.lt) rfl rfl (by kernel_rfl)) ?_
      try simp only [Act.put, List.setIfInBounds_toArray, List.set_cons_zero, List.set_cons_succ]
      refine q_call (.int .i64 r) 28 #[.agg V, .agg Z] (by rfl) (by intro w; go_simp; try with_reducible rfl) (fun X hx => (HCY.out X).mono (fun e w' ⟨h1, h2⟩ => ⟨h1, below_trans hx h2⟩)) ?_
      try simp only [Act.put, List.setIfInBounds_toArray, List.set_cons_zero, List.set_cons_succ]
      refine q_take _ (by rfl) (fun X hx => by go_simp; try with_reducible rfl) ?_
      try simp only [Act.put, List.setIfInBounds_toArray, List.set_cons_zero, List.set_cons_succ]
      refine wpQuiet_nil ?_
      intro w2 hb2
      have HB2 := Lib.hid (show Bs w t4 x w2 from ⟨HB.out.box.below hb2 HB.out.box.lt, below_trans HB.out.bel hb2⟩)
      clear HB hb2 HCY HRG
      by_cases hc : r < 0
      · have hlty : ltB y x = true := (cmp_lt y x).1 (by rw [HCR.out]; exact hc)
        go_wp2_with fail
        go_round
        case rel => exact ⟨m + 1, h, by simp, rfl, HMH.out, hhn, HB2.out, HMB.out.1 hlty, H2.out⟩
        case measure => simp only [intOf]; have := HML.out; have := HMH.out; omega
      · have hlty : ltB y x = false := Bool.eq_false_iff.2 fun e => hc (by rw [← HCR.out]; exact (cmp_lt y x).2 e)
        go_wp2_with fail
        go_round
        case rel => exact ⟨l, m, rfl, rfl, HML.out, Nat.le_of_lt hmn, HB2.out, H1.out, HMB.out.2 hlty⟩
        case measure => simp only [intOf]; have := HML.out; have := HMH.out; omega
    · obtain rfl : l = h := by omega
      have HP := Lib.hid (pos_bound x l (by rw [HN.out]; exact hhn) H1.out H2.out)
      rw [HPO.out] at HP
      obtain rfl : po = l := HP.out
      clear H1 H2 HP
      by_cases hln : po < n
      · have hlL : po < L.length := by rw [HN.out]; exact hln
        have hy := List.getElem?_eq_getElem hlL
        generalize L[po] = y at hy
        have hy2 := hy
        obtain ⟨g, rfl, hgl, hrg⟩ := HR.out.at hy
        have HG := Lib.hid hgl
        have HRG := Lib.hid hrg
        obtain ⟨V, hV⟩ : ∃ V, (tmL y).toArray = V := ⟨_, rfl⟩
        have HV := Lib.hid hV
        have HCY := Lib.hid (HC.out y)
        unfold tmV at HCY
        rw [hV, HZ.out] at HCY
        clear hlL hy hgl hrg hV
        obtain ⟨r, hr⟩ : ∃ r, cmpT y x = r := ⟨_, rfl⟩
        rw [hr] at HCY
        have hfr : (r == 0) = fb := by
          rw [← HFB.out, hy2, ← hr]
          by_cases e : y = x
          · rw [decide_eq_true (by rw [e]), (cmp_eq y x).2 e]; rfl
          · rw [decide_eq_false (fun c => e (Option.some.inj c))]
            have := fun c => e ((cmp_eq y x).1 c)
            simpa using this
        have HFR := Lib.hid hfr
        clear hr hfr hy2
        have d1 : decide ((po : Int) < (n : Int)) = true := decide_eq_true (by omega)
        go_upto_region 8 with fail
        refine q_start (by kernel_rfl) (by kernel_rfl) ?_
        refine q_take _ (by rfl) (fun X hx => by go_simp; try with_reducible rfl) ?_
        try simp only [Act.put, List.setIfInBounds_toArray, List.set_cons_zero, List.set_cons_succ]
        refine q_take _ (by rfl) (fun X hx => by go_simp; try with_reducible rfl) ?_
        try simp only [Act.put, List.setIfInBounds_toArray, List.set_cons_zero, List.set_cons_succ]
        refine q_take _ (by rfl) (fun X hx => by go_simp; try with_reducible rfl) ?_
        try simp only [Act.put, List.setIfInBounds_toArray, List.set_cons_zero, List.set_cons_succ]
        refine q_take (.bool true) (by rfl) (fun X hx => by go_simp; try with_reducible rfl) ?_
        try simp only [Act.put, List.setIfInBounds_toArray, List.set_cons_zero, List.set_cons_succ]
        refine q_take _ (by rfl) (fun X hx => by go_simp; try with_reducible rfl) ?_
        try simp only [Act.put, List.setIfInBounds_toArray, List.set_cons_zero, List.set_cons_succ]
        refine q_take _ (by rfl) (fun X hx => by go_simp; try with_reducible rfl) ?_
        try simp only [Act.put, List.setIfInBounds_toArray, List.set_cons_zero, List.set_cons_succ]
        refine q_take _ (by rfl) (fun X hx => by go_simp; try with_reducible rfl) ?_
        try simp only [Act.put, List.setIfInBounds_toArray, List.set_cons_zero, List.set_cons_succ]
        refine q_take _ (by rfl) (fun X hx => by go_simp; try with_reducible rfl) ?_
        try simp only [Act.put, List.setIfInBounds_toArray, List.set_cons_zero, List.set_cons_succ]
        refine q_take _ (by rfl) (fun X hx => by go_simp; try with_reducible rfl) ?_
        try simp only [Act.put, List.setIfInBounds_toArray, List.set_cons_zero, List.set_cons_succ]
        refine q_take (.agg V) (by rfl) (fun X hx => by rw [← HV.out]; exact run_mid_in 38 (.tmp 43) rfl g (po * 3) (by go_simp) (tmL y) _ (range_below HRG.out (below_trans HB.out.bel hx) HG.out) rfl rfl (by kernel_rfl)) ?_
        try simp only [Act.put, List.setIfInBounds_toArray, List.set_cons_zero, List.set_cons_succ]
        refine q_take (.agg Z) (by rfl) (fun X hx => by rw [← HZ.out]; exact run_load_in 38 (.tmp 4) rfl t4 rfl (tmL x).toArray 3 rfl (HB.out.box.below hx HB.out.box.lt) rfl rfl (by kernel_rfl)) ?_
        try simp only [Act.put, List.setIfInBounds_toArray, List.set_cons_zero, List.set_cons_succ]
        refine q_call (.int .i64 r) 28 #[.agg V, .agg Z] (by rfl) (by intro w; go_simp; try with_reducible rfl) (fun X hx => (HCY.out X).mono (fun e w' ⟨h1, h2⟩ => ⟨h1, below_trans hx h2⟩)) ?_
        try simp only [Act.put, List.setIfInBounds_toArray, List.set_cons_zero, List.set_cons_succ]
        refine q_take (.bool (r == 0)) (by rfl) (fun X hx => by go_simp; try with_reducible rfl) ?_
        try simp only [Act.put, List.setIfInBounds_toArray, List.set_cons_zero, List.set_cons_succ]
        refine q_take (.bool (r == 0)) (by rfl) (fun X hx => by go_simp; try with_reducible rfl) ?_
        try simp only [Act.put, List.setIfInBounds_toArray, List.set_cons_zero, List.set_cons_succ]
        refine q_take _ (by rfl) (fun X hx => by go_simp; try with_reducible rfl) ?_
        try simp only [Act.put, List.setIfInBounds_toArray, List.set_cons_zero, List.set_cons_succ]
        refine q_take _ (by rfl) (fun X hx => by go_simp; try with_reducible rfl) ?_
        try simp only [Act.put, List.setIfInBounds_toArray, List.set_cons_zero, List.set_cons_succ]
        refine wpQuiet_nil ?_
        intro w2 hb2
        have HB2 := Lib.hid (below_trans HB.out.bel hb2)
        clear HB hb2 HCY HRG
        go_wp2_with fail
        go_ret2
        exact ⟨by rw [← HFR.out]; rfl, HB2.out⟩
      · have hfb : fb = false := by rw [← HFB.out, List.getElem?_eq_none (by rw [HN.out]; omega)]; rfl
        subst hfb
        have d1 : decide ((po : Int) < (n : Int)) = false := decide_eq_false (by omega)
        go_upto_region 8 with fail
        refine q_start (by kernel_rfl) (by kernel_rfl) ?_
        refine Ops.wq_in ?_
        refine Ops.wq_take _ (by rfl) (fun X hx => by go_simp; try with_reducible rfl) ?_
        try simp only [Act.put, List.setIfInBounds_toArray, List.set_cons_zero, List.set_cons_succ]
        refine Ops.wq_take _ (by rfl) (fun X hx => by go_simp; try with_reducible rfl) ?_
        try simp only [Act.put, List.setIfInBounds_toArray, List.set_cons_zero, List.set_cons_succ]
        refine Ops.wq_take _ (by rfl) (fun X hx => by go_simp; try with_reducible rfl) ?_
        try simp only [Act.put, List.setIfInBounds_toArray, List.set_cons_zero, List.set_cons_succ]
        refine Ops.wq_take _ (by rfl) (fun X hx => by go_simp; try with_reducible rfl) ?_
        try simp only [Act.put, List.setIfInBounds_toArray, List.set_cons_zero, List.set_cons_succ]
        refine Ops.wq_take _ (by rfl) (fun X hx => by go_simp; try with_reducible rfl) ?_
        try simp only [Act.put, List.setIfInBounds_toArray, List.set_cons_zero, List.set_cons_succ]
        refine Ops.wq_pass (by rfl) ?_
        try simp only [Act.put, List.setIfInBounds_toArray, List.set_cons_zero, List.set_cons_succ]
        refine Ops.wq_pass (by rfl) ?_
        try simp only [Act.put, List.setIfInBounds_toArray, List.set_cons_zero, List.set_cons_succ]
        refine Ops.wq_pass (by rfl) ?_
        try simp only [Act.put, List.setIfInBounds_toArray, List.set_cons_zero, List.set_cons_succ]
        refine Ops.wq_pass (by rfl) ?_
        try simp only [Act.put, List.setIfInBounds_toArray, List.set_cons_zero, List.set_cons_succ]
        refine Ops.wq_pass (by rfl) ?_
        try simp only [Act.put, List.setIfInBounds_toArray, List.set_cons_zero, List.set_cons_succ]
        refine Ops.wq_pass (by rfl) ?_
        try simp only [Act.put, List.setIfInBounds_toArray, List.set_cons_zero, List.set_cons_succ]
        refine Ops.wq_pass (by rfl) ?_
        try simp only [Act.put, List.setIfInBounds_toArray, List.set_cons_zero, List.set_cons_succ]
        refine Ops.wq_pass (by rfl) ?_
        try simp only [Act.put, List.setIfInBounds_toArray, List.set_cons_zero, List.set_cons_succ]
        refine Ops.wq_take _ (by rfl) (fun X hx => by go_simp; try with_reducible rfl) ?_
        try simp only [Act.put, List.setIfInBounds_toArray, List.set_cons_zero, List.set_cons_succ]
        refine Ops.wq_take _ (by rfl) (fun X hx => by go_simp; try with_reducible rfl) ?_
        try simp only [Act.put, List.setIfInBounds_toArray, List.set_cons_zero, List.set_cons_succ]
        refine Ops.wq_take _ (by rfl) (fun X hx => by go_simp; try with_reducible rfl) ?_
        try simp only [Act.put, List.setIfInBounds_toArray, List.set_cons_zero, List.set_cons_succ]
        refine Ops.wq_end ?_
        intro w2 hb2
        have HB2 := Lib.hid (below_trans HB.out.bel hb2)
        clear HB hb2
        go_wp2_with fail
        go_ret2
        exact ⟨rfl, HB2.out⟩
end Wh
end Go.Proofs.Ytgbahkkccpcadaa
