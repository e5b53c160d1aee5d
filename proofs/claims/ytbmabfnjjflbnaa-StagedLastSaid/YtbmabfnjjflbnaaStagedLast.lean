/- The walk of StagedLast. -/
import Derived.Test.YtbmabfnjjflbnaaYdOps
import Derived.Test.YtbmabfnjjflbnaaOps
import Derived.Test.YtbmabfnjjflbnaaSlicesK
import Derived.Deep.CutBlock
namespace Go.Proofs.Ytbmabfnjjflbnaa
namespace StagedLast
open Go.ChangeShapes Go.WideShapes Go.ChangeAt Go.RowKit Go.Maps
open Num Mem Words Chacha Aead Poly Quiet RowV RowS Yd

section
variable (N : Nat → Nat) (F : Nat → Nat → Nat)
def mk (j : Nat) : Pk := ⟨j + 1, N j, F j⟩
def lastL : Nat → List Pk
  | 0 => []
  | i + 1 => pushP (lastL i) (mk N F i)
theorem lastL_eq : ∀ i, lastL N F i = (List.range' (i - 8) (min i 8)).map (mk N F)
  | 0 => rfl
  | i + 1 => by
    have ih := lastL_eq i
    have hl : (lastL N F i).length = min i 8 := by rw [ih]; simp
    show pushP (lastL N F i) (mk N F i) = _
    unfold pushP
    rw [hl, ih]
    by_cases h : i < 8
    · rw [if_neg (by omega), show i - 8 = 0 by omega, show i + 1 - 8 = 0 by omega, show min i 8 = i by omega, show min (i + 1) 8 = i + 1 by omega, List.range'_concat]
      simp
    · obtain ⟨d, rfl⟩ : ∃ d, i = d + 8 := ⟨i - 8, by omega⟩
      rw [if_pos (by omega), show d + 8 - 8 = d by omega, show d + 8 + 1 - 8 = d + 1 by omega, show min (d + 8) 8 = 7 + 1 by omega, show min (d + 8 + 1) 8 = 7 + 1 by omega, List.range'_succ, List.map_cons, List.tail_cons, show List.range' (d + 1) (7 + 1) = List.range' (d + 1) 7 ++ [d + 1 + 1 * 7] from List.range'_concat]
      simp [Nat.add_assoc]
theorem lastL_len (i : Nat) : (lastL N F i).length = min i 8 := by rw [lastL_eq]; simp
theorem lastL_get (i k : Nat) (h : k < min i 8) : (lastL N F i)[k]? = some (mk N F (i - 8 + k)) := by
  rw [lastL_eq, List.getElem?_map, List.getElem?_range' (by omega)]
  simp
end
def lastY (N : Nat → Nat) (F : Nat → Nat → Nat) (o : Int) (i : Nat) : Int → List Pk := upd (fun _ => []) o (lastL N F i)
theorem lastY_step (N : Nat → Nat) (F : Nat → Nat → Nat) (o : Int) (i : Nat) : upd (lastY N F o i) o (pushP (lastY N F o i o) ⟨i + 1, N i, F i⟩) = lastY N F o (i + 1) := by
  unfold lastY
  rw [upd_twice, upd_same]
  rfl
theorem rd_lt {w : World} {A : Option Addr} {n : Nat} {f : Nat → Nat} (h : Rd w A n f) : ∀ a, A = some a → n ≠ 0 → a.block < w.heap.size := fun a ha hn => by
  rcases h with h0 | ⟨b, off, e, hlt, _⟩
  · exact absurd h0 hn
  · rw [ha] at e
    injection e with e
    rw [e]
    exact hlt
/-- behind TakeAll -/
structure Tk2 (w : World) (g b : Nat) (o : Int) (n t : Nat) (D : Option Addr) (m c : Nat) (E : List (Nat × Pk)) (X : World) : Prop where
  yw : YW X w.heap.size g b (fun _ => []) n t
  row : ∃ W : Nat, X.ownsRow W 46 2 (.slice D m c) m (flatP E)
  ls : lies X E
  bel : Below w.heap.size w X
section
variable {w : World} {g b : Nat} {o : Int} {n t : Nat} {D : Option Addr} {m c : Nat} {E : List (Nat × Pk)} {X X' : World}
theorem Tk2.below (h : Tk2 w g b o n t D m c E X) (hb : Below X.heap.size X X') : Tk2 w g b o n t D m c E X' := by
  obtain ⟨W, hr⟩ := h.row
  exact ⟨h.yw.below hb, ⟨W, own_keep hr hb⟩, h.ls.kpb (KpB.below hb), h.bel.trans (hb.mono h.bel.size)⟩
theorem Tk2.at_ (h : Tk2 w g b o n t D m c E X) {i : Nat} (hi : i < m) {e : Nat × Pk} (he : E[i]? = some e) {gd : Nat} (hD : D = some ⟨gd, 0, none⟩) : X.cell? ⟨gd, i * 2, none⟩ = some (.int .u64 (e.2.num : Nat)) ∧ X.cell? ⟨gd, i * 2 + 1, none⟩ = some (.slice (some ⟨e.1, 0, none⟩) e.2.len e.2.len) ∧ Rd X (some ⟨e.1, 0, none⟩) e.2.len e.2.f := by
  obtain ⟨W, hr⟩ := h.row
  obtain ⟨g', e1, _, _, hc⟩ := own_cells hr (by omega)
  rw [hD] at e1
  injection e1 with e1
  injection e1 with e1
  subst e1
  have hf := flatP_get E i e he
  exact ⟨(hc _ _ hf.1).1, (hc _ _ hf.2).1, Rd.of_whole (h.ls e (List.mem_of_getElem? he))⟩
theorem Tk2.block (h : Tk2 w g b o n t D m c E X) (hm : 0 < m) : ∃ gd, D = some ⟨gd, 0, none⟩ := by
  obtain ⟨W, hr⟩ := h.row
  obtain ⟨g', e1, _⟩ := own_cells hr hm
  exact ⟨g', e1⟩
end

set_option maxRecDepth 100000 in
set_option maxHeartbeats 4000000 in
theorem walk (o : Int) (LA : Option Addr) (len cap : Nat) (A : Nat → Option Addr) (N C : Nat → Nat) (F : Nat → Nat → Nat) (w : World) (wo : (Lit.int .i64 o).wf = true) (h : Arr.IsSlices w LA len cap A N C F) : Calls Try.prog 6 #[.int .i64 o, .slice LA len cap] w fun e w' => e = .returned (.bool true) ∧ Below w.heap.size w w' := by
  have HL := Lib.hid h
  have HNW := Lib.hid (new_any w)
  have HAL := Lib.hid alive_ok
  have hok : okI o := wo
  clear h wo
  by_cases hlo : o < 1
  · go_enter Try.func6, Try.ntmps6
    go_wp2_with fail
    refine HNW.out.mono ?_
    rintro e w1 ⟨g, b, rfl, hb1, -⟩
    have HB1 := Lib.hid hb1
    clear hb1
    have HA := Lib.hid (HAL.out w1)
    go_wp2_with fail
    refine HA.out.mono ?_
    rintro e w2 ⟨rfl, hb2⟩
    have HB2 := Lib.hid (HB1.out.trans (hb2.mono HB1.out.size))
    clear hb2
    go_wp2_with fail
    go_ret
    exact ⟨rfl, HB2.out⟩
  by_cases hhi : 16 < o
  · have hlo' : ¬ o < 1 := hlo
    go_enter Try.func6, Try.ntmps6
    go_wp2_with fail
    refine HNW.out.mono ?_
    rintro e w1 ⟨g, b, rfl, hb1, -⟩
    have HB1 := Lib.hid hb1
    clear hb1
    have HA := Lib.hid (HAL.out w1)
    go_wp2_with fail
    refine HA.out.mono ?_
    rintro e w2 ⟨rfl, hb2⟩
    have HB2 := Lib.hid (HB1.out.trans (hb2.mono HB1.out.size))
    clear hb2
    go_wp2_with fail
    go_ret
    exact ⟨rfl, HB2.out⟩
  by_cases h60 : 60 < len
  · have h60' : (60 : Int) < (len : Int) := by omega
    go_enter Try.func6, Try.ntmps6
    go_wp2_with fail
    refine HNW.out.mono ?_
    rintro e w1 ⟨g, b, rfl, hb1, -⟩
    have HB1 := Lib.hid hb1
    clear hb1
    have HA := Lib.hid (HAL.out w1)
    go_wp2_with fail
    refine HA.out.mono ?_
    rintro e w2 ⟨rfl, hb2⟩
    have HB2 := Lib.hid (HB1.out.trans (hb2.mono HB1.out.size))
    clear hb2
    go_wp2_with fail
    go_ret
    exact ⟨rfl, HB2.out⟩
  have h60' : ¬ (60 : Int) < (len : Int) := by omega
  go_enter Try.func6, Try.ntmps6
  go_wp2_with fail
  refine HNW.out.mono ?_
  rintro e w1 ⟨g, b, rfl, hb1, hy⟩
  have HY := Lib.hid (show YW w1 w.heap.size g b (lastY N F o 0) 0 0 from by
    have e : lastY N F o 0 = fun _ => [] := upd_self (fun _ : Int => ([] : List Pk)) o
    rw [e]
    exact hy)
  have HB := Lib.hid hb1
  clear hy hb1 HNW
  go_wp2_with fail
  go_loopw [6] (fun i X => ∃ k : Nat, k ≤ len ∧ i = .int .i64 (k : Nat) ∧ YW X w.heap.size g b (lastY N F o k) k (k - 8) ∧ Below w.heap.size w X) (fun i _ => len - (intOf i).toNat)
  case atStart => exact ⟨0, Nat.zero_le _, rfl, HY.out, HB.out⟩
  case round =>
    obtain ⟨k, hk, rfl, hy, hb⟩ := hrel
    have HY1 := Lib.hid hy
    have HB1 := Lib.hid hb
    clear hy hb HY HB
    by_cases hkl : k < len
    · have hkl' : (k : Int) < (len : Int) := by omega
      obtain ⟨bs, off, rfl, hbs, hcs⟩ := HL.out.2.2.2.2.elim (fun h0 => absurd h0 (by omega)) id
      have c0 : wr.cell? ⟨bs, off + k, none⟩ = some (.slice (A k) (N k) (C k)) := (HB1.out.cell (p := ⟨bs, off + k, none⟩) hbs).trans (hcs k hkl)
      have hrd := (HL.out.2.2.2.1 k hkl).1
      have HRD := Lib.hid hrd
      have HFK := Lib.hid (HL.out.2.2.1 k)
      clear hcs hrd hbs
      obtain ⟨m, hm⟩ : ∃ m, N k = m := ⟨_, rfl⟩
      have HM := Lib.hid hm
      rw [hm] at HRD c0
      clear hm
      by_cases h200 : 200 < m
      · have h200' : (200 : Int) < (m : Int) := by omega
        have HA := Lib.hid (HAL.out wr)
        go_wp2_with fail
        refine HA.out.mono ?_
        rintro e w2 ⟨rfl, hb2⟩
        have HB2 := Lib.hid (HB1.out.trans (hb2.mono HB1.out.size))
        clear hb2
        go_wp2_with fail
        go_ret
        exact ⟨rfl, HB2.out⟩
      · have h200' : ¬ (200 : Int) < (m : Int) := by omega
        have hlen : (lastY N F o k o).length = min k 8 := by unfold lastY; rw [upd_same]; exact lastL_len N F k
        have HC := Lib.hid (put_ok HY1.out HB1.out.size o (by omega) (by omega) (A k) m (C k) (F k) HFK.out (by omega) (by omega) (by omega) (HRD.out.below HB1.out (Nat.le_refl _)) (fun a ha h0 => .inl (rd_lt HRD.out a ha h0)))
        have hstep := lastY_step N F o k
        rw [HM.out] at hstep
        rw [hstep, hlen] at HC
        have hwk : IntKind.i64.wrap ((k : Int) + 1) = (k : Int) + 1 := by rw [IntKind.wrap_i64]; omega
        have hck : IntKind.u64.wrap ((k : Int) + 1) = (k : Int) + 1 := by rw [IntKind.wrap_u64]; omega
        clear hstep hlen
        by_cases h8 : k < 8
        · have h8' : ¬ (8 : Int) ≤ (k : Int) := by omega
          rw [if_neg (by omega), decide_eq_false (by omega)] at HC
          go_wp2_with fail
          refine HC.out.mono ?_
          rintro e w2 ⟨rfl, hy2, hk2⟩
          have HY2 := Lib.hid (show YW w2 w.heap.size g b (lastY N F o (k + 1)) (k + 1) (k + 1 - 8) from by
            rw [show k + 1 - 8 = k - 8 + 0 by omega]; exact hy2)
          have HB2 := Lib.hid (HB1.out.trans (hk2.below HB1.out.size))
          clear hy2 hk2 HC
          go_wp2_with fail
          go_round
          case rel => exact ⟨k + 1, by omega, by go_num, HY2.out, HB2.out⟩
          case measure => simp [intOf]; omega
        · have h8' : (8 : Int) ≤ (k : Int) := by omega
          rw [if_pos (by omega), decide_eq_true (by omega)] at HC
          go_wp2_with fail
          refine HC.out.mono ?_
          rintro e w2 ⟨rfl, hy2, hk2⟩
          have HY2 := Lib.hid (show YW w2 w.heap.size g b (lastY N F o (k + 1)) (k + 1) (k + 1 - 8) from by
            rw [show k + 1 - 8 = k - 8 + 1 by omega]; exact hy2)
          have HB2 := Lib.hid (HB1.out.trans (hk2.below HB1.out.size))
          clear hy2 hk2 HC
          go_wp2_with fail
          go_round
          case rel => exact ⟨k + 1, by omega, by go_num, HY2.out, HB2.out⟩
          case measure => simp [intOf]; omega
    · obtain rfl : k = len := by omega
      have hkl' : ¬ (k : Int) < (k : Int) := by omega
      have HC := Lib.hid (takeAll_any HY1.out o hok)
      have hlen : (lastY N F o k o).length = min k 8 := by unfold lastY; rw [upd_same]; exact lastL_len N F k
      have hdel : upd (lastY N F o k) o [] = fun _ => [] := by
        unfold lastY
        rw [upd_twice]
        exact upd_self (fun _ : Int => ([] : List Pk)) o
      rw [hlen, hdel] at HC
      have hYo : lastY N F o k o = lastL N F k := by unfold lastY; exact upd_same _ _ _
      rw [hYo] at HC
      clear hlen hdel hYo
      obtain ⟨m, hm⟩ : ∃ m, min k 8 = m := ⟨_, rfl⟩
      obtain ⟨fr, hfr⟩ : ∃ fr, k - 8 = fr := ⟨_, rfl⟩
      rw [hm, hfr] at HC
      have HMM := Lib.hid hm
      have hkm : k = m + fr := by omega
      have HKM := Lib.hid hkm
      have hw1 : IntKind.i64.wrap ((k : Int) - (fr : Int)) = (m : Int) := by rw [IntKind.wrap_i64]; omega
      have hw2 : IntKind.i64.wrap ((k : Int) - 8) = (k : Int) - 8 := by rw [IntKind.wrap_i64]; omega
      have HFR := Lib.hid hfr
      have hm8 : m ≤ 8 := by omega
      have hmk : m ≤ k := by omega
      have hEG := fun j (hj : j < m) => lastL_get N F k j (by omega)
      rw [hfr] at hEG
      have HEG := Lib.hid hEG
      clear hm hfr hkm hEG
      go_wp2_with fail
      refine HC.out.mono ?_
      rintro e w2 ⟨E, D, c2, rfl, hE, hrow, hls, hy2, hk2⟩
      have HT := Lib.hid (show Tk2 w g b o k fr D m c2 E w2 from ⟨hy2, ⟨_, hrow⟩, hls, HB1.out.trans (hk2.below HB1.out.size)⟩)
      have HEE := Lib.hid (show ∀ j, j < m → ∃ e, E[j]? = some e ∧ e.2 = mk N F (fr + j) from fun j hj => by
        have h1 := HEG.out j hj
        rw [← hE, List.getElem?_map] at h1
        obtain ⟨e, he, h2⟩ := Option.map_eq_some_iff.1 h1
        exact ⟨e, he, h2⟩)
      clear hE hrow hls hy2 hk2 HC HEG HY1 HB1
      go_upto_if 70 with fail
      go_cut [11] (fun v X => v = .int .i64 (fr : Nat) ∧ X = w2)
      case first =>
        by_cases h8 : 8 < k
        · have h8' : (8 : Int) < (k : Int) := by omega
          have hfr3 : (k : Int) - 8 = (fr : Int) := by have := HFR.out; omega
          go_wp2_with fail
          go_meet
          exact ⟨rfl, rfl⟩
        · have h8' : ¬ (8 : Int) < (k : Int) := by omega
          have hfr0 : fr = 0 := by have := HFR.out; omega
          go_wp2_with fail
          go_meet
          exact ⟨by rw [hfr0]; rfl, rfl⟩
      case rest =>
        obtain ⟨rfl, rfl⟩ := hcut
        clear hw2
        go_wp2_with fail
        go_loopw [12] (fun i X => ∃ j : Nat, j ≤ m ∧ i = .int .i64 (j : Nat) ∧ Tk2 w g b o k fr D m c2 E X) (fun i _ => m - (intOf i).toNat)
        case atStart => exact ⟨0, Nat.zero_le _, rfl, HT.out⟩
        case round =>
          obtain ⟨j, hj, rfl, ht⟩ := hrel
          have HT1 := Lib.hid ht
          clear ht HT
          by_cases hjm : j < m
          · have hjm' : (j : Int) < (m : Int) := by omega
            obtain ⟨e, he, he2⟩ := HEE.out j hjm
            obtain ⟨gd, hgd⟩ := HT1.out.block (by omega)
            subst hgd
            have HA := Lib.hid (fun X (h : Tk2 w g b o k fr (some ⟨gd, 0, none⟩) m c2 E X) => (h.at_ hjm he rfl).1)
            have HB2 := Lib.hid (fun X (h : Tk2 w g b o k fr (some ⟨gd, 0, none⟩) m c2 E X) => (h.at_ hjm he rfl).2.1)
            have HR2 := Lib.hid (fun X (h : Tk2 w g b o k fr (some ⟨gd, 0, none⟩) m c2 E X) => (h.at_ hjm he rfl).2.2)
            rw [he2] at HA HB2 HR2
            have hx : fr + j < k := by have := HKM.out; omega
            obtain ⟨bs, off, rfl, hbs, hcs⟩ := HL.out.2.2.2.2.elim (fun h0 => absurd h0 (by omega)) id
            have HL1 := Lib.hid (fun X (h : Tk2 w g b o k fr (some ⟨gd, 0, none⟩) m c2 E X) => (show X.cell? ⟨bs, off + (fr + j), none⟩ = some (.slice (A (fr + j)) (N (fr + j)) (C (fr + j))) from (h.bel.cell (p := ⟨bs, off + (fr + j), none⟩) hbs).trans (hcs _ hx)))
            have hrd := (HL.out.2.2.2.1 (fr + j) hx).1
            have HL2 := Lib.hid (fun X (h : Tk2 w g b o k fr (some ⟨gd, 0, none⟩) m c2 E X) => hrd.below h.bel (Nat.le_refl _))
            obtain ⟨q, hq⟩ : ∃ q, fr + j = q := ⟨_, rfl⟩
            rw [hq] at HA HB2 HR2 HL1 HL2 hx
            have hsum : (fr : Int) + (j : Int) = (q : Int) := by omega
            have hsw : IntKind.i64.wrap ((fr : Int) + (j : Int)) = (q : Int) := by rw [hsum, IntKind.wrap_i64]; omega
            have hqw : IntKind.i64.wrap (q : Int) = (q : Int) := by rw [IntKind.wrap_i64]; omega
            have hq1 : IntKind.i64.wrap ((q : Int) + 1) = (q : Int) + 1 := by rw [IntKind.wrap_i64]; omega
            have hq2 : IntKind.u64.wrap ((q : Int) + 1) = (q : Int) + 1 := by rw [IntKind.wrap_u64]; omega
            have hqk : (q : Int) < (k : Int) := by omega
            have hj1 : IntKind.i64.wrap ((j : Int) + 1) = (j : Int) + 1 := by rw [IntKind.wrap_i64]; omega
            clear hrd hcs hbs he he2 hq
            unfold mk at HA HB2 HR2
            dsimp only at HA HB2 HR2
            go_upto_region 21 with fail
            refine region_class (C := fun X => Tk2 w g b o k fr (some ⟨gd, 0, none⟩) m c2 E X) (by kernel_rfl) (by kernel_rfl) (HT1.out.below (below_drewN (Below.refl _ _) 1)) ?_
            refine Ops.wq_in ?_
            refine Ops.wq_take _ (by rfl) (fun X hx => by go_simp; try with_reducible rfl) ?_
            try simp only [Act.put, List.setIfInBounds_toArray, List.set_cons_zero, List.set_cons_succ]
            refine Ops.wq_take _ (by rfl) (fun X hx => by go_simp; try with_reducible rfl) ?_
            try simp only [Act.put, List.setIfInBounds_toArray, List.set_cons_zero, List.set_cons_succ]
            refine Ops.wq_take _ (by rfl) (fun X hx => by go_simp; try with_reducible rfl) ?_
            try simp only [Act.put, List.setIfInBounds_toArray, List.set_cons_zero, List.set_cons_succ]
            refine Ops.wq_take _ (by rfl) (fun X hx => by go_simp; try with_reducible rfl) ?_
            try simp only [Act.put, List.setIfInBounds_toArray, List.set_cons_zero, List.set_cons_succ]
            refine Ops.wq_take _ (by rfl) (fun X hx => by have cl := HB2.out X hx; go_simp; try with_reducible rfl) ?_
            try simp only [Act.put, List.setIfInBounds_toArray, List.set_cons_zero, List.set_cons_succ]
            refine Ops.wq_take _ (by rfl) (fun X hx => run_string_op 30 9 5 _ rfl rfl Try.underlying30 Try.underlying5 Try.underlying9 (HR2.out X hx)) ?_
            try simp only [Act.put, List.setIfInBounds_toArray, List.set_cons_zero, List.set_cons_succ]
            refine Ops.wq_take _ (by rfl) (fun X hx => by go_simp; try with_reducible rfl) ?_
            try simp only [Act.put, List.setIfInBounds_toArray, List.set_cons_zero, List.set_cons_succ]
            refine Ops.wq_take _ (by rfl) (fun X hx => by go_simp; try with_reducible rfl) ?_
            try simp only [Act.put, List.setIfInBounds_toArray, List.set_cons_zero, List.set_cons_succ]
            refine Ops.wq_take _ (by rfl) (fun X hx => by go_simp; try with_reducible rfl) ?_
            try simp only [Act.put, List.setIfInBounds_toArray, List.set_cons_zero, List.set_cons_succ]
            refine Ops.wq_take _ (by rfl) (fun X hx => by go_simp; try with_reducible rfl) ?_
            try simp only [Act.put, List.setIfInBounds_toArray, List.set_cons_zero, List.set_cons_succ]
            refine Ops.wq_take _ (by rfl) (fun X hx => by go_simp; try with_reducible rfl) ?_
            try simp only [Act.put, List.setIfInBounds_toArray, List.set_cons_zero, List.set_cons_succ]
            refine Ops.wq_take _ (by rfl) (fun X hx => by have cl := HL1.out X hx; go_simp; try with_reducible rfl) ?_
            try simp only [Act.put, List.setIfInBounds_toArray, List.set_cons_zero, List.set_cons_succ]
            refine Ops.wq_take _ (by rfl) (fun X hx => run_string_op 30 9 5 _ rfl rfl Try.underlying30 Try.underlying5 Try.underlying9 (HL2.out X hx)) ?_
            try simp only [Act.put, List.setIfInBounds_toArray, List.set_cons_zero, List.set_cons_succ]
            refine Ops.wq_take _ (by rfl) (fun X hx => by go_simp; try with_reducible rfl) ?_
            try simp only [Act.put, List.setIfInBounds_toArray, List.set_cons_zero, List.set_cons_succ]
            refine Ops.wq_take _ (by rfl) (fun X hx => by go_simp; try with_reducible rfl) ?_
            try simp only [Act.put, List.setIfInBounds_toArray, List.set_cons_zero, List.set_cons_succ]
            refine Ops.wq_take _ (by rfl) (fun X hx => by go_simp; try with_reducible rfl) ?_
            try simp only [Act.put, List.setIfInBounds_toArray, List.set_cons_zero, List.set_cons_succ]
            refine Ops.wq_take _ (by rfl) (fun X hx => by go_simp; try with_reducible rfl) ?_
            try simp only [Act.put, List.setIfInBounds_toArray, List.set_cons_zero, List.set_cons_succ]
            refine Ops.wq_take _ (by rfl) (fun X hx => by go_simp; try with_reducible rfl) ?_
            try simp only [Act.put, List.setIfInBounds_toArray, List.set_cons_zero, List.set_cons_succ]
            refine Ops.wq_take _ (by rfl) (fun X hx => by go_simp; try with_reducible rfl) ?_
            try simp only [Act.put, List.setIfInBounds_toArray, List.set_cons_zero, List.set_cons_succ]
            refine Ops.wq_take _ (by rfl) (fun X hx => by have cl := HA.out X hx; go_simp; try with_reducible rfl) ?_
            try simp only [Act.put, List.setIfInBounds_toArray, List.set_cons_zero, List.set_cons_succ]
            refine Ops.wq_take _ (by rfl) (fun X hx => by go_simp; try with_reducible rfl) ?_
            try simp only [Act.put, List.setIfInBounds_toArray, List.set_cons_zero, List.set_cons_succ]
            refine Ops.wq_take _ (by rfl) (fun X hx => by go_simp; try with_reducible rfl) ?_
            try simp only [Act.put, List.setIfInBounds_toArray, List.set_cons_zero, List.set_cons_succ]
            refine Ops.wq_take _ (by rfl) (fun X hx => by go_simp; try with_reducible rfl) ?_
            try simp only [Act.put, List.setIfInBounds_toArray, List.set_cons_zero, List.set_cons_succ]
            refine Ops.wq_take _ (by rfl) (fun X hx => by go_simp; try with_reducible rfl) ?_
            try simp only [Act.put, List.setIfInBounds_toArray, List.set_cons_zero, List.set_cons_succ]
            refine Ops.wq_take _ (by rfl) (fun X hx => by go_simp; try with_reducible rfl) ?_
            try simp only [Act.put, List.setIfInBounds_toArray, List.set_cons_zero, List.set_cons_succ]
            refine Ops.wq_take _ (by rfl) (fun X hx => by go_simp; try with_reducible rfl) ?_
            try simp only [Act.put, List.setIfInBounds_toArray, List.set_cons_zero, List.set_cons_succ]
            refine Ops.wq_take _ (by rfl) (fun X hx => by go_simp; try with_reducible rfl) ?_
            try simp only [Act.put, List.setIfInBounds_toArray, List.set_cons_zero, List.set_cons_succ]
            refine Ops.wq_end ?_
            intro X4 h4
            have H4 := Lib.hid h4
            clear h4
            go_wp2_with fail
            go_round
            case rel => exact ⟨j + 1, by omega, by go_num, H4.out⟩
            case measure => simp [intOf]; omega
          · obtain rfl : j = m := by omega
            have hjm' : ¬ (j : Int) < (j : Int) := by omega
            have HA := Lib.hid (HAL.out wr)
            go_wp2_with fail
            refine HA.out.mono ?_
            rintro e X2 ⟨rfl, hb2⟩
            have HT2 := Lib.hid (HT1.out.below hb2)
            have HAA := Lib.hid (all_any HT2.out.yw)
            clear hb2 HA HT1
            rw [show allN (fun _ => []) = 0 from rfl] at HAA
            go_wp2_with fail
            refine HAA.out.mono ?_
            rintro e X3 ⟨rfl, hb3⟩
            have HT3 := Lib.hid (HT2.out.below hb3)
            have HTH := Lib.hid (thrown_any HT3.out.yw)
            clear hb3 HAA HT2
            have hcf : IntKind.u64.wrap (fr : Int) = (fr : Int) := by have := HKM.out; rw [IntKind.wrap_u64]; omega
            go_wp2_with fail
            refine HTH.out.mono ?_
            rintro e X4 ⟨rfl, rfl⟩
            go_wp2_with fail
            go_ret
            exact ⟨rfl, HT3.out.bel⟩
end StagedLast
end Go.Proofs.Ytbmabfnjjflbnaa
