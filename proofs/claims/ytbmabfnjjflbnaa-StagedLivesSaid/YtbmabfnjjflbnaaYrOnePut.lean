/- One call of both yards: Put. -/
import Derived.Test.YtbmabfnjjflbnaaYrOne
namespace Go.Proofs.Ytbmabfnjjflbnaa
namespace Yd
open Go.ChangeShapes Go.WideShapes Go.ChangeAt Go.RowKit Go.Maps
open Num Mem Words Chacha Aead Poly Quiet RowV RowS

theorem rd_low {W X : World} {B : Nat} {A : Option Addr} {m : Nat} {f : Nat → Nat} (h : Rd W A m f) (hag : ∀ a, A = some a → m ≠ 0 → a.block < B) (hb : Below B W X) : Rd X A m f := by
  rcases h with h0 | ⟨b, off, rfl, hlt, hx⟩
  · exact .inl h0
  · rcases Nat.eq_zero_or_pos m with h0 | h0
    · exact .inl h0
    · have hB := hag _ rfl (by omega)
      exact .inr ⟨b, off, rfl, Nat.lt_of_lt_of_le hlt hb.size, fun i hi => (hb.cell (p := ⟨b, off + i, none⟩) hB).trans (hx i hi)⟩
/-- when the yard has got its packet, and the caller's own bytes are turned -/
structure Pu (B g b : Nat) (Y2 : Int → List Pk) (l2 t2 : Nat) (W X0 : World) (k m : Nat) (X : World) : Prop where
  yw : YW X B g b Y2 l2 t2
  av : ∀ o, ∀ x ∈ Y2 o, x.av = k
  keep : ∀ i t cs, Whole X0 i t cs → (t = 5 ∨ t = 59 ∨ t = 29 ∨ t = 32) → Whole X i t cs
  bel : Below B W X
  size : B ≤ X.heap.size
  row : 0 < m → ∃ cs, Whole X k 5 cs ∧ ∀ i, i < m → ∃ z : Int, cs[i]? = some (.int .u8 z)
theorem Pu.write {B g b l2 t2 k m : Nat} {Y2 : Int → List Pk} {W X0 X : World} (h : Pu B g b Y2 l2 t2 W X0 k m X) (hB : B ≤ X0.heap.size) (hk : X0.heap.size ≤ k) (i : Nat) (hi : i < m) (v : Int) : Pu B g b Y2 l2 t2 W X0 k m (X.setCell ⟨k, i, none⟩ (.int .u8 v)) := by
  obtain ⟨cs, hw, hc⟩ := h.row (by omega)
  refine ⟨h.yw.off hw h.av i _, h.av, fun j t ds e ht => (h.keep j t ds e ht).far (by have := e.lt; show j ≠ k; omega) _, h.bel.setCell (p := ⟨k, i, none⟩) (by show B ≤ k; omega) _, Nat.le_trans h.size (by simp [World.setCell]), fun _ => ⟨_, hw.put i _, fun j hj => ?_⟩⟩
  by_cases e : i = j
  · subst e
    obtain ⟨z, hz⟩ := hc i hj
    have hs : i < cs.size := (Array.getElem?_eq_some_iff.1 hz).1
    exact ⟨v, by rw [Array.getElem?_setIfInBounds_self_of_lt hs]⟩
  · obtain ⟨z, hz⟩ := hc j hj
    exact ⟨z, by rw [Array.getElem?_setIfInBounds_ne e]; exact hz⟩

set_option maxRecDepth 100000 in
set_option maxHeartbeats 4000000 in
theorem one_put {B g b x last thrown : Nat} {R : List RPk} {Y : Int → List Pk} {W : World} (h : Both B g b x R Y last thrown W) (o : Int) (hok : okI o) (A : Option Addr) (m c : Nat) (f : Nat → Nat) (hf : ∀ i, f i < 256) (hm : m ≤ 1510) (hl : last < 100000) (ht : thrown < 100000)
    (hrd : Rd W A m f) (hnil : A = none → m = 0 ∧ c = 0) (hag : ∀ a, A = some a → m ≠ 0 → a.block < B) :
    Calls Try.prog 10 #[.pointer (some ⟨g, 0, none⟩), .pointer (some ⟨x, 0, none⟩), .agg #[.int .i64 0, .int .i64 o, .slice A m c]] W fun e w' => e = .returned (.bool true) ∧ ∃ R' Y' l' t', Both B g b x R' Y' l' t' w' ∧ Below B W w' ∧ l' ≤ last + 1 ∧ t' ≤ thrown + 1 := by
  have HRD := Lib.hid hrd
  have HNIL := Lib.hid hnil
  have HAG := Lib.hid hag
  have HF := Lib.hid hf
  clear hrd hnil hag hf
  go_enter Try.func10, Try.ntmps10
  go_upto_region 1 with fail
  refine cut_world (fun X => St B g b x R Y last thrown W W.heap.size #[.int .i64 0, .int .i64 o, .slice A m c] X) (st_new h _) ?_
  generalize W.heap.size = tb
  clear h
  intro X hX
  have HX := Lib.hid hX
  have o0 : X.cell? ⟨tb, 0, none⟩ = _ := hX.op.cell 0
  have o1 : X.cell? ⟨tb, 1, none⟩ = _ := hX.op.cell 1
  clear hX
  have o2 : (X.alloc (.cells #[] 5)).cell? ⟨tb, 2, none⟩ = some (.slice A m c) := (HX.out.op.alloc _).cell 2
  have HSR := Lib.hid (src_rd (c := c) (rd_low HRD.out HAG.out (HX.out.bel.trans ((below_alloc (Below.refl _ _) (.cells #[] 5)).mono HX.out.both.base))) HNIL.out)
  go_upto_region 4 with (at_builtin; refine wpList_catFrom (W := X) (T := f) (f := f) rfl (.tmp 29) (.tmp 31) 30 5 (.int .u8 0) 1 Try.underlying30 (by kernel_rfl) rfl rfl rfl (World.ownsRow_made X #[] 0 (Nat.le_refl _) (Nat.zero_le _) rfl) (below_alloc (Below.refl _ _) _) (by simp) m c A rfl HSR.out (by omega) (by omega) (fun i hi => by rw [if_neg (by omega)]; rfl) ?_; intro A1 c1 w1 h1 h2 h3 h4 _; have H1 := Lib.hid h1; have H2 := Lib.hid h2; have H3 := Lib.hid h4.size; clear h1 h2 h3 h4)
  rw [Nat.zero_add] at H1
  have hB0 := HX.out.both.base
  have hsz : X.heap.size < w1.heap.size := by have := H3.out; simp at this; omega
  obtain ⟨k, hk1, hk2, hk3⟩ : ∃ k, X.heap.size ≤ k ∧ k < w1.heap.size ∧ (0 < m → A1 = some ⟨k, 0, none⟩) := by
    rcases Nat.eq_zero_or_pos m with h0 | h0
    · exact ⟨X.heap.size, Nat.le_refl _, hsz, fun h => by omega⟩
    · obtain ⟨g', e, hg1, hg2, _⟩ := own_cells (show w1.ownsRow X.heap.size 5 1 (.slice A1 m c1) m (byteCells f m) from H1.out) h0
      exact ⟨g', hg1, hg2, fun _ => e⟩
  have hbX : Below X.heap.size X w1 := H2.out
  have HS1 := Lib.hid (HX.out.below hbX)
  have hy1 := (HX.out.both.yw.reav_ k hk1).below hbX
  have hag1 := HX.out.both.ag.reav_ k
  obtain ⟨Y1, hY1⟩ : ∃ Y1 : Int → List Pk, (fun o => (Y o).map (reav k)) = Y1 := ⟨_, rfl⟩
  have hav1 : ∀ o, ∀ z ∈ Y1 o, z.av = k := by
    intro o' z hz
    rw [← hY1] at hz
    obtain ⟨y, _, rfl⟩ := List.mem_map.1 hz
    rfl
  have hall1 : allN Y1 = R.length := by
    rw [← hY1, ← HX.out.both.all]
    unfold allN
    congr 1
    funext o'
    exact List.length_map ..
  rw [hY1] at hy1 hag1
  have hrow1 : 0 < m → ∃ cs, Whole w1 k 5 cs ∧ ∀ i, i < m → ∃ z : Int, cs[i]? = some (.int .u8 z) := fun h0 => by
    rcases H1.out.2 with ⟨_, h⟩ | ⟨g', cap, cur, e, _, hh, _, _, _, ht⟩
    · omega
    · rw [hk3 h0] at e
      injection e with e _ _
      injection e with e
      injection e with e
      subst e
      refine ⟨cur, hh, fun i hi => ⟨(f i : Nat), ?_⟩⟩
      have h1 := byteCells_get f m i hi
      rw [← ht, List.getElem?_take] at h1
      split at h1
      · rw [← Array.getElem?_toList]; exact h1
      · cases h1
  have hP1 : Pu B g b Y1 last thrown W X k m w1 := ⟨hy1, hav1, fun i t cs e _ => e.below hbX e.lt, HX.out.bel.trans (hbX.mono hB0), Nat.le_trans hB0 (Nat.le_of_lt hsz), hrow1⟩
  have hRY : ∀ {Y2 : Int → List Pk} {l2 t2 : Nat} {V : World}, Pu B g b Y2 l2 t2 W X k m V → RY V B x R last thrown := fun hV => HX.out.both.ry.keep fun i t cs e ht => hV.keep i t cs e (ht.elim Or.inl fun h => Or.inr (h.elim Or.inl fun h => Or.inr (Or.inl h)))
  have hfewR := HX.out.both.few
  have hpu : ∀ {Y2 : Int → List Pk} {l2 t2 : Nat} {w' : World}, YW w' B g b Y2 l2 t2 → (∀ o, ∀ z ∈ Y2 o, z.av = k) → Yk B w1 w' → Pu B g b Y2 l2 t2 W X k m w' := fun hyw hav hyk => ⟨hyw, hav, fun i t cs e ht => hyk.whole (hP1.keep i t cs e ht) (by rcases ht with rfl | rfl | rfl | rfl <;> decide) (by rcases ht with rfl | rfl | rfl | rfl <;> decide), hP1.bel.trans (hyk.below hP1.size), Nat.le_trans hP1.size hyk.size, fun h0 => by obtain ⟨cs, hw, hc⟩ := hrow1 h0; exact ⟨cs, hyk.whole hw (by decide) (by decide), hc⟩⟩
  have HYP : Calls Try.prog 15 #[.pointer (some ⟨g, 0, none⟩), .int .i64 o, .slice A1 m c1] w1 fun e w' => ∃ (n1 : Nat) (b1 : Bool) (e1 : Int) (Y2 : Int → List Pk) (l2 t2 : Nat), e = .returned (.tuple #[.int .u64 (n1 : Nat), .bool b1, .int .i64 e1]) ∧ Pu B g b Y2 l2 t2 W X k m w' ∧ l2 ≤ last + 1 ∧ t2 ≤ thrown + 1 ∧
      ∀ V, Pu B g b Y2 l2 t2 W X k m V → Calls Try.prog 19 #[.pointer (some ⟨x, 0, none⟩), .int .i64 o, .slice A m c] V fun e w'' => e = .returned (.tuple #[.int .u64 (n1 : Nat), .bool b1, .int .i64 e1]) ∧ ∃ R', Both B g b x R' Y2 l2 t2 w'' ∧ Below B W w'' := by
    have hsame : ∀ V, Pu B g b Y1 last thrown W X k m V → ∃ R', Both B g b x R' Y1 last thrown V ∧ Below B W V := fun V hV => ⟨R, ⟨hV.yw, hRY hV, hag1, hall1, hV.size⟩, hV.bel⟩
    by_cases ho : 1 ≤ o ∧ o ≤ 16
    · obtain ⟨ho1, ho2⟩ := ho
      by_cases h15 : m ≤ 1500
      · have hfew := hy1.few o
        refine (put_okA hy1 hP1.size o ho1 ho2 A1 m c1 f k hk2 HF.out h15 (by omega) (by omega) H1.out.rd (fun a ha h0 => ?_)).mono ?_
        · rw [hk3 (by omega)] at ha
          injection ha with ha
          subst ha
          obtain ⟨cs, hw, _⟩ := hrow1 (by omega)
          exact .inr ⟨cs, _, _, hw, by decide, by decide⟩
        · rintro e w' ⟨rfl, hyw, hyk⟩
          refine ⟨last + 1, _, 0, _, _, _, rfl, hpu hyw (fun o' z hz => ?_) hyk, Nat.le_refl _, by split <;> omega, fun V hV => ?_⟩
          · by_cases e : o' = o
            · subst e
              rw [upd_same] at hz
              unfold pushP at hz
              split at hz
              · rcases List.mem_append.1 hz with h | h
                · exact hav1 _ z (List.mem_of_mem_tail h)
                · rw [List.mem_singleton] at h; rw [h]
              · rcases List.mem_append.1 hz with h | h
                · exact hav1 _ z h
                · rw [List.mem_singleton] at h; rw [h]
            · rw [upd_other _ _ e] at hz
              exact hav1 _ z hz
          · refine (rput_ok (hRY hV) (by omega) o ho1 ho2 A m c f HF.out h15 (by omega) (by omega) (rd_low HRD.out HAG.out hV.bel) HNIL.out HAG.out).mono ?_
            rintro e w'' ⟨p, R', hp1, hp2, hpr, rfl, hry, hrk⟩
            obtain ⟨q1, q2, q3⟩ := hag1.put_ hp1 ⟨last + 1, m, f, k⟩ (by rw [hp2]; rfl) hfew hpr
            have hal := allN_upd (Y := Y1) o ho1 ho2 (pushP (Y1 o) ⟨last + 1, m, f, k⟩)
            have hpl := pushP_length (Y1 o) ⟨last + 1, m, f, k⟩
            have hi8 : (if 8 < wt o (R ++ [p]) then 1 else 0) = (if (Y1 o).length = 8 then 1 else 0) := by
              have h1 := q3
              by_cases e : (Y1 o).length = 8
              · rw [decide_eq_true e, decide_eq_true_eq] at h1
                rw [if_pos e, if_pos h1]
              · rw [decide_eq_false e, decide_eq_false_iff_not] at h1
                rw [if_neg e, if_neg h1]
            rw [hi8] at hry
            refine ⟨by rw [q3], R', ⟨hV.yw.keepR hrk, hry, q1, by omega, Nat.le_trans hV.size hrk.size⟩, hV.bel.trans (hrk.below hV.size)⟩
      · refine (put_long g b _ _ o A1 m c1 w1 hy1.obj ho1 ho2 (by omega)).mono ?_
        rintro e w' ⟨rfl, rfl⟩
        refine ⟨0, false, 2, Y1, last, thrown, rfl, hP1, by omega, by omega, fun V hV => (rput_long x o A m c V ho1 ho2 (by omega)).mono ?_⟩
        rintro e w'' ⟨rfl, rfl⟩
        exact ⟨rfl, hsame _ hV⟩
    · have hlow : ∀ V, Pu B g b Y1 last thrown W X k m V → Calls Try.prog 19 #[.pointer (some ⟨x, 0, none⟩), .int .i64 o, .slice A m c] V fun e w'' => e = .returned (.tuple #[.int .u64 (0 : Nat), .bool false, .int .i64 1]) ∧ ∃ R', Both B g b x R' Y1 last thrown w'' ∧ Below B W w'' := fun V hV => (rput_low x o A m c V (by omega)).mono (by
        rintro e w'' ⟨rfl, rfl⟩
        exact ⟨rfl, hsame _ hV⟩)
      by_cases h1 : o < 1
      · refine (put_low g b _ _ o A1 m c1 w1 hy1.obj h1).mono ?_
        rintro e w' ⟨rfl, rfl⟩
        exact ⟨0, false, 1, Y1, last, thrown, rfl, hP1, by omega, by omega, hlow⟩
      · refine (put_high g b _ _ o A1 m c1 w1 hy1.obj (by omega)).mono ?_
        rintro e w' ⟨rfl, rfl⟩
        exact ⟨0, false, 1, Y1, last, thrown, rfl, hP1, by omega, by omega, hlow⟩
  have HY := Lib.hid HYP
  have HK3 := Lib.hid hk3
  have HK1 := Lib.hid hk1
  have HB0 := Lib.hid hB0
  have HOP := Lib.hid (fun (Y2 : Int → List Pk) (l2 t2 : Nat) (V : World) (hV : Pu B g b Y2 l2 t2 W X k m V) => hV.keep _ _ _ HX.out.op (.inr (.inr (.inr rfl))))
  have o1 : w1.cell? ⟨tb, 1, none⟩ = some (.int .i64 o) := HS1.out.op.cell 1
  clear HYP hk3 hk1 hk2 hB0 hsz hbX hy1 hag1 hY1 hav1 hall1 hrow1 hP1 hRY hfewR hpu HRD HNIL HAG HF HSR H1 H2 H3 HS1
  go_wp2_with fail
  refine HY.out.mono ?_
  rintro e w2 ⟨n1, b1, e1, Y2, l2, t2, rfl, hP2, hl2, ht2, hend⟩
  have HP2 := Lib.hid hP2
  have HEND := Lib.hid hend
  clear hP2 hend HY o1
  go_wp2_with fail
  go_loopw [11] (fun i wr => ∃ j : Nat, j ≤ m ∧ i = .int .i64 j ∧ Pu B g b Y2 l2 t2 W X k m wr) (fun i _ => m - (intOf i).toNat)
  case atStart => exact ⟨0, Nat.zero_le _, rfl, HP2.out⟩
  case round =>
    obtain ⟨j, hj, rfl, hV⟩ := hrel
    have HV := Lib.hid hV
    clear hV HP2
    by_cases hlt : j < m
    · obtain rfl := HK3.out (by omega)
      obtain ⟨cs, hw, hc⟩ := HV.out.row (by omega)
      obtain ⟨z, hz⟩ := hc j hlt
      have cj : wr.cell? ⟨k, j, none⟩ = some (.int .u8 z) := by rw [hw.cell]; exact hz
      have fj : wr.frozen? ⟨k, j, none⟩ = false := hw.free j
      have HNX := Lib.hid (fun v => HV.out.write HB0.out HK1.out j hlt v)
      clear hw hc hz
      go_wp2_with fail
      go_round
      case rel => exact ⟨j + 1, by omega, by go_num, HNX.out _⟩
      case measure => simp [intOf]; omega
    · obtain rfl : j = m := by omega
      have hop := HOP.out _ _ _ _ HV.out
      have o1 : wr.cell? ⟨tb, 1, none⟩ = some (.int .i64 o) := hop.cell 1
      have o2 : wr.cell? ⟨tb, 2, none⟩ = some (.slice A j c) := hop.cell 2
      have HE := Lib.hid (HEND.out _ HV.out)
      clear hop HEND HOP
      have e1' : ((n1 : Int) == (n1 : Int)) = true := beq_self_eq_true _
      have e2' : (b1 == b1) = true := beq_self_eq_true _
      have e3' : (e1 == e1) = true := beq_self_eq_true _
      go_wp2_with fail
      refine HE.out.mono ?_
      rintro e w5 ⟨rfl, R', hbo, hbw⟩
      have H5 := Lib.hid (show Both B g b x R' Y2 l2 t2 w5 ∧ Below B W w5 from ⟨hbo, hbw⟩)
      clear hbo hbw HE
      go_wp2_with fail
      go_ret
      exact ⟨rfl, R', Y2, l2, t2, H5.out.1, H5.out.2, hl2, ht2⟩
end Yd
end Go.Proofs.Ytbmabfnjjflbnaa
