/- One call of both yards: Take; what is no call. -/
import Derived.Test.YtbmabfnjjflbnaaYrSame
import Derived.Test.YtbmabfnjjflbnaaOps
namespace Go.Proofs.Ytbmabfnjjflbnaa
namespace Yd
open Go.ChangeShapes Go.WideShapes Go.ChangeAt Go.RowKit Go.Maps
open Num Mem Words Chacha Aead Poly Quiet RowV RowS

/-- both yards in memory, with the same in them -/
structure Both (B g b x : Nat) (R : List RPk) (Y : Int → List Pk) (last thrown : Nat) (X : World) : Prop where
  yw : YW X B g b Y last thrown
  ry : RY X B x R last thrown
  ag : Ag Y R
  all : allN Y = R.length
  base : B ≤ X.heap.size
section
variable {B g b x last thrown : Nat} {R : List RPk} {Y : Int → List Pk} {X X' : World}
theorem Both.below (h : Both B g b x R Y last thrown X) (hb : Below X.heap.size X X') : Both B g b x R Y last thrown X' := ⟨h.yw.below hb, h.ry.below hb, h.ag, h.all, Nat.le_trans h.base hb.size⟩
theorem allN_le {w : World} (h : YW w B g b Y last thrown) : allN Y ≤ 128 := by
  have := sumN_le (c := fun o => (Y o).length) (b := 8) (fun o => h.few o) 16
  exact this
theorem Both.few (h : Both B g b x R Y last thrown X) : R.length ≤ 128 := by rw [← h.all]; exact allN_le h.yw
end

set_option maxRecDepth 100000 in
theorem one_else (k o : Int) (A : Option Addr) (m c : Nat) (hk : k ≠ 0 ∧ k ≠ 1 ∧ k ≠ 2 ∧ k ≠ 3) (P Q : Value) (W : World) :
    Calls Try.prog 10 #[P, Q, .agg #[.int .i64 k, .int .i64 o, .slice A m c]] W fun e w' => e = .returned (.bool true) ∧ Below W.heap.size W w' := by
  have e0 : (k == 0) = false := by rw [beq_eq_false_iff_ne]; exact hk.1
  have e1 : (k == 1) = false := by rw [beq_eq_false_iff_ne]; exact hk.2.1
  have e2 : (k == 2) = false := by rw [beq_eq_false_iff_ne]; exact hk.2.2.1
  have e3 : (k == 3) = false := by rw [beq_eq_false_iff_ne]; exact hk.2.2.2
  have e0' : (k = 0) = False := eq_false hk.1
  have e1' : (k = 1) = False := eq_false hk.2.1
  have e2' : (k = 2) = False := eq_false hk.2.2.1
  have e3' : (k = 3) = False := eq_false hk.2.2.2
  go_enter Try.func10, Try.ntmps10
  go_wp2_with fail
  go_ret
  exact ⟨rfl, below_alloc (Below.refl _ _) _⟩

/-- within a call -/
structure St (B g b x : Nat) (R : List RPk) (Y : Int → List Pk) (last thrown : Nat) (W : World) (tb : Nat) (q : Array Value) (X : World) : Prop where
  both : Both B g b x R Y last thrown X
  op : Whole X tb 32 q
  bel : Below B W X
section
variable {B g b x last thrown last' thrown' tb : Nat} {R R' : List RPk} {Y Y' : Int → List Pk} {W X X' : World} {q : Array Value}
theorem St.below (h : St B g b x R Y last thrown W tb q X) (hb : Below X.heap.size X X') : St B g b x R Y last thrown W tb q X' := ⟨h.both.below hb, h.op.below hb h.op.lt, h.bel.trans (hb.mono h.both.base)⟩
theorem st_new (h : Both B g b x R Y last thrown W) (q : Array Value) : St B g b x R Y last thrown W W.heap.size q (W.alloc (.cells q 32)) :=
  ⟨h.below (below_alloc (Below.refl _ _) _), Whole.new _ _ _, (below_alloc (Below.refl W.heap.size W) _).mono h.base⟩
end
set_option maxRecDepth 100000 in
set_option maxHeartbeats 4000000 in
theorem one_take {B g b x last thrown : Nat} {R : List RPk} {Y : Int → List Pk} {W : World} (h : Both B g b x R Y last thrown W) (o : Int) (hok : okI o) (A : Option Addr) (m c : Nat) :
    Calls Try.prog 10 #[.pointer (some ⟨g, 0, none⟩), .pointer (some ⟨x, 0, none⟩), .agg #[.int .i64 1, .int .i64 o, .slice A m c]] W fun e w' => e = .returned (.bool true) ∧ ∃ R' Y', Both B g b x R' Y' last thrown w' ∧ Below B W w' := by
  go_enter Try.func10, Try.ntmps10
  go_upto_region 1 with fail
  refine cut_world (fun X => St B g b x R Y last thrown W W.heap.size #[.int .i64 1, .int .i64 o, .slice A m c] X) (st_new h _) ?_
  generalize W.heap.size = tb
  clear h
  intro X hX
  have HX := Lib.hid hX
  have o0 : X.cell? ⟨tb, 0, none⟩ = _ := hX.op.cell 0
  have o1 : X.cell? ⟨tb, 1, none⟩ = _ := hX.op.cell 1
  clear hX
  rcases hY : Y o with _ | ⟨z, L⟩
  · have HC := Lib.hid (take_none HX.out.both.yw o hok hY)
    have HY := Lib.hid hY
    clear hY
    go_wp2_with fail
    refine HC.out.mono ?_
    rintro e w2 ⟨rfl, hb2⟩
    have H2 := Lib.hid (HX.out.below hb2)
    have o1 : w2.cell? ⟨tb, 1, none⟩ = some (.int .i64 o) := H2.out.op.cell 1
    have hb3 : Below w2.heap.size w2 (w2.alloc (.cells zeroP.toArray 46)) := below_alloc (Below.refl _ _) _
    have H3 := Lib.hid (H2.out.below hb3)
    have HR := Lib.hid (rtake_any H3.out.both.ry (by have := H2.out.both.few; omega) o)
    have htp : tb < w2.heap.size := H2.out.op.lt
    clear HC hb2 hb3
    unfold zeroP
    go_wp2_with fail
    refine HR.out.mono ?_
    rintro e w4 (⟨i, q, hq, hqo, hqn, rfl, _⟩ | ⟨hno, rfl, hb4⟩)
    · exact (H2.out.both.ag.never HY.out hq hqo).elim
    have hw : Whole (w2.alloc (.cells zeroP.toArray 46)) w2.heap.size 46 zeroP.toArray := Whole.new _ _ _
    have hb5 : Below w4.heap.size w4 (w4.alloc (.cells zeroR.toArray 59)) := below_alloc (Below.refl _ _) _
    have hw5 := (hw.below hb4 hw.lt).below hb5 (hw.below hb4 hw.lt).lt
    have H5 := Lib.hid ((H3.out.below hb4).below hb5)
    have CS := Lib.hid (fun V => same_yes 0 0 0 0 0 none none (fun _ => 0) V (.inl rfl) (.inl rfl))
    unfold zeroR at H5 hw5
    generalize w2.heap.size = t15 at *
    have p0 : (w4.alloc (.cells #[.int .i64 0, .int .u64 0, .slice none 0 0] 59)).cell? ⟨t15, 0, none⟩ = some (.int .u64 0) := hw5.cell 0
    have p1 : (w4.alloc (.cells #[.int .i64 0, .int .u64 0, .slice none 0 0] 59)).cell? ⟨t15, 1, none⟩ = some (.slice none 0 0) := hw5.cell 1
    clear hb4 hw hw5 hb5 HR hno
    unfold zeroR
    go_wp2_with fail
    refine (CS.out _).mono ?_
    rintro e w6 ⟨rfl, hb6⟩
    have H6 := Lib.hid (H5.out.below hb6)
    clear hb6 p0 p1
    go_wp2_with fail
    go_ret
    exact ⟨rfl, R, Y, H6.out.both, H6.out.bel⟩
  · have HC := Lib.hid (take_some HX.out.both.yw o hok z L hY)
    have HY := Lib.hid hY
    have hal := allN_take HX.out.both.yw hY
    have HAL := Lib.hid hal
    clear hY hal
    go_wp2_with fail
    refine HC.out.mono ?_
    rintro e w2 ⟨a, rfl, ha, hyw, hyk⟩
    have HOP := Lib.hid (hyk.whole HX.out.op (by decide) (by decide))
    have HRY := Lib.hid (HX.out.both.ry.keepY hyk)
    have HYW := Lib.hid hyw
    have HA := Lib.hid ha
    have HB := Lib.hid (HX.out.bel.trans (hyk.below HX.out.both.base))
    have HS := Lib.hid (Nat.le_trans HX.out.both.base hyk.size)
    clear ha hyw hyk HC
    have o1 : w2.cell? ⟨tb, 1, none⟩ = some (.int .i64 o) := HOP.out.cell 1
    have hb3 : Below w2.heap.size w2 (w2.alloc (.cells (pkL a z).toArray 46)) := below_alloc (Below.refl _ _) _
    have HR := Lib.hid (rtake_any (HRY.out.below hb3) (by have := HX.out.both.few; omega) o)
    have HB3 := Lib.hid hb3
    have htp : tb < w2.heap.size := HOP.out.lt
    clear hb3
    unfold pkV pkL
    unfold pkL at HR HB3
    go_wp2_with fail
    refine HR.out.mono ?_
    rintro e w4 (⟨i, q, hq, hqo, hqn, rfl, hry, hg⟩ | ⟨hno, _⟩)
    · obtain ⟨hag, hqx⟩ := HX.out.both.ag.take_ HY.out hq hqo hqn
      obtain ⟨A3, c3, hr3⟩ := HRY.out.below HB3.out
      have hx3 := hr3.obj
      have hst : ∀ {i : Nat} {t : TypeId} {cs : Array Value}, Whole (w2.alloc (.cells #[.int .u64 (z.num : Nat), .slice (some ⟨a, 0, none⟩) z.len z.len] 46)) i t cs → t ≠ 29 → Whole w4 i t cs := fun e ht => whole_grown e hg (by rintro rfl; exact ht (whole_type e hx3))
      have hrd : Rd w4 q.A q.x.len q.x.f := Own.rd (c := q.c) (own_stays (hr3.own q (List.mem_of_getElem? hq)) (fun i cs e => hst e (by decide)))
      have hw4 := hst (Whole.new w2 46 #[.int .u64 (z.num : Nat), .slice (some ⟨a, 0, none⟩) z.len z.len]) (by decide)
      have ha4 := hst (HA.out.below HB3.out HA.out.lt) (by decide)
      have hop4 := hst (HOP.out.below HB3.out HOP.out.lt) (by decide)
      have hyw4 := (HYW.out.below HB3.out).grown hg (fun k hk => by injection hk with hk; subst hk; exact ⟨_, _, hx3, by decide, by decide, by decide⟩)
      have hbel4 : Below B W w4 := (HB.out.trans (HB3.out.mono HS.out)).trans ⟨hg.os, hg.tape, hg.output, hg.size, fun k hk => hg.block k (by have := HB3.out.size; have := HS.out; omega) (by intro e; injection e with e; have := hr3.bx; omega)⟩
      have hq3 : q.x.num = z.num ∧ q.x.len = z.len ∧ q.x.f = z.f := by rw [hqx]; exact ⟨rfl, rfl, rfl⟩
      have H4 := Lib.hid (show St B g b x (R.take i ++ R.drop (i + 1)) (upd Y o L) last thrown W tb #[.int .i64 1, .int .i64 o, .slice A m c] w4 from ⟨⟨hyw4, hry, hag, by have h1 := HAL.out; have h2 := del_length hq; have h3 := HX.out.both.all; omega, by have h1 := HB3.out.size; have h2 := hg.size; have h3 := HS.out; omega⟩, hop4, hbel4⟩)
      obtain ⟨qo, ⟨qn, ql, qf, qv⟩, qA, qc⟩ := q
      simp only at hq3
      obtain ⟨rfl, rfl, rfl⟩ := hq3
      have hb5 : Below w4.heap.size w4 (w4.alloc (.cells #[.int .i64 qo, .int .u64 (z.num : Nat), .slice qA z.len qc] 59)) := below_alloc (Below.refl _ _) _
      have hw5 := hw4.below hb5 hw4.lt
      have H5 := Lib.hid (H4.out.below hb5)
      have CS := Lib.hid (same_yes z.num z.len z.len qc qo (some ⟨a, 0, none⟩) qA z.f _ (Rd.of_whole (ha4.below hb5 ha4.lt)) (hrd.below hb5 (Nat.le_refl _)))
      generalize w2.heap.size = t15 at *
      have p0 : (w4.alloc (.cells #[.int .i64 qo, .int .u64 (z.num : Nat), .slice qA z.len qc] 59)).cell? ⟨t15, 0, none⟩ = some (.int .u64 (z.num : Nat)) := hw5.cell 0
      have p1 : (w4.alloc (.cells #[.int .i64 qo, .int .u64 (z.num : Nat), .slice qA z.len qc] 59)).cell? ⟨t15, 1, none⟩ = some (.slice (some ⟨a, 0, none⟩) z.len z.len) := hw5.cell 1
      clear hw5 hb5 HR hg hag hqx hr3 hx3 hst hrd hw4 ha4 hop4 hyw4 hbel4 hry hq hqo hqn
      unfold rpL
      go_wp2_with fail
      refine CS.out.mono ?_
      rintro e w6 ⟨rfl, hb6⟩
      have H6 := Lib.hid (H5.out.below hb6)
      clear hb6 p0 p1
      go_wp2_with fail
      go_ret
      exact ⟨rfl, _, _, H6.out.both, H6.out.bel⟩
    · have := HX.out.both.ag.none_ hno
      rw [HY.out] at this
      cases this
end Yd
end Go.Proofs.Ytbmabfnjjflbnaa
