/- One call of both yards: Drop. -/
import Derived.Test.YtbmabfnjjflbnaaYrOne
namespace Go.Proofs.Ytbmabfnjjflbnaa
namespace Yd
open Go.ChangeShapes Go.WideShapes Go.ChangeAt Go.RowKit Go.Maps
open Num Mem Words Chacha Aead Poly Quiet RowV RowS

/-- while the document's yard is emptied of an owner's packets -/
structure Dr (B g b x : Nat) (R : List RPk) (Y Y0 : Int → List Pk) (last thrown : Nat) (W : World) (tb : Nat) (qv : Array Value) (o : Int) (j : Nat) (R1 : List RPk) (X : World) : Prop where
  yw : YW X B g b Y0 last thrown
  ry : RY X B x R1 last thrown
  op : Whole X tb 32 qv
  bel : Below B W X
  size : B ≤ X.heap.size
  mine : ((Y o).drop j).map strip = fl o R1
  oth : ∀ o', o' ≠ o → fl o' R1 = fl o' R
  len : R1.length + j = R.length
section
variable {B g b x last thrown tb j : Nat} {R R1 : List RPk} {Y Y0 : Int → List Pk} {W X X' : World} {qv : Array Value} {o : Int}
theorem Dr.below (h : Dr B g b x R Y Y0 last thrown W tb qv o j R1 X) (hb : Below X.heap.size X X') : Dr B g b x R Y Y0 last thrown W tb qv o j R1 X' :=
  ⟨h.yw.below hb, h.ry.below hb, h.op.below hb h.op.lt, h.bel.trans (hb.mono h.size), Nat.le_trans h.size hb.size, h.mine, h.oth, h.len⟩
theorem Dr.step (h : Dr B g b x R Y Y0 last thrown W tb qv o j R1 X) {i : Nat} {q : RPk} (hq : R1[i]? = some q) (hqo : q.o = o) (hqn : ∀ q' ∈ R1.take i, q'.o ≠ o) (hry : RY X' B x (R1.take i ++ R1.drop (i + 1)) last thrown) (hg : X.grownBy X' (some x)) :
    Dr B g b x R Y Y0 last thrown W tb qv o (j + 1) (R1.take i ++ R1.drop (i + 1)) X' ∧ (Y o)[j]?.map strip = some q.x ∧ ∀ {i : Nat} {t : TypeId} {cs : Array Value}, Whole X i t cs → t ≠ 29 → Whole X' i t cs := by
  obtain ⟨A3, c3, hr3⟩ := h.ry
  have hx3 := hr3.obj
  have hst : ∀ {i : Nat} {t : TypeId} {cs : Array Value}, Whole X i t cs → t ≠ 29 → Whole X' i t cs := fun e ht => whole_grown e hg (by rintro rfl; exact ht (whole_type e hx3))
  have h1 := fl_del hq hqo hqn
  rw [← h.mine] at h1
  have hl := del_length hq
  refine ⟨⟨h.yw.grown hg (fun k hk => by injection hk with hk; subst hk; exact ⟨_, _, hx3, by decide, by decide, by decide⟩), hry, hst h.op (by decide), h.bel.trans ⟨hg.os, hg.tape, hg.output, hg.size, fun k hk => hg.block k (Nat.lt_of_lt_of_le hk h.size) (by intro e; injection e with e; have := hr3.bx; omega)⟩, Nat.le_trans h.size hg.size, ?_, fun o' ho => ?_, ?_⟩, ?_, hst⟩
  · rw [show (Y o).drop (j + 1) = ((Y o).drop j).drop 1 by rw [List.drop_drop]]
    rcases hd : (Y o).drop j with _ | ⟨z, L⟩
    · rw [hd] at h1; cases h1
    · rw [hd] at h1
      exact (List.cons.inj h1).2
  · rw [← h.oth o' ho, fl_del' hq (by rw [hqo]; exact fun e => ho e.symm)]
  · have := h.len; omega
  · rcases hd : (Y o).drop j with _ | ⟨z, L⟩
    · rw [hd] at h1; cases h1
    · rw [hd] at h1
      injection h1 with h1 _
      have : (Y o)[j]? = some z := by
        have := congrArg (fun l : List Pk => l[0]?) hd
        simpa using this
      rw [this]
      exact congrArg some h1
theorem Dr.none_ (h : Dr B g b x R Y Y0 last thrown W tb qv o j R1 X) (hn : ∀ q ∈ R1, q.o ≠ o) : (Y o).length ≤ j := by
  have := h.mine
  rw [fl_none hn, List.map_eq_nil_iff, List.drop_eq_nil_iff] at this
  exact this
theorem Dr.ag (h : Dr B g b x R Y Y0 last thrown W tb qv o j R1 X) (ha : Ag Y R) (hj : (Y o).length = j) : Ag (upd Y o []) R1 := fun o' => by
  by_cases e : o' = o
  · subst e
    rw [upd_same]
    have := h.mine
    rw [List.drop_eq_nil_of_le (by omega)] at this
    exact this
  · rw [upd_other _ _ e, ha o', h.oth o' e]
end

set_option maxRecDepth 100000 in
set_option maxHeartbeats 4000000 in
theorem one_drop {B g b x last thrown : Nat} {R : List RPk} {Y : Int → List Pk} {W : World} (h : Both B g b x R Y last thrown W) (o : Int) (hok : okI o) (ht : thrown < 1000000) (A : Option Addr) (m c : Nat) :
    Calls Try.prog 10 #[.pointer (some ⟨g, 0, none⟩), .pointer (some ⟨x, 0, none⟩), .agg #[.int .i64 3, .int .i64 o, .slice A m c]] W fun e w' => e = .returned (.bool true) ∧ ∃ R' Y', Both B g b x R' Y' last (thrown + (Y o).length) w' ∧ Below B W w' := by
  have HFE := Lib.hid h.few
  have HAL := Lib.hid (allN_del h.yw o)
  have HALL := Lib.hid h.all
  have HAG := Lib.hid h.ag
  have hfew := h.yw.few o
  obtain ⟨n, hn⟩ : ∃ n, (Y o).length = n := ⟨_, rfl⟩
  rw [hn] at hfew ⊢
  have HN := Lib.hid hn
  go_enter Try.func10, Try.ntmps10
  go_upto_region 1 with fail
  refine cut_world (fun X => St B g b x R Y last thrown W W.heap.size #[.int .i64 3, .int .i64 o, .slice A m c] X) (st_new h _) ?_
  generalize W.heap.size = tb
  clear h
  intro X hX
  have HX := Lib.hid hX
  have o0 : X.cell? ⟨tb, 0, none⟩ = _ := hX.op.cell 0
  have o1 : X.cell? ⟨tb, 1, none⟩ = _ := hX.op.cell 1
  clear hX
  have HW := Lib.hid (rwaits_any HX.out.both.ry (by have := HFE.out; omega) o)
  rw [HAG.out.wait_ o, hn] at HW
  have hD : Dr B g b x R Y Y last thrown W tb #[.int .i64 3, .int .i64 o, .slice A m c] o 0 R X := ⟨HX.out.both.yw, HX.out.both.ry, HX.out.op, HX.out.bel, HX.out.both.base, HAG.out o, fun _ _ => rfl, rfl⟩
  have HD := Lib.hid hD
  clear hn hD
  go_wp2_with fail
  refine HW.out.mono ?_
  rintro e w2 ⟨rfl, rfl⟩
  clear HW HX
  go_wp2_with fail
  go_loopw [20] (fun i wr => ∃ (j : Nat) (R1 : List RPk), j ≤ n ∧ i = .int .i64 j ∧ Dr B g b x R Y Y last thrown W tb #[.int .i64 3, .int .i64 o, .slice A m c] o j R1 wr) (fun i _ => n - (intOf i).toNat)
  case atStart => exact ⟨0, R, Nat.zero_le _, rfl, HD.out⟩
  case round =>
    obtain ⟨j, R1, hj, rfl, hd⟩ := hrel
    have HJ := Lib.hid hd
    have o1 : wr.cell? ⟨tb, 1, none⟩ = some (.int .i64 o) := hd.op.cell 1
    clear hd o0 HD
    by_cases hlt : j < n
    · have HC := Lib.hid (rtake_any HJ.out.ry (by have := HJ.out.len; have := HFE.out; omega) o)
      go_wp2_with fail
      refine HC.out.mono ?_
      rintro e w3 (⟨i, q, hq, hqo, hqn, rfl, hry, hg⟩ | ⟨hno, _⟩)
      · have HN1 := Lib.hid (HJ.out.step hq hqo hqn hry hg).1
        clear hq hqo hqn hry hg HC
        go_wp2_with fail
        go_round
        case rel => exact ⟨j + 1, _, by omega, by go_num, HN1.out⟩
        case measure => simp [intOf]; omega
      · have h1 := HJ.out.none_ hno
        have h2 := HN.out
        omega
    · obtain rfl : j = n := by omega
      obtain ⟨A4, c4, hr4⟩ := HJ.out.ry
      have HR4 := Lib.hid hr4
      have c2 : wr.cell? ⟨x, 2, none⟩ = some (.int .u64 (thrown : Nat)) := hr4.obj.cell 2
      have f2 : wr.frozen? ⟨x, 2, none⟩ = false := hr4.obj.free 2
      have hw0 : IntKind.u64.wrap ((j : Nat) : Int) = (j : Int) := by rw [IntKind.wrap_u64]; omega
      have hw2 : IntKind.u64.wrap ((thrown : Int) + (j : Int)) = (thrown : Int) + (j : Int) := by rw [IntKind.wrap_u64]; omega
      have hxt : x ≠ tb := by rintro rfl; exact absurd (whole_type hr4.obj HJ.out.op) (by decide)
      clear hr4 hlt
      go_upto_region 24 with fail
      have hfar : ∀ {i : Nat} {t : TypeId} {cs : Array Value}, Whole wr i t cs → t ≠ 29 → Whole (wr.setCell ⟨x, 2, none⟩ (.int .u64 ((thrown : Int) + (j : Int)))) i t cs := fun e ht => e.far (by rintro rfl; exact ht (whole_type e HR4.out.obj)) _
      have hg4 := grown_set1 wr x 2 (.int .u64 ((thrown : Int) + (j : Int)))
      have hy4 := HJ.out.yw.grown hg4 (fun k hk => by injection hk with hk; subst hk; exact ⟨_, _, HR4.out.obj, by decide, by decide, by decide⟩)
      have hr5 : RY (wr.setCell ⟨x, 2, none⟩ (.int .u64 ((thrown : Int) + (j : Int)))) B x R1 last (thrown + j) := ⟨A4, c4, HR4.out.obj.put 2 _, own_stays HR4.out.row (fun i cs e => hfar e (by decide)), fun p hp => own_stays (HR4.out.own p hp) (fun i cs e => hfar e (by decide)), HR4.out.bnd, HR4.out.bx⟩
      refine cut_world (fun Z => YW Z B g b Y last thrown ∧ RY Z B x R1 last (thrown + j) ∧ Whole Z tb 32 #[.int .i64 3, .int .i64 o, .slice A m c] ∧ Below B W Z ∧ B ≤ Z.heap.size) ⟨hy4, hr5, hfar HJ.out.op (by decide), HJ.out.bel.setCell (p := ⟨x, 2, none⟩) HR4.out.bx _, Nat.le_trans HJ.out.size hg4.size⟩ ?_
      clear hfar hg4 hy4 hr5 c2 f2 hw0 hw2 hxt o1
      rintro Z ⟨z1, z2, z3, z4, z5⟩
      have Z1 := Lib.hid z1
      have Z2 := Lib.hid z2
      have Z4 := Lib.hid z4
      have Z5 := Lib.hid z5
      have o1 : Z.cell? ⟨tb, 1, none⟩ = some (.int .i64 o) := z3.cell 1
      clear z1 z2 z3 z4 z5
      have hag := HJ.out.ag HAG.out HN.out
      have hlen := HJ.out.len
      have hal := HAL.out
      have hall := HALL.out
      rw [HN.out] at hal
      have hsum : allN (upd Y o []) = R1.length := by omega
      have HF := Lib.hid (show Ag (upd Y o []) R1 ∧ allN (upd Y o []) = R1.length from ⟨hag, hsum⟩)
      clear hag hlen hal hall hsum
      rcases hY : Y o with _ | ⟨z, L⟩
      · have hj0 : j = 0 := by rw [← HN.out, hY]; rfl
        have hupd : upd Y o [] = Y := by rw [← hY]; exact upd_self Y o
        have HC := Lib.hid (drop_none Z1.out o hok hY)
        rw [hupd] at HF
        subst hj0
        clear hY hupd
        go_wp2_with fail
        refine HC.out.mono ?_
        rintro e w7 ⟨rfl, rfl⟩
        go_wp2_with fail
        go_ret
        exact ⟨rfl, R1, Y, ⟨Z1.out, Z2.out, HF.out.1, HF.out.2, Z5.out⟩, Z4.out⟩
      · have HC := Lib.hid (drop_some Z1.out o hok z L hY ht)
        rw [HN.out] at HC
        clear hY
        go_wp2_with fail
        refine HC.out.mono ?_
        rintro e w7 ⟨rfl, hy7, hk7⟩
        have H7 := Lib.hid (show Both B g b x R1 (upd Y o []) last (thrown + j) w7 ∧ Below B W w7 from ⟨⟨hy7, Z2.out.keepY hk7, HF.out.1, HF.out.2, Nat.le_trans Z5.out hk7.size⟩, Z4.out.trans (hk7.below Z5.out)⟩)
        clear hy7 hk7 HC
        go_wp2_with fail
        go_ret
        exact ⟨rfl, _, _, H7.out.1, H7.out.2⟩
end Yd
end Go.Proofs.Ytbmabfnjjflbnaa
