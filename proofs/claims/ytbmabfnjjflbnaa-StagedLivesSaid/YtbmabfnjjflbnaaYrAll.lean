/- One call of both yards: TakeAll. -/
import Derived.Test.YtbmabfnjjflbnaaYrDrop
import Derived.Test.YtbmabfnjjflbnaaFloatK
namespace Go.Proofs.Ytbmabfnjjflbnaa
namespace Yd
open Go.ChangeShapes Go.WideShapes Go.ChangeAt Go.RowKit Go.Maps
open Num Mem Words Chacha Aead Poly Quiet RowV RowS

/-- while what was taken is held against the document's -/
structure Al (B g b x : Nat) (R : List RPk) (Y : Int → List Pk) (last thrown : Nat) (W : World) (tb : Nat) (qv : Array Value) (o : Int) (E : List (Nat × Pk)) (B9 : Nat) (A9 : Option Addr) (c9 : Nat) (j : Nat) (R1 : List RPk) (X : World) : Prop where
  dr : Dr B g b x R Y (upd Y o []) last thrown W tb qv o j R1 X
  row : X.ownsRow B9 46 2 (.slice A9 E.length c9) E.length (flatP E)
  lie : lies X E
section
variable {B g b x last thrown tb j B9 c9 : Nat} {R R1 : List RPk} {Y : Int → List Pk} {W X X' : World} {qv : Array Value} {o : Int} {E : List (Nat × Pk)} {A9 : Option Addr}
theorem Al.below (h : Al B g b x R Y last thrown W tb qv o E B9 A9 c9 j R1 X) (hb : Below X.heap.size X X') : Al B g b x R Y last thrown W tb qv o E B9 A9 c9 j R1 X' :=
  ⟨h.dr.below hb, own_keep h.row hb, fun e he => (h.lie e he).below hb (h.lie e he).lt⟩
theorem Al.at_ (h : Al B g b x R Y last thrown W tb qv o E B9 A9 c9 j R1 X) {i : Nat} {e : Nat × Pk} (he : E[i]? = some e) : ∃ g9, A9 = some ⟨g9, 0, none⟩ ∧ g9 < X.heap.size ∧ X.cell? ⟨g9, i * 2, none⟩ = some (.int .u64 (e.2.num : Nat)) ∧ X.cell? ⟨g9, i * 2 + 1, none⟩ = some (.slice (some ⟨e.1, 0, none⟩) e.2.len e.2.len) := by
  obtain ⟨g9, e9, _, hlt, hc⟩ := own_cells h.row (by have := (List.getElem?_eq_some_iff.1 he).1; omega)
  obtain ⟨h1, h2⟩ := flatP_get E i e he
  exact ⟨g9, e9, hlt, (hc _ _ h1).1, (hc _ _ h2).1⟩
end
set_option maxRecDepth 100000 in
set_option maxHeartbeats 4000000 in
theorem one_all {B g b x last thrown : Nat} {R : List RPk} {Y : Int → List Pk} {W : World} (h : Both B g b x R Y last thrown W) (o : Int) (hok : okI o) (A : Option Addr) (m c : Nat) :
    Calls Try.prog 10 #[.pointer (some ⟨g, 0, none⟩), .pointer (some ⟨x, 0, none⟩), .agg #[.int .i64 2, .int .i64 o, .slice A m c]] W fun e w' => e = .returned (.bool true) ∧ ∃ R' Y', Both B g b x R' Y' last thrown w' ∧ Below B W w' := by
  have HFE := Lib.hid h.few
  have HAL := Lib.hid (allN_del h.yw o)
  have HALL := Lib.hid h.all
  have HAG := Lib.hid h.ag
  have hfew := h.yw.few o
  obtain ⟨n, hn⟩ : ∃ n, (Y o).length = n := ⟨_, rfl⟩
  rw [hn] at hfew
  have HN := Lib.hid hn
  go_enter Try.func10, Try.ntmps10
  go_upto_region 1 with fail
  refine cut_world (fun X => St B g b x R Y last thrown W W.heap.size #[.int .i64 2, .int .i64 o, .slice A m c] X) (st_new h _) ?_
  generalize W.heap.size = tb
  clear h
  intro X hX
  have HX := Lib.hid hX
  have o0 : X.cell? ⟨tb, 0, none⟩ = _ := hX.op.cell 0
  have o1 : X.cell? ⟨tb, 1, none⟩ = _ := hX.op.cell 1
  clear hX
  have HW := Lib.hid (rwaits_any HX.out.both.ry (by have := HFE.out; omega) o)
  rw [HAG.out.wait_ o, hn] at HW
  have HC := Lib.hid (takeAll_any HX.out.both.yw o hok)
  rw [hn] at HC
  clear hn
  have hnn : ((n : Int) != (n : Int)) = false := bne_self_eq_false _
  go_wp2_with fail
  refine HW.out.mono ?_
  rintro e w2 ⟨rfl, rfl⟩
  clear HW
  go_wp2_with fail
  refine HC.out.mono ?_
  rintro e w3 ⟨E, A9, c9, rfl, hE, hrow, hlies, hyw, hyk⟩
  have hEl : E.length = n := by rw [← List.length_map (f := (·.2)), hE]; exact HN.out
  have hA : Al B g b x R Y last thrown W tb #[.int .i64 2, .int .i64 o, .slice A m c] o E X.heap.size A9 c9 0 R w3 := ⟨⟨hyw, HX.out.both.ry.keepY hyk, hyk.whole HX.out.op (by decide) (by decide), HX.out.bel.trans (hyk.below HX.out.both.base), Nat.le_trans HX.out.both.base hyk.size, HAG.out o, fun _ _ => rfl, rfl⟩, by rw [hEl]; exact hrow, hlies⟩
  have HA := Lib.hid hA
  have HE := Lib.hid hE
  have HEL := Lib.hid hEl
  clear hrow hlies hyw hyk hA hE hEl HC HX o0 o1
  generalize X.heap.size = B9 at HA
  go_wp2_with fail
  go_loopw [22] (fun i wr => ∃ (j : Nat) (R1 : List RPk), j ≤ n ∧ i = .int .i64 j ∧ Al B g b x R Y last thrown W tb #[.int .i64 2, .int .i64 o, .slice A m c] o E B9 A9 c9 j R1 wr) (fun i _ => n - (intOf i).toNat)
  case atStart => exact ⟨0, R, Nat.zero_le _, rfl, HA.out⟩
  case round =>
    obtain ⟨j, R1, hj, rfl, hd⟩ := hrel
    have HJ := Lib.hid hd
    have o1 : wr.cell? ⟨tb, 1, none⟩ = some (.int .i64 o) := hd.dr.op.cell 1
    clear hd HA
    by_cases hlt : j < n
    · have HC := Lib.hid (rtake_any HJ.out.dr.ry (by have := HJ.out.dr.len; have := HFE.out; omega) o)
      go_wp2_with fail
      refine HC.out.mono ?_
      rintro e w4 (⟨i, q, hq, hqo, hqn, rfl, hry, hg⟩ | ⟨hno, _⟩)
      · obtain ⟨hN1, hqx, hst⟩ := HJ.out.dr.step hq hqo hqn hry hg
        obtain ⟨A3, c3, hr3⟩ := HJ.out.dr.ry
        have hrd : Rd w4 q.A q.x.len q.x.f := Own.rd (c := q.c) (own_stays (hr3.own q (List.mem_of_getElem? hq)) (fun i cs e => hst e (by decide)))
        have hA4 : Al B g b x R Y last thrown W tb #[.int .i64 2, .int .i64 o, .slice A m c] o E B9 A9 c9 (j + 1) (R1.take i ++ R1.drop (i + 1)) w4 := ⟨hN1, own_stays HJ.out.row (fun i cs e => hst e (by decide)), fun e he => hst (HJ.out.lie e he) (by decide)⟩
        have hjE : j < E.length := by rw [HEL.out]; exact hlt
        obtain ⟨z, hz⟩ : ∃ z, E[j]? = some z := ⟨E[j], List.getElem?_eq_getElem hjE⟩
        have hq3 : q.x.num = z.2.num ∧ q.x.len = z.2.len ∧ q.x.f = z.2.f := by
          rw [← HE.out, List.getElem?_map, hz] at hqx
          injection hqx with hqx
          rw [← hqx]
          exact ⟨rfl, rfl, rfl⟩
        obtain ⟨qo, ⟨qn, ql, qf, qv⟩, qA, qc⟩ := q
        simp only at hq3
        obtain ⟨rfl, rfl, rfl⟩ := hq3
        obtain ⟨za, zx⟩ := z
        have hb5 : Below w4.heap.size w4 (w4.alloc (.cells #[.int .i64 qo, .int .u64 (zx.num : Nat), .slice qA zx.len qc] 59)) := below_alloc (Below.refl _ _) _
        have H5 := Lib.hid (show Al B g b x R Y last thrown W tb #[.int .i64 2, .int .i64 o, .slice A m c] o E B9 A9 c9 (j + 1) (R1.take i ++ R1.drop (i + 1)) (w4.alloc (.cells #[.int .i64 qo, .int .u64 (zx.num : Nat), .slice qA zx.len qc] 59)) ∧ Rd (w4.alloc (.cells #[.int .i64 qo, .int .u64 (zx.num : Nat), .slice qA zx.len qc] 59)) qA zx.len zx.f ∧ Whole (w4.alloc (.cells #[.int .i64 qo, .int .u64 (zx.num : Nat), .slice qA zx.len qc] 59)) w4.heap.size 59 #[.int .i64 qo, .int .u64 (zx.num : Nat), .slice qA zx.len qc] from ⟨hA4.below hb5, hrd.below hb5 (Nat.le_refl _), Whole.new _ _ _⟩)
        have HZ := Lib.hid hz
        clear hN1 hqx hst hr3 hrd hA4 hb5 hq hqo hqn hry hg HC o1 hz
        unfold rpL
        go_upto_region 32 with fail
        generalize w4.heap.size = t23 at *
        obtain ⟨V, hV⟩ : ∃ V, w4.alloc (.cells #[.int .i64 qo, .int .u64 (zx.num : Nat), .slice qA zx.len qc] 59) = V := ⟨_, rfl⟩
        rw [hV] at H5 ⊢
        clear hV
        generalize R1.take i ++ R1.drop (i + 1) = R2 at *
        obtain ⟨g9, rfl, hg9, k0, k1⟩ := H5.out.1.at_ HZ.out
        have hS : Below V.heap.size V V.drew := Below.drew (Below.refl _ _)
        have hmul : j * 2 + 1 < E.length * 2 := by omega
        refine region_drew (fun _ => True) (by kernel_rfl) trivial (fun _ => ?_)
        refine Float.float (W := V) [(0, 158, .is (.slice (some ⟨g9, 0, none⟩) n c9)), (1, 159, .is (.int .i64 j)), (2, 160, .is (.pointer (some ⟨g9, j * 2, none⟩))), (3, 161, .is (.agg #[.int .u64 (zx.num : Nat), .slice (some ⟨za, 0, none⟩) zx.len zx.len])), (4, 162, .is (.agg #[.int .i64 qo, .int .u64 (zx.num : Nat), .slice qA zx.len qc])), (5, 163, .is (.bool true)), (6, 164, .is (.bool false))] [0, 1, 2, 3, 4, 5, 6] 0 rfl (by rfl) (by kernel_rfl) (by kernel_rfl) (by kernel_rfl) (by kernel_rfl) (by kernel_rfl) (fun γ => rfl) hS (fun _ _ => trivial) ?_ ?_
        · intro γ
          simp only [Float.puts, Act.put, List.setIfInBounds_toArray, List.set_cons_zero, List.set_cons_succ]
          refine ⟨?_, ?_, ?_, ?_, ?_, ?_, ?_, trivial⟩
          · exact ⟨_, _, rfl, Float.does_take (by intro w _; go_simp; try with_reducible rfl)⟩
          · exact ⟨_, _, rfl, Float.does_take (by intro w _; go_simp; try with_reducible rfl)⟩
          · exact ⟨_, _, rfl, Float.does_take (by intro w _; go_simp; try with_reducible rfl)⟩
          · exact ⟨_, _, rfl, Float.does_take (fun w hw => by have c0 := (hw.cell (p := ⟨g9, j * 2, none⟩) hg9).trans k0; have c1 := (hw.cell (p := ⟨g9, j * 2 + 1, none⟩) hg9).trans k1; go_simp; try with_reducible rfl)⟩
          · exact ⟨_, _, rfl, Float.does_take (fun w hw => by have hx := H5.out.2.2.below hw H5.out.2.2.lt; have c0 : w.cell? ⟨t23, 0, none⟩ = some (.int .i64 qo) := hx.cell 0; have c1 : w.cell? ⟨t23, 1, none⟩ = some (.int .u64 (zx.num : Nat)) := hx.cell 1; have c2 : w.cell? ⟨t23, 2, none⟩ = some (.slice qA zx.len qc) := hx.cell 2; go_simp; try with_reducible rfl)⟩
          · exact ⟨_, _, rfl, Float.does_call 21 (#[.agg #[.int .u64 (zx.num : Nat), .slice (some ⟨za, 0, none⟩) zx.len zx.len], .agg #[.int .i64 qo, .int .u64 (zx.num : Nat), .slice qA zx.len qc]]) (by intro w; go_simp; try with_reducible rfl) (fun w hw => same_yes zx.num zx.len zx.len qc qo (some ⟨za, 0, none⟩) qA zx.f w (Rd.of_whole ((H5.out.1.lie (za, zx) (List.mem_of_getElem? HZ.out)).below hw (H5.out.1.lie (za, zx) (List.mem_of_getElem? HZ.out)).lt)) (H5.out.2.1.below hw (Nat.le_refl _)))⟩
          · exact ⟨_, _, rfl, Float.does_take (by intro w _; go_simp; try with_reducible rfl)⟩
        · intro γ v hS hrows hne
          simp only [Float.puts, Act.put, List.setIfInBounds_toArray, List.set_cons_zero, List.set_cons_succ]
          clear hne hrows
          clear γ
          have H6 := Lib.hid (H5.out.1.below hS)
          clear hS k0 k1
          refine region_end (by kernel_rfl) ?_
          go_wp2_with fail
          go_round
          case rel => exact ⟨j + 1, R2, by omega, by go_num, H6.out⟩
          case measure => simp [intOf]; omega
      · have h1 := HJ.out.dr.none_ hno
        have h2 := HN.out
        omega
    · obtain rfl : j = n := by omega
      have hag := HJ.out.dr.ag HAG.out HN.out
      have hlen := HJ.out.dr.len
      have hal := HAL.out
      have hall := HALL.out
      rw [HN.out] at hal
      have hsum : allN (upd Y o []) = R1.length := by omega
      have HF := Lib.hid (show Both B g b x R1 (upd Y o []) last thrown wr from ⟨HJ.out.dr.yw, HJ.out.dr.ry, hag, hsum, HJ.out.dr.size⟩)
      clear hag hlen hal hall hsum o1
      go_wp2_with fail
      go_ret
      exact ⟨rfl, _, _, HF.out, HJ.out.dr.bel⟩
end Yd
end Go.Proofs.Ytbmabfnjjflbnaa
