/- The document's own yard: Take. -/
import Derived.Test.YtbmabfnjjflbnaaYrRef
namespace Go.Proofs.Ytbmabfnjjflbnaa
namespace Yd
open Go.ChangeShapes Go.WideShapes Go.ChangeAt Go.RowKit Go.Maps
open Num Mem Words Chacha Aead Poly Quiet RowV RowS

def zeroR : List Value := [.int .i64 0, .int .u64 0, .slice none 0 0]
theorem infoR : (Try.prog.info? 59).map (fun i => (i.zero, i.size, i.bytes)) = some (some (.agg zeroR.toArray), 3, 40) := by kernel_rfl
theorem built0R : Try.prog.built 59 [] = some zeroR.toArray := by kernel_rfl
/-- append of packets to a row of one's own -/
theorem catR {ops : Array Oper} {rest : List Oper} {o : Oper} {a : Act} {Q : Exit → Act → World → Prop} {w : World} {B k c : Nat} {A : Option Addr} {R0 : List RPk} (hgd : o.guard = none) (s y : Operand)
    (ho : o.op = .call { callee := .builtin .append, args := #[s, y], argTypes := #[26, 26] })
    (hs : a.eval s = .slice A k c) (own : w.ownsRow B 59 3 (.slice A k c) k (flatR R0)) (hB : B ≤ w.heap.size)
    (ad : Addr) (m cx : Nat) (hx : a.eval y = .slice (some ad) m cx) (S : List RPk) (hl : S.length = m) (hy : ∀ j u, (flatR S)[j]? = some u → w.cell? (ad.add j) = some u) (hk : k + m ≤ 1000000)
    (h : ∀ A' c' w', w'.ownsRow B 59 3 (.slice A' (k + m) c') (k + m) (flatR (R0 ++ S)) → Below B w w' → w.grownBy w' (Value.slice A k c).ownBlock → wpList Try.prog ops Q rest (a.put o.dst (.slice A' (k + m) c')) w') :
    wpList Try.prog ops Q (o :: rest) a w := by
  obtain ⟨i0, hi, hz0, hz1, hz2⟩ := info_parts infoR
  refine wpList_append_own _ hgd s y _ ho B _ i0 (.agg zeroR.toArray) 3 40 Try.underlying26 hi hz0 hz1 hz2 rfl (by decide) (.slice A k c) k (flatR R0) hs own ad m cx (flatR S) hx (by rw [flatR_length, hl]) hy (flatR_each S) (by have : maxLen = 9223372036854775807 := rfl; omega) (by omega) hB ?_
  intro v' w' h1 h2 _
  rw [← flatR_append] at h1
  have hb := keeps_row own (Below.refl B w) h2 hB
  rcases h1.2 with ⟨rfl, h0⟩ | ⟨b, cap, cur, rfl, r⟩
  · rw [h0] at h1 h
    exact h none 0 w' h1 hb h2
  · exact h (some ⟨b, 0, none⟩) cap w' h1 hb h2
theorem addr_add (b i j : Nat) : (⟨b, i, none⟩ : Addr).add j = ⟨b, i + j, none⟩ := by unfold Addr.add; split <;> simp_all
/-- behind the search -/
structure RT (w : World) (B x : Nat) (R : List RPk) (A : Option Addr) (c next thrown t4 : Nat) (X : World) : Prop where
  y : RYC X B x R A c next thrown
  res : Whole X t4 59 zeroR.toArray
  bel : Below w.heap.size w X
theorem RYC.src {w : World} {B x : Nat} {R : List RPk} {A : Option Addr} {c next thrown : Nat} (h : RYC w B x R A c next thrown) (hn : 0 < R.length) {g : Nat} (hg : A = some ⟨g, 0, none⟩) (i : Nat) (S : List RPk) (hS : ∀ j u, (flatR S)[j]? = some u → (flatR R)[i + j]? = some u) : ∀ j u, (flatR S)[j]? = some u → w.cell? ((⟨g, i, none⟩ : Addr).add j) = some u := by
  intro j u hu
  obtain ⟨g', e, _, _, hc⟩ := own_cells h.row hn
  rw [hg] at e
  injection e with e
  injection e with e
  subst e
  rw [addr_add]
  exact (hc _ _ (hS j u hu)).1

set_option maxRecDepth 100000 in
set_option maxHeartbeats 4000000 in
theorem rtake_any {w : World} {B x next thrown : Nat} {R : List RPk} (h : RY w B x R next thrown) (hR : R.length ≤ 1000) (o : Int) :
    Calls Try.prog 20 #[.pointer (some ⟨x, 0, none⟩), .int .i64 o] w fun e w' =>
      (∃ i p, R[i]? = some p ∧ p.o = o ∧ (∀ q ∈ R.take i, q.o ≠ o) ∧ e = .returned (.tuple #[.agg (rpL p).toArray, .bool true]) ∧ RY w' B x (R.take i ++ R.drop (i + 1)) next thrown ∧ w.grownBy w' (some x)) ∨
      ((∀ q ∈ R, q.o ≠ o) ∧ e = .returned (.tuple #[.agg zeroR.toArray, .bool false]) ∧ Below w.heap.size w w') := by
  obtain ⟨A, c, h⟩ := h
  have H := Lib.hid h
  obtain ⟨n, hn⟩ : ∃ n, R.length = n := ⟨_, rfl⟩
  rw [hn] at hR
  have HN := Lib.hid hn
  clear h hn
  go_enter Try.func20, Try.ntmps20
  go_upto_region 1 with fail
  obtain ⟨t4, ht4⟩ : ∃ t4, w.heap.size = t4 := ⟨_, rfl⟩
  refine cut_world (fun X => RT w B x R A c next thrown t4 X) ⟨H.out.below (below_alloc (Below.refl _ _) _), whole_new _ _ ht4, below_alloc (Below.refl _ _) _⟩ ?_
  rw [ht4]
  intro X hX
  have HX := Lib.hid hX
  have c0 : X.cell? ⟨x, 0, none⟩ = some (.slice A n c) := by rw [← HN.out]; exact hX.y.obj.cell 0
  have HT := Lib.hid ht4
  clear hX H ht4
  go_wp2_with fail
  go_loopw [6] (fun i wr => ∃ k : Nat, k ≤ n ∧ i = .int .i64 k ∧ (∀ q ∈ R.take k, q.o ≠ o) ∧ wr = X) (fun i _ => n - (intOf i).toNat)
  case atStart => exact ⟨0, Nat.zero_le _, rfl, (by intro q hq; cases hq), rfl⟩
  case round =>
    obtain ⟨k, hk, rfl, hno, rfl⟩ := hrel
    have HNO := Lib.hid hno
    clear hno
    by_cases hlt : k < n
    · have hkl : k < R.length := by rw [HN.out]; exact hlt
      have hp := List.getElem?_eq_getElem hkl
      have hn0 : 0 < R.length := by omega
      obtain ⟨g, rfl, hgl, hc⟩ := HX.out.y.cell hn0
      have cq : wr.cell? ⟨g, k * 3, none⟩ = some (.int .i64 (R[k]).o) := hc k _ hp 0 _ rfl
      have hts : R.take (k + 1) = R.take k ++ [R[k]] := List.take_succ_eq_append_getElem hkl
      generalize R[k] = p at *
      have HP := Lib.hid hp
      have HTS := Lib.hid hts
      have HN0 := Lib.hid hn0
      have hrg : wr.rangeAt g (k * 3) (rpL p) := fun j v hv => hc k _ HP.out j v hv
      have HRG := Lib.hid hrg
      clear hc hp hkl hts hn0 hrg
      obtain ⟨po, hpo⟩ : ∃ po, p.o = po := ⟨_, rfl⟩
      rw [hpo] at cq
      have HPO := Lib.hid hpo
      clear hpo
      rcases he : (po == o) with _ | _
      · have he3 : po ≠ o := by simpa using he
        have he2 : (po = o) = False := eq_false he3
        have hnew : ∀ q ∈ R.take (k + 1), q.o ≠ o := by
          rw [HTS.out]
          intro q hq
          rcases List.mem_append.1 hq with h | h
          · exact HNO.out q h
          · rw [List.mem_singleton] at h
            rw [h, HPO.out]
            exact he3
        have HNEW := Lib.hid hnew
        clear hnew he3
        go_wp2_with fail
        go_round
        case rel => exact ⟨k + 1, by omega, by go_num, HNEW.out, trivial⟩
        case measure => simp [intOf]; omega
      · have he3 : po = o := by simpa using he
        have he2 : (po = o) = True := eq_true he3
        have HE3 := Lib.hid he3
        clear he3
        obtain ⟨V, hV⟩ : ∃ V, rpL p = V := ⟨_, rfl⟩
        have HV := Lib.hid hV
        have HVL := Lib.hid (show V.length = 3 by rw [← hV]; rfl)
        have HVS := Lib.hid (show V.toArray.size = 3 by rw [← hV]; rfl)
        have HVO := Lib.hid (show V.toArray.all (·.oneCell') = true by rw [← hV]; simp [rpL, Value.oneCell'])
        rw [hV] at HRG
        clear hV
        go_upto_region 7 with (first | (refine wpList_load_mid rfl 59 (.tmp 33) rfl g (k * 3) rfl V _ HRG.out rfl rfl (by rw [HVL.out]; kernel_rfl) ?_) | (refine wpList_store_row rfl 59 (.tmp 7) (.tmp 34) rfl wr.heap.size V.toArray rfl rfl 59 _ (Whole.new _ _ _) (by rw [HVS.out]; kernel_rfl) (by rw [HVS.out]; rfl) HVO.out ?_))
        obtain ⟨t7, ht7⟩ : ∃ t7, wr.heap.size = t7 := ⟨_, rfl⟩
        have hb7 := below_var wr #[.int .i64 0, .int .u64 0, .slice none 0 0] V.toArray 59
        refine cut_world (fun Z => RT w B x R (some ⟨g, 0, none⟩) c next thrown t4 Z ∧ Whole Z t7 59 V.toArray ∧ Below wr.heap.size wr Z) ⟨⟨HX.out.y.below hb7, HX.out.res.below hb7 HX.out.res.lt, below_trans HX.out.bel hb7⟩, by rw [← ht7]; exact setRow_heap _ _ _ V.toArray _ _ (Whole.new wr 59 #[.int .i64 0, .int .u64 0, .slice none 0 0]), hb7⟩ ?_
        rw [ht7]
        rintro Z ⟨z1, z2, z3⟩
        have Z1 := Lib.hid z1
        have Z2 := Lib.hid z2
        have c0 : Z.cell? ⟨x, 0, none⟩ = some (.slice (some ⟨g, 0, none⟩) n c) := by rw [← HN.out]; exact z1.y.obj.cell 0
        have hsrc1 : ∀ j u, (flatR (R.take k))[j]? = some u → Z.cell? ((⟨g, 0, none⟩ : Addr).add j) = some u := z1.y.src HN0.out rfl 0 (R.take k) (fun j u hu => by
          rw [flatR_take, List.getElem?_take] at hu
          rw [Nat.zero_add]
          split at hu
          · exact hu
          · cases hu)
        have HS1 := Lib.hid hsrc1
        have htl : (R.take k).length = k := by rw [List.length_take, HN.out]; omega
        have HTL := Lib.hid htl
        have hcc : n ≤ c := by
          rcases z1.y.row.2 with ⟨_, h0⟩ | ⟨g', cap, cur, e1, _, _, h2, _⟩
          · have := HN0.out; omega
          · injection e1 with e1 e2 e3
            rw [HN.out] at h2
            rw [e3]
            exact h2
        have hkc : k ≤ c := by omega
        clear z1 z2 z3 hb7 ht7 hsrc1 HX HRG cq htl
        go_upto_region 8 with (at_builtin; refine catR (R0 := []) rfl _ _ rfl rfl (World.ownsRow_nil _ Z.heap.size _ _) (Nat.le_refl _) ⟨g, 0, none⟩ k c rfl (R.take k) HTL.out HS1.out (by omega) ?_; intro A1 c1 w1 hown1 hb1 hg1)
        have htk : ([] ++ R.take k : List RPk) = R.take k := rfl
        rw [htk] at hown1
        simp only [Nat.zero_add] at hown1
        have HB1 := Lib.hid hb1
        have HY1 := Lib.hid (Z1.out.y.below hb1)
        have HO1 := Lib.hid hown1
        have HZB := Lib.hid hb1.size
        have c0 : w1.cell? ⟨x, 0, none⟩ = some (.slice (some ⟨g, 0, none⟩) n c) := by rw [← HN.out]; exact HY1.out.obj.cell 0
        have hk1 : k + 1 ≤ n := hlt
        have hw1 : IntKind.i64.wrap ((k : Int) + 1) = (k : Int) + 1 := by rw [IntKind.wrap_i64]; omega
        clear hown1 hb1 hg1 HS1 HTL htk
        have hdl : (R.drop (k + 1)).length = n - (k + 1) := by rw [List.length_drop, HN.out]
        have HDL := Lib.hid hdl
        have hsrc2 : ∀ j u, (flatR (R.drop (k + 1)))[j]? = some u → w1.cell? ((⟨g, (k + 1) * 3, none⟩ : Addr).add j) = some u := HY1.out.src HN0.out rfl ((k + 1) * 3) (R.drop (k + 1)) (fun j u hu => by
          rw [flatR_drop, List.getElem?_drop] at hu
          exact hu)
        have HS2 := Lib.hid hsrc2
        clear hdl hsrc2
        rcases Nat.eq_or_lt_of_le (Nat.le_trans hk1 hcc) with hlast | hlast
        · have hlast' : ((k : Int) + 1 = (c : Int)) = True := eq_true (by omega)
          have hd0 : R.drop (k + 1) = [] := List.eq_nil_of_length_eq_zero (by rw [HDL.out]; omega)
          have HD0 := Lib.hid hd0
          clear hd0
          go_upto_region 9 with (at_builtin; refine catR (R0 := R.take k) rfl _ _ rfl rfl HO1.out HZB.out ⟨g, 0, none⟩ 0 _ rfl [] rfl (by intro j u hu; cases hu) (by omega) ?_; intro A3 c3 w3 hown3 hb3 hg3; have hb13 := HB1.out.trans hb3; have c0 : w3.cell? ⟨x, 0, none⟩ = some (.slice (some ⟨g, 0, none⟩) n c) := (by rw [← HN.out]; exact (Z1.out.y.below hb13).obj.cell 0); have f0 : w3.frozen? ⟨x, 0, none⟩ = false := (Z1.out.y.below hb13).obj.free 0)
          have hk0 : n - (k + 1) = 0 := by omega
          rw [← HD0.out] at hown3
          have hR1 : ∀ q ∈ R.take k ++ R.drop (k + 1), q ∈ R := by
            intro q hq
            rcases List.mem_append.1 hq with h | h
            · exact List.mem_of_mem_take h
            · exact List.mem_of_mem_drop h
          have hlen : (R.take k ++ R.drop (k + 1)).length = k + 0 := by
            rw [List.length_append, List.length_take, List.length_drop, HN.out]
            omega
          have hy3 := Z1.out.y.below hb13
          have hxt : ∀ {i : Nat} {t : TypeId} {cs : Array Value} (v : Value), Whole w3 i t cs → t ≠ 29 → Whole (w3.setCell ⟨x, 0, none⟩ v) i t cs := fun v e ht => e.far (by rintro rfl; exact ht (whole_type e hy3.obj)) v
          have hbw : Below w.heap.size w w3 := below_trans Z1.out.bel hb13
          have hgw : w.grownBy (w3.setCell ⟨x, 0, none⟩ (.slice A3 (k + 0) c3)) (some x) := grown_tr (show w.grownBy w3 (some x) from ⟨hbw.os, hbw.tape, hbw.output, hbw.size, fun i hi _ => hbw.block i hi⟩) (grown_set1 w3 x 0 _)
          refine cut_world (fun Q => (∃ A c, RYC Q B x (R.take k ++ R.drop (k + 1)) A c next thrown ∧ ∀ a, A = some a → a.block ≠ t4) ∧ Whole Q t4 59 zeroR.toArray ∧ Whole Q t7 59 V.toArray ∧ w.grownBy Q (some x)) ⟨⟨A3, c3, ⟨by rw [hlen]; exact hy3.obj.put 0 _, by rw [hlen]; exact own_stays (own_more' hown3 (Nat.le_trans Z1.out.y.bx (Nat.le_of_lt Z1.out.y.obj.lt))) (fun i cs e => hxt _ e (by decide)), fun p hp => own_stays (hy3.own p (hR1 p hp)) (fun i cs e => hxt _ e (by decide)), fun p hp => hy3.bnd p (hR1 p hp), hy3.bx⟩, by rintro a rfl h; have := (World.ownsRow.lt hown3 a.block rfl).1; have := Z1.out.res.lt; omega⟩, hxt _ (Z1.out.res.below hb13 Z1.out.res.lt) (by decide), hxt _ (Z2.out.below hb13 Z2.out.lt) (by decide), hgw⟩ ?_
          clear hR1 hlen hy3 hxt hbw hgw hown3 hb3 hg3 hb13 c0 f0 hk0
          rintro Q ⟨q1, q2, q3, q4⟩
          have Q1 := Lib.hid q1
          have Q2 := Lib.hid q2
          have Q3 := Lib.hid q3
          have Q4 := Lib.hid q4
          clear q1 q2 q3 q4
          go_wp2_with (first | (refine wpList_load_row rfl 59 (.tmp 7) rfl t7 rfl 59 V.toArray (0, 0) _ Q3.out rfl rfl (by rw [HVS.out]; kernel_rfl) ?_) | (refine wpList_store_row rfl 59 (.tmp 4) (.tmp 55) rfl t4 V.toArray rfl rfl 59 _ Q2.out (by rw [HVS.out]; kernel_rfl) (by rw [HVS.out]; rfl) HVO.out ?_))
          have hret : Whole (Q.setRow t4 V.toArray) t4 59 V.toArray := setRow_heap _ _ _ _ _ _ Q2.out
          refine bodyPost_ret (Poly.results_cell_tmp rfl _ _ t4 59 V _ rfl hret rfl rfl (by rw [HVL.out]; kernel_rfl)) rfl ?_
          obtain ⟨A5, c5, hy5, hne5⟩ := Q1.out
          refine .inl ⟨k, p, HP.out, HPO.out.trans HE3.out, HNO.out, by rw [HV.out]; rfl, ⟨A5, c5, hy5.keepA fun i t cs e ht => Whole.farRow e ?_ _⟩, grown_fresh Q4.out (Nat.le_of_eq HT.out) _⟩
          rcases ht with rfl | rfl | ⟨a, ha, rfl⟩
          · rintro rfl; exact absurd (whole_type e Q2.out) (by decide)
          · rintro rfl; exact absurd (whole_type e Q2.out) (by decide)
          · exact hne5 a ha
        · have hlast' : ((k : Int) + 1 = (c : Int)) = False := eq_false (by omega)
          go_upto_region 9 with (at_builtin; refine catR (R0 := R.take k) rfl _ _ rfl rfl HO1.out HZB.out _ _ _ rfl (R.drop (k + 1)) HDL.out HS2.out (by omega) ?_; intro A3 c3 w3 hown3 hb3 hg3; have hb13 := HB1.out.trans hb3; have c0 : w3.cell? ⟨x, 0, none⟩ = some (.slice (some ⟨g, 0, none⟩) n c) := (by rw [← HN.out]; exact (Z1.out.y.below hb13).obj.cell 0); have f0 : w3.frozen? ⟨x, 0, none⟩ = false := (Z1.out.y.below hb13).obj.free 0)
          have hR1 : ∀ q ∈ R.take k ++ R.drop (k + 1), q ∈ R := by
            intro q hq
            rcases List.mem_append.1 hq with h | h
            · exact List.mem_of_mem_take h
            · exact List.mem_of_mem_drop h
          have hlen : (R.take k ++ R.drop (k + 1)).length = k + (n - (k + 1)) := by
            rw [List.length_append, List.length_take, List.length_drop, HN.out]
            omega
          have hy3 := Z1.out.y.below hb13
          have hxt : ∀ {i : Nat} {t : TypeId} {cs : Array Value} (v : Value), Whole w3 i t cs → t ≠ 29 → Whole (w3.setCell ⟨x, 0, none⟩ v) i t cs := fun v e ht => e.far (by rintro rfl; exact ht (whole_type e hy3.obj)) v
          have hbw : Below w.heap.size w w3 := below_trans Z1.out.bel hb13
          have hgw : w.grownBy (w3.setCell ⟨x, 0, none⟩ (.slice A3 (k + (n - (k + 1))) c3)) (some x) := grown_tr (show w.grownBy w3 (some x) from ⟨hbw.os, hbw.tape, hbw.output, hbw.size, fun i hi _ => hbw.block i hi⟩) (grown_set1 w3 x 0 _)
          refine cut_world (fun Q => (∃ A c, RYC Q B x (R.take k ++ R.drop (k + 1)) A c next thrown ∧ ∀ a, A = some a → a.block ≠ t4) ∧ Whole Q t4 59 zeroR.toArray ∧ Whole Q t7 59 V.toArray ∧ w.grownBy Q (some x)) ⟨⟨A3, c3, ⟨by rw [hlen]; exact hy3.obj.put 0 _, by rw [hlen]; exact own_stays (own_more' hown3 (Nat.le_trans Z1.out.y.bx (Nat.le_of_lt Z1.out.y.obj.lt))) (fun i cs e => hxt _ e (by decide)), fun p hp => own_stays (hy3.own p (hR1 p hp)) (fun i cs e => hxt _ e (by decide)), fun p hp => hy3.bnd p (hR1 p hp), hy3.bx⟩, by rintro a rfl h; have := (World.ownsRow.lt hown3 a.block rfl).1; have := Z1.out.res.lt; omega⟩, hxt _ (Z1.out.res.below hb13 Z1.out.res.lt) (by decide), hxt _ (Z2.out.below hb13 Z2.out.lt) (by decide), hgw⟩ ?_
          clear hR1 hlen hy3 hxt hbw hgw hown3 hb3 hg3 hb13 c0 f0 
          rintro Q ⟨q1, q2, q3, q4⟩
          have Q1 := Lib.hid q1
          have Q2 := Lib.hid q2
          have Q3 := Lib.hid q3
          have Q4 := Lib.hid q4
          clear q1 q2 q3 q4
          go_wp2_with (first | (refine wpList_load_row rfl 59 (.tmp 7) rfl t7 rfl 59 V.toArray (0, 0) _ Q3.out rfl rfl (by rw [HVS.out]; kernel_rfl) ?_) | (refine wpList_store_row rfl 59 (.tmp 4) (.tmp 55) rfl t4 V.toArray rfl rfl 59 _ Q2.out (by rw [HVS.out]; kernel_rfl) (by rw [HVS.out]; rfl) HVO.out ?_))
          have hret : Whole (Q.setRow t4 V.toArray) t4 59 V.toArray := setRow_heap _ _ _ _ _ _ Q2.out
          refine bodyPost_ret (Poly.results_cell_tmp rfl _ _ t4 59 V _ rfl hret rfl rfl (by rw [HVL.out]; kernel_rfl)) rfl ?_
          obtain ⟨A5, c5, hy5, hne5⟩ := Q1.out
          refine .inl ⟨k, p, HP.out, HPO.out.trans HE3.out, HNO.out, by rw [HV.out]; rfl, ⟨A5, c5, hy5.keepA fun i t cs e ht => Whole.farRow e ?_ _⟩, grown_fresh Q4.out (Nat.le_of_eq HT.out) _⟩
          rcases ht with rfl | rfl | ⟨a, ha, rfl⟩
          · rintro rfl; exact absurd (whole_type e Q2.out) (by decide)
          · rintro rfl; exact absurd (whole_type e Q2.out) (by decide)
          · exact hne5 a ha
    · obtain rfl : k = n := by omega
      have hlk : R.take k = R := by rw [← HN.out, List.take_length]
      rw [hlk] at HNO
      obtain ⟨V, hV⟩ : ∃ V, zeroR = V := ⟨_, rfl⟩
      have HV := Lib.hid hV
      have HVL := Lib.hid (show V.length = 3 by rw [← hV]; rfl)
      have HVS := Lib.hid (show V.toArray.size = 3 by rw [← hV]; rfl)
      have HVO := Lib.hid (show V.toArray.all (·.oneCell') = true by rw [← hV]; simp [zeroR, Value.oneCell'])
      have HZB := Lib.hid (show Try.prog.built 59 [] = some V.toArray by rw [← hV]; exact built0R)
      have hres := HX.out.res
      rw [hV] at hres
      have HRES := Lib.hid hres
      have HBEL := Lib.hid HX.out.bel
      clear hlk hV hres HX
      go_wp2_with (first | (refine wpList_built0 rfl 59 rfl V.toArray HZB.out ?_) | (refine wpList_store_row rfl 59 (.tmp 4) (.tmp 56) rfl t4 V.toArray rfl rfl 59 _ HRES.out (by rw [HVS.out]; kernel_rfl) rfl HVO.out ?_))
      have hret : Whole (wr.setRow t4 V.toArray) t4 59 V.toArray := setRow_heap _ _ _ _ _ _ HRES.out
      refine bodyPost_ret (Poly.results_cell_tmp rfl _ _ t4 59 V _ rfl hret rfl rfl (by rw [HVL.out]; kernel_rfl)) rfl ?_
      exact .inr ⟨HNO.out, by rw [HV.out]; rfl, below_setRow HBEL.out (Nat.le_of_eq HT.out) _⟩
end Yd
end Go.Proofs.Ytbmabfnjjflbnaa
