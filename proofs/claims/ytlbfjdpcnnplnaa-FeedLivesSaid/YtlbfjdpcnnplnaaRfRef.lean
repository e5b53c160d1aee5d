/- The document's own feed in memory: Find, Waits. -/
import Derived.Test.YtlbfjdpcnnplnaaFdEq
namespace Go.Proofs.Ytlbfjdpcnnplnaa
namespace Fee
open Go.ChangeShapes Go.WideShapes Go.ChangeAt Go.RowKit Go.Maps
open Num Mem Words Chacha Aead Poly Quiet RowV RowS

/-- a row of the document's feed: a number, where its items lie, what it has -/
structure RR where
  id : Nat
  A : Option Addr
  c : Nat
  x : Wt
def RR.v (r : RR) : Value := .slice r.A r.x.L.length r.c
def rrL (r : RR) : List Value := [.int .u64 (r.id : Nat), r.v, .int .u64 (r.x.lost : Nat)]
def flatR : List RR → List Value
  | [] => []
  | r :: R => rrL r ++ flatR R
def stR (R : List RR) : St := R.map (fun r => (r.id, r.x))
theorem rrL_length (r : RR) : (rrL r).length = 3 := rfl
theorem rrL_each (r : RR) : ∀ v ∈ rrL r, v.oneCell' = true := by
  intro v hv
  simp only [rrL, List.mem_cons, List.not_mem_nil, or_false] at hv
  rcases hv with rfl | rfl | rfl <;> rfl
theorem rrL_one (r : RR) : (rrL r).toArray.all (·.oneCell') = true := by
  rw [List.all_toArray, List.all_eq_true]
  exact rrL_each r
theorem flatR_each : ∀ (R : List RR), ∀ v ∈ flatR R, v.oneCell' = true
  | [], v, h => by cases h
  | r :: R, v, h => by
    rcases List.mem_append.1 h with h | h
    · exact rrL_each r v h
    · exact flatR_each R v h
theorem flatR_length : ∀ R : List RR, (flatR R).length = R.length * 3
  | [] => rfl
  | r :: R => by show (rrL r ++ flatR R).length = _; rw [List.length_append, rrL_length, flatR_length R, List.length_cons]; omega
theorem flatR_append : ∀ R S : List RR, flatR (R ++ S) = flatR R ++ flatR S
  | [], _ => rfl
  | x :: L, M => by show rrL x ++ flatR (L ++ M) = (rrL x ++ flatR L) ++ flatR M; rw [flatR_append L M, List.append_assoc]
theorem flatR_get : ∀ (R : List RR) (i j : Nat) (x : RR), R[i]? = some x → j < 3 → (flatR R)[i * 3 + j]? = (rrL x)[j]?
  | [], i, j, x, h, _ => by simp at h
  | y :: L, 0, j, x, h, hj => by
    simp only [List.getElem?_cons_zero, Option.some.injEq] at h
    subst h
    show (rrL y ++ flatR L)[0 * 3 + j]? = _
    rw [Nat.zero_mul, Nat.zero_add, List.getElem?_append_left (by rw [rrL_length]; exact hj)]
  | y :: L, i + 1, j, x, h, hj => by
    rw [List.getElem?_cons_succ] at h
    show (rrL y ++ flatR L)[(i + 1) * 3 + j]? = _
    rw [List.getElem?_append_right (by rw [rrL_length]; omega), rrL_length, show (i + 1) * 3 + j - 3 = i * 3 + j by omega]
    exact flatR_get L i j x h hj
theorem flatR_set : ∀ (R : List RR) (i : Nat) (y : RR), i < R.length → (((flatR R).set (i * 3) (.int .u64 (y.id : Nat))).set (i * 3 + 1) y.v).set (i * 3 + 2) (.int .u64 (y.x.lost : Nat)) = flatR (R.set i y)
  | [], i, y, h => by simp at h
  | x :: R, 0, y, _ => rfl
  | x :: R, i + 1, y, h => by
    have ih := flatR_set R i y (by simpa using h)
    show (((rrL x ++ flatR R).set ((i + 1) * 3) _).set ((i + 1) * 3 + 1) _).set ((i + 1) * 3 + 2) _ = rrL x ++ flatR (R.set i y)
    rw [← ih]
    rw [List.set_append_right _ _ (by rw [rrL_length]; omega), List.set_append_right _ _ (by rw [rrL_length]; omega), List.set_append_right _ _ (by rw [rrL_length]; omega), rrL_length,
      show (i + 1) * 3 - 3 = i * 3 by omega, show (i + 1) * 3 + 1 - 3 = i * 3 + 1 by omega, show (i + 1) * 3 + 2 - 3 = i * 3 + 2 by omega]
theorem flatR_take : ∀ (R : List RR) (n : Nat), flatR (R.take n) = (flatR R).take (n * 3)
  | [], n => by simp [flatR]
  | x :: L, 0 => by simp [flatR]
  | x :: L, n + 1 => by
    show rrL x ++ flatR (L.take n) = (rrL x ++ flatR L).take ((n + 1) * 3)
    rw [flatR_take L n, List.take_append, rrL_length, List.take_of_length_le (l := rrL x) (by rw [rrL_length]; omega), show (n + 1) * 3 - 3 = n * 3 by omega]
theorem flatR_drop : ∀ (R : List RR) (n : Nat), flatR (R.drop n) = (flatR R).drop (n * 3)
  | [], n => by simp [flatR]
  | x :: L, 0 => by simp [flatR]
  | x :: L, n + 1 => by
    show flatR (L.drop n) = (rrL x ++ flatR L).drop ((n + 1) * 3)
    rw [flatR_drop L n, List.drop_append, rrL_length, List.drop_of_length_le (l := rrL x) (by rw [rrL_length]; omega), show (n + 1) * 3 - 3 = n * 3 by omega]
    rfl

/-- a row of items of the document's own -/
def OwI (w : World) (B : Nat) (A : Option Addr) (c : Nat) (L : List It) : Prop := w.ownsRow B 81 35 (.slice A L.length c) L.length (flatI L)
def ownA (A : Option Addr) : Option Nat := (Value.slice A 0 0).ownBlock
theorem own_b (A : Option Addr) (n c : Nat) : (Value.slice A n c).ownBlock = ownA A := by cases A <;> rfl
/-- the document's feed in memory -/
structure RW (w : World) (B : Nat) (G : Nat → Prop) (x : Nat) (R : List RR) (A : Option Addr) (c last : Nat) : Prop where
  obj : Whole w x 29 #[.slice A R.length c, .int .u64 (last : Nat)]
  row : w.ownsRow B 58 3 (.slice A R.length c) R.length (flatR R)
  its : ∀ r ∈ R, OwI w B r.A r.c r.x.L
  apart : R.Pairwise (fun r s => ∀ j, ownA r.A = some j → ownA s.A ≠ some j)
  gx : G x
  gr : ∀ j, ownA A = some j → G j
  gi : ∀ r ∈ R, ∀ j, ownA r.A = some j → G j
  bx : B ≤ x
def RF (w : World) (B : Nat) (G : Nat → Prop) (x : Nat) (S : St) (last : Nat) : Prop := ∃ R A c, RW w B G x R A c last ∧ stR R = S ∧ ∀ i, G i → B ≤ i ∧ i < w.heap.size
theorem own_keep2 {w w' : World} {B e size n : Nat} {v : Value} {xs : List Value} (h : w.ownsRow B e size v n xs) (hk : ∀ j cs, v.ownBlock = some j → Whole w j e cs → Whole w' j e cs) : w'.ownsRow B e size v n xs := by
  refine ⟨h.1, ?_⟩
  rcases h.2 with h0 | ⟨c, cap, cur, rfl, hb, hh, rest⟩
  · exact Or.inl h0
  · exact Or.inr ⟨c, cap, cur, rfl, hb, hk c cur rfl hh, rest⟩
theorem own_type {w : World} {B e size n : Nat} {v : Value} {xs : List Value} (h : w.ownsRow B e size v n xs) {j : Nat} (hj : v.ownBlock = some j) : ∃ cs, Whole w j e cs := by
  rcases h.2 with ⟨rfl, _⟩ | ⟨c, cap, cur, rfl, hb, hh, rest⟩
  · cases hj
  · injection hj with hj
    subst hj
    exact ⟨cur, hh⟩
section
variable {w w' : World} {B : Nat} {G : Nat → Prop} {x last c : Nat} {R : List RR} {A : Option Addr} {S : St}
theorem RW.keep (h : RW w B G x R A c last) (hk : ∀ j t cs, (j = x ∨ ownA A = some j ∨ ∃ r ∈ R, ownA r.A = some j) → Whole w j t cs → Whole w' j t cs) : RW w' B G x R A c last :=
  { h with
    obj := hk _ _ _ (.inl rfl) h.obj
    row := own_keep2 h.row fun j cs e hw => hk _ _ _ (.inr (.inl (by rw [← own_b A R.length c]; exact e))) hw
    its := fun r hr => own_keep2 (h.its r hr) fun j cs e hw => hk _ _ _ (.inr (.inr ⟨r, hr, by rw [← own_b r.A r.x.L.length r.c]; exact e⟩)) hw }
theorem RW.below (h : RW w B G x R A c last) (hb : Below w.heap.size w w') : RW w' B G x R A c last := h.keep fun _ _ _ _ hw => hw.below hb hw.lt
theorem RF.below (h : RF w B G x S last) (hb : Below w.heap.size w w') : RF w' B G x S last := by
  obtain ⟨R, A, c, h1, h2, h3⟩ := h
  exact ⟨R, A, c, h1.below hb, h2, fun i hi => ⟨(h3 i hi).1, Nat.lt_of_lt_of_le (h3 i hi).2 hb.size⟩⟩
theorem RF.fk {F : Nat → Prop} (h : RF w B G x S last) (hk : Fk F w w') (ha : ∀ i, G i → ¬ F i) : RF w' B G x S last := by
  obtain ⟨R, A, c, h1, h2, h3⟩ := h
  refine ⟨R, A, c, h1.keep fun j t cs hj hw => hk.whole hw (ha j ?_), h2, fun i hi => ⟨(h3 i hi).1, Nat.lt_of_lt_of_le (h3 i hi).2 hk.size⟩⟩
  rcases hj with rfl | hj | ⟨r, hr, hj⟩
  · exact h1.gx
  · exact h1.gr j hj
  · exact h1.gi r hr j hj
/-- the cells of a row -/
theorem RW.cell (h : RW w B G x R A c last) {i : Nat} {r : RR} (hr : R[i]? = some r) : ∃ g, A = some ⟨g, 0, none⟩ ∧ g < w.heap.size ∧ w.rangeAt g (i * 3) (rrL r) ∧ w.there g (i * 3) 3 := by
  have hl : i < R.length := (List.getElem?_eq_some_iff.1 hr).1
  obtain ⟨g, e, _, hlt, hc⟩ := own_cells h.row (by omega)
  have hcell : ∀ j v, (rrL r)[j]? = some v → w.cell? ⟨g, i * 3 + j, none⟩ = some v ∧ w.frozen? ⟨g, i * 3 + j, none⟩ = false := fun j v hv => by
    have hj : j < 3 := by have := (List.getElem?_eq_some_iff.1 hv).1; rwa [rrL_length] at this
    exact hc _ _ ((flatR_get R i j r hr hj).trans hv)
  refine ⟨g, e, hlt, fun j v hv => (hcell j v hv).1, fun j hj => ?_⟩
  obtain ⟨v, hv⟩ : ∃ v, (rrL r)[j]? = some v := ⟨_, List.getElem?_eq_getElem (by rw [rrL_length]; exact hj)⟩
  have := hcell j v hv
  exact ⟨by rw [this.1]; rfl, this.2⟩
end
theorem stR_length (R : List RR) : (stR R).length = R.length := List.length_map _
theorem ids_stR (R : List RR) : ids (stR R) = R.map RR.id := by unfold ids stR; rw [List.map_map]; rfl
theorem at_stR : ∀ {R : List RR} {i : Nat} {r : RR}, R[i]? = some r → (∀ q ∈ R.take i, q.id ≠ r.id) → at_ (stR R) r.id = some r.x
  | [], i, r, h, _ => by simp at h
  | y :: R, 0, r, h, _ => by
    simp only [List.getElem?_cons_zero, Option.some.injEq] at h
    subst h
    show at_ ((y.id, y.x) :: stR R) y.id = _
    rw [at_cons, if_pos rfl]
  | y :: R, i + 1, r, h, hn => by
    rw [List.getElem?_cons_succ] at h
    show at_ ((y.id, y.x) :: stR R) r.id = _
    rw [at_cons, if_neg (hn y (by simp)), at_stR h (fun q hq => hn q (by rw [List.take_succ_cons]; exact List.mem_cons_of_mem _ hq))]

/-- what Find tells -/
def FindR (R : List RR) (id : Nat) (e : Ending) : Prop := (∃ i r, R[i]? = some r ∧ r.id = id ∧ (∀ q ∈ R.take i, q.id ≠ id) ∧ e = .returned (.int .i64 (i : Nat))) ∨ ((∀ q ∈ R, q.id ≠ id) ∧ e = .returned (.int .i64 (-1)))
set_option maxRecDepth 100000 in
theorem rfind_any {w : World} {B : Nat} {G : Nat → Prop} {x last c : Nat} {R : List RR} {A : Option Addr} (h : RW w B G x R A c last) (hR : R.length ≤ 1000) (id : Nat) : Calls Try.prog 28 #[.pointer (some ⟨x, 0, none⟩), .int .u64 (id : Nat)] w fun e w' => FindR R id e ∧ w = w' := by
  have H := Lib.hid h
  obtain ⟨n, hn⟩ : ∃ n, R.length = n := ⟨_, rfl⟩
  rw [hn] at hR
  have HN := Lib.hid hn
  have c0 : w.cell? ⟨x, 0, none⟩ = some (.slice A n c) := by rw [← hn]; exact h.obj.cell 0
  clear h hn
  go_enter Try.func28, Try.ntmps28
  go_wp2_with fail
  go_loopw [5] (fun i wr => ∃ k : Nat, k ≤ n ∧ i = .int .i64 k ∧ (∀ q ∈ R.take k, q.id ≠ id) ∧ wr = w) (fun i _ => n - (intOf i).toNat)
  case atStart => exact ⟨0, Nat.zero_le _, rfl, (by intro q hq; cases hq), rfl⟩
  case round =>
    obtain ⟨k, hk, rfl, hno, rfl⟩ := hrel
    have HNO := Lib.hid hno
    clear hno
    by_cases hlt : k < n
    · obtain ⟨r, hr⟩ : ∃ r, R[k]? = some r := ⟨_, List.getElem?_eq_getElem (by rw [HN.out]; exact hlt)⟩
      obtain ⟨g, rfl, hg, hrg, _⟩ := H.out.cell hr
      have cq : wr.cell? ⟨g, k * 3, none⟩ = some (.int .u64 (r.id : Nat)) := hrg 0 _ rfl
      have HRK := Lib.hid hr
      obtain ⟨y, hy⟩ : ∃ y, r.id = y := ⟨_, rfl⟩
      have HY := Lib.hid hy
      rw [hy] at cq
      have hlt' : (k : Int) < (n : Int) := by omega
      clear hr hrg hg hy
      by_cases he : y = id
      · subst he
        go_wp2_with fail
        go_ret
        exact ⟨.inl ⟨k, r, HRK.out, HY.out, HNO.out, rfl⟩, rfl⟩
      · have hne : decide ((y : Int) = (id : Int)) = false := decide_eq_false (by omega)
        have hne2 : ((y : Int) == (id : Int)) = false := beq_eq_false_iff_ne.2 (by omega)
        have hne3 : ¬ (y : Int) = (id : Int) := by omega
        go_wp2_with fail
        go_roundw
        case rel =>
          refine ⟨k + 1, by omega, by go_num, ?_, by first | trivial | rfl⟩
          intro q hq
          rw [List.take_add_one, HRK.out] at hq
          rcases List.mem_append.1 hq with hq | hq
          · exact HNO.out q hq
          · have hq : q = r := by simpa using hq
            rw [hq, HY.out]
            exact he
        case measure => simp [intOf]; omega
    · go_wp2_with fail
      go_ret
      exact ⟨.inr ⟨fun q hq => HNO.out q (by rw [List.take_of_length_le (by rw [HN.out]; omega)]; exact hq), rfl⟩, rfl⟩
theorem at_none_of {R : List RR} {id : Nat} (h : ∀ q ∈ R, q.id ≠ id) : at_ (stR R) id = none := at_none_iff.2 (by
  rw [ids_stR]
  intro c
  obtain ⟨q, hq, e⟩ := List.mem_map.1 c
  exact h q hq e)
set_option maxRecDepth 100000 in
theorem rwaits_any {w : World} {B : Nat} {G : Nat → Prop} {x last : Nat} {S : St} (h : RF w B G x S last) (hS : S.length ≤ 1000) (hok : ∀ p ∈ S, OkWt p.2) (id : Nat) : Calls Try.prog 23 #[.pointer (some ⟨x, 0, none⟩), .int .u64 (id : Nat)] w fun e w' => e = .returned (.int .i64 (waitsS S id : Nat)) ∧ w = w' := by
  obtain ⟨R, A, c, h1, rfl, _⟩ := h
  rw [stR_length] at hS
  have HF := Lib.hid (rfind_any h1 hS id)
  have H := Lib.hid h1
  have HOK := Lib.hid hok
  have c0 : w.cell? ⟨x, 0, none⟩ = some (.slice A R.length c) := h1.obj.cell 0
  obtain ⟨n, hn⟩ : ∃ n, R.length = n := ⟨_, rfl⟩
  rw [hn] at c0 hS
  have HN := Lib.hid hn
  obtain ⟨V, hV⟩ : ∃ V, waitsS (stR R) id = V := ⟨_, rfl⟩
  rw [hV]
  have HV := Lib.hid hV
  clear h1 hok hn hV
  go_enter Try.func23, Try.ntmps23
  go_wp2_with fail
  refine HF.out.mono ?_
  rintro e w1 ⟨⟨i, r, hr, rfl, hno, rfl⟩ | ⟨hno, rfl⟩, rfl⟩
  · have HVE := Lib.hid (show V = r.x.L.length + (if 0 < r.x.lost then 1 else 0) from by
      rw [← HV.out]
      unfold waitsS
      rw [at_stR hr hno]
      dsimp only
      unfold waitsN gapL
      split <;> rfl)
    obtain ⟨g, rfl, hg, hrg, _⟩ := H.out.cell hr
    have c1 : w.cell? ⟨g, i * 3 + 1, none⟩ = some (.slice r.A r.x.L.length r.c) := hrg 1 _ rfl
    have c2 : w.cell? ⟨g, i * 3 + 2, none⟩ = some (.int .u64 (r.x.lost : Nat)) := hrg 2 _ rfl
    have hi : i < n := by rw [← HN.out]; exact (List.getElem?_eq_some_iff.1 hr).1
    have hfew : r.x.L.length ≤ 16 := (HOK.out (r.id, r.x) (List.mem_map.2 ⟨r, List.mem_of_getElem? hr, rfl⟩)).few
    clear HV
    generalize r.x.L.length = m at *
    generalize r.x.lost = l at *
    have hw1 : IntKind.i64.wrap ((m : Int) + 1) = (m : Int) + 1 := by rw [IntKind.wrap_i64]; omega
    have hi' : (i : Int) < (n : Int) := by omega
    clear hr hno hrg hg
    by_cases hl : 0 < l
    · have hd : decide ((0 : Int) < (l : Int)) = true := decide_eq_true (by omega)
      go_wp2_with fail
      go_ret
      rw [HVE.out, if_pos hl]
      exact ⟨rfl, rfl⟩
    · go_wp2_with fail
      go_ret
      rw [HVE.out, if_neg hl]
      exact ⟨rfl, rfl⟩
  · have HVE := Lib.hid (show V = 0 from by
      rw [← HV.out]
      unfold waitsS
      rw [at_none_of hno])
    clear hno HV
    go_wp2_with fail
    go_ret
    rw [HVE.out]
    exact ⟨rfl, rfl⟩
end Fee
end Go.Proofs.Ytlbfjdpcnnplnaa
