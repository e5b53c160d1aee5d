/- The document's own wheel: find, Get, ahead, Right. -/
import Derived.Test.YtgbahkkccpcadaaWhTwo
namespace Go.Proofs.Ytgbahkkccpcadaa
namespace Wh
open Go.ChangeShapes Go.WideShapes Go.ChangeAt Go.RowKit Go.Maps
open Num Mem Words Chacha Aead Poly Quiet RowV RowS Ops EqLits Stamp

/-- the document's wheel in memory; its blocks are G's -/
structure RX (w : World) (G : Nat → Prop) (x : Nat) (now : Int) (L : List Tm) (A : Option Addr) (c : Nat) : Prop where
  obj : Whole w x 31 #[.int .i64 now, .slice A L.length c]
  row : w.ownsRow 0 43 3 (.slice A L.length c) L.length (flatT L)
  gx : G x
  fr : ∀ j, (Value.slice A L.length c).ownBlock = some j → G j
  ne : (Value.slice A L.length c).ownBlock ≠ some x
def RE (w : World) (G : Nat → Prop) (x : Nat) (now : Int) (L : List Tm) : Prop := ∃ A c, RX w G x now L A c
theorem RX.below {w w' : World} {G : Nat → Prop} {x : Nat} {now : Int} {L : List Tm} {A : Option Addr} {c : Nat} (h : RX w G x now L A c) (hb : Below w.heap.size w w') : RX w' G x now L A c := ⟨h.obj.below hb h.obj.lt, own_keep h.row hb, h.gx, h.fr, h.ne⟩
theorem RE.below {w w' : World} {G : Nat → Prop} {x : Nat} {now : Int} {L : List Tm} (h : RE w G x now L) (hb : Below w.heap.size w w') : RE w' G x now L := by
  obtain ⟨A, c, h⟩ := h
  exact ⟨A, c, h.below hb⟩
theorem RE.fk {w w' : World} {F G : Nat → Prop} {x : Nat} {now : Int} {L : List Tm} (h : RE w G x now L) (hk : Fk F w w') (ha : ∀ i, G i → ¬ F i) : RE w' G x now L := by
  obtain ⟨A, c, h⟩ := h
  exact ⟨A, c, hk.whole h.obj (ha x h.gx), own_fk' h.row hk (fun j e => ha j (h.fr j e)), h.gx, h.fr, h.ne⟩
theorem RE.mono {w : World} {G G' : Nat → Prop} {x : Nat} {now : Int} {L : List Tm} (h : RE w G x now L) (hG : ∀ i, i < w.heap.size → G i → G' i) : RE w G' x now L := by
  obtain ⟨A, c, h⟩ := h
  exact ⟨A, c, h.obj, h.row, hG _ h.obj.lt h.gx, fun j e => hG j (own_lt' h.row j e).2 (h.fr j e), h.ne⟩
/-- who is found -/
def fndI (o k : Int) : List Tm → Nat → Int
  | [], _ => -1
  | y :: L, j => if y.o = o ∧ y.k = k then j else fndI o k L (j + 1)
theorem fndI_none {o k : Int} : ∀ {L : List Tm} {j : Nat}, findT o k L = none → fndI o k L j = -1
  | [], _, _ => rfl
  | y :: L, j, h => by
    have h1 := find_none h
    have h2 : ¬ (y.o = o ∧ y.k = k) := h1 y List.mem_cons_self
    unfold fndI
    rw [if_neg h2]
    refine fndI_none ?_
    unfold findT
    exact List.find?_eq_none.2 (fun z hz => by
      have := h1 z (List.mem_cons_of_mem _ hz)
      simpa using this)
theorem fndI_some {o k : Int} : ∀ {L : List Tm} {j : Nat} {x : Tm}, findT o k L = some x → ∃ i, fndI o k L j = ((j + i : Nat) : Int) ∧ L[i]? = some x
  | [], _, _, h => by cases h
  | y :: L, j, x, h => by
    unfold fndI
    by_cases hy : y.o = o ∧ y.k = k
    · rw [if_pos hy]
      have hyx : y = x := by
        unfold findT at h
        rw [List.find?_cons_of_pos (by simp [hy.1, hy.2])] at h
        exact Option.some.inj h
      exact ⟨0, rfl, by rw [hyx]; rfl⟩
    · rw [if_neg hy]
      have h' : findT o k L = some x := by
        unfold findT at h ⊢
        rwa [List.find?_cons_of_neg (by simpa using hy)] at h
      obtain ⟨i, h1, h2⟩ := fndI_some (j := j + 1) h'
      exact ⟨i + 1, by rw [h1]; omega, h2⟩
theorem fndI_drop {o k : Int} {L : List Tm} {i : Nat} {y : Tm} (hy : L[i]? = some y) : fndI o k (L.drop i) i = if y.o = o ∧ y.k = k then (i : Int) else fndI o k (L.drop (i + 1)) (i + 1) := by
  obtain ⟨hl, rfl⟩ := List.getElem?_eq_some_iff.1 hy
  rw [List.drop_eq_getElem_cons hl]
  rfl
set_option maxRecDepth 100000 in
set_option maxHeartbeats 2000000 in
theorem rfind_any {w : World} {G : Nat → Prop} {x : Nat} {now : Int} {L : List Tm} (h : RE w G x now L) (hL : L.length ≤ 1000) (o k : Int) :
    Calls Try.prog 27 #[.pointer (some ⟨x, 0, none⟩), .int .i64 o, .int .i64 k] w fun e w' => e = .returned (.int .i64 (fndI o k L 0)) ∧ w = w' := by
  obtain ⟨A, c, h⟩ := h
  obtain ⟨n, hn⟩ : ∃ n, L.length = n := ⟨_, rfl⟩
  have c1 : w.cell? ⟨x, 1, none⟩ = some (.slice A n c) := by rw [← hn]; exact h.obj.cell 1
  have HR := Lib.hid (RdT.own h.row)
  obtain ⟨v, hv⟩ : ∃ v, fndI o k L 0 = v := ⟨_, rfl⟩
  have HV := Lib.hid hv
  rw [hv]
  rw [hn] at hL
  have HN := Lib.hid hn
  clear h hn hv
  go_enter Try.func27, Try.ntmps27
  go_wp2_with fail
  go_loopw [7] (fun i X => ∃ j : Nat, j ≤ n ∧ i = .int .i64 j ∧ X = w ∧ fndI o k (L.drop j) j = v) (fun i _ => n - (intOf i).toNat)
  case atStart => exact ⟨0, Nat.zero_le _, rfl, rfl, HV.out⟩
  case round =>
    obtain ⟨j, hj, rfl, rfl, he⟩ := hrel
    have HE := Lib.hid he
    clear he
    by_cases hlt : j < n
    · have hjL : j < L.length := by rw [HN.out]; exact hlt
      have hy := List.getElem?_eq_getElem hjL
      generalize L[j] = y at hy
      have hd := fndI_drop (o := o) (k := k) hy
      obtain ⟨g, rfl, hgl, hrg⟩ := HR.out j y hy
      have cg0 : wr.cell? ⟨g, j * 3, none⟩ = some (.int .i64 y.o) := hrg 0 _ rfl
      have cg1 : wr.cell? ⟨g, j * 3 + 1, none⟩ = some (.int .i64 y.k) := hrg 1 _ rfl
      rw [HE.out] at hd
      have HD := Lib.hid hd
      clear hd hy hgl hrg hjL
      by_cases ho : y.o = o
      · have d1 : (y.o == o) = true := by simp [ho]
        have HO := Lib.hid ho
        clear ho
        by_cases hk : y.k = k
        · have d2 : (y.k == k) = true := by simp [hk]
          have hve : v = (j : Int) := by rw [HD.out, if_pos ⟨HO.out, hk⟩]
          subst hve
          clear hk
          go_wp2_with fail
          go_ret
          exact ⟨rfl, rfl⟩
        · have d2 : (y.k == k) = false := by simp [hk]
          have hve : v = fndI o k (L.drop (j + 1)) (j + 1) := by rw [HD.out, if_neg (fun h => hk h.2)]
          have HVE := Lib.hid hve
          clear hve hk
          go_wp2_with fail
          go_round
          case rel => exact ⟨j + 1, by omega, by go_num, by first | rfl | trivial, HVE.out.symm⟩
          case measure => simp only [intOf]; omega
      · have d1 : (y.o == o) = false := by simp [ho]
        have hve : v = fndI o k (L.drop (j + 1)) (j + 1) := by rw [HD.out, if_neg (fun h => ho h.1)]
        have HVE := Lib.hid hve
        clear hve ho
        go_wp2_with fail
        go_round
        case rel => exact ⟨j + 1, by omega, by go_num, by first | rfl | trivial, HVE.out.symm⟩
        case measure => simp only [intOf]; omega
    · have hve : v = -1 := by
        rw [← HE.out, List.drop_of_length_le (by have := HN.out; omega)]
        rfl
      subst hve
      have d0 : decide ((j : Int) < (n : Int)) = false := decide_eq_false (by omega)
      go_wp2_with fail
      go_ret
      exact ⟨rfl, rfl⟩
set_option maxRecDepth 100000 in
theorem rget_any {w : World} {G : Nat → Prop} {x : Nat} {now : Int} {L : List Tm} (h : RE w G x now L) (hL : L.length ≤ 1000) (o k : Int) :
    Calls Try.prog 11 #[.pointer (some ⟨x, 0, none⟩), .int .i64 o, .int .i64 k] w fun e w' => e = .returned (.tuple #[.int .i64 (getV (findT o k L)), .bool (findT o k L).isSome]) ∧ w = w' := by
  have HF := Lib.hid (rfind_any h hL o k)
  obtain ⟨A, c, h⟩ := h
  cases hf : findT o k L with
  | none =>
    rw [fndI_none hf] at HF
    simp only [getV, Option.isSome_none]
    clear h hf
    go_enter Try.func11, Try.ntmps11
    go_wp2_with fail
    refine HF.out.mono ?_
    rintro e w1 ⟨rfl, rfl⟩
    go_wp2_with fail
    go_ret2
    exact ⟨rfl, rfl⟩
  | some y =>
    obtain ⟨i, hi, hy⟩ := fndI_some (j := 0) hf
    rw [hi, Nat.zero_add] at HF
    simp only [getV, Option.isSome_some]
    obtain ⟨n, hn⟩ : ∃ n, L.length = n := ⟨_, rfl⟩
    have c1 : w.cell? ⟨x, 1, none⟩ = some (.slice A n c) := by rw [← hn]; exact h.obj.cell 1
    have hil : i < n := by rw [← hn]; exact (List.getElem?_eq_some_iff.1 hy).1
    obtain ⟨g, rfl, _, hrg⟩ := RdT.own h.row i y hy
    have cg : w.cell? ⟨g, i * 3 + 2, none⟩ = some (.int .i64 y.t) := hrg 2 _ rfl
    clear h hf hi hy hrg hn
    go_enter Try.func11, Try.ntmps11
    go_wp2_with fail
    refine HF.out.mono ?_
    rintro e w1 ⟨rfl, rfl⟩
    go_wp2_with fail
    go_ret2
    exact ⟨rfl, rfl⟩
set_option maxRecDepth 100000 in
theorem ahead_any (x y : Tm) (w : World) : Calls Try.prog 35 #[tmV x, tmV y] w fun e w' => e = .returned (.bool (ltB x y)) ∧ Below w.heap.size w w' := by
  obtain ⟨xo, xk, xt⟩ := x
  obtain ⟨yo, yk, yt⟩ := y
  obtain ⟨r, hr⟩ : ∃ r, ltB ⟨xo, xk, xt⟩ ⟨yo, yk, yt⟩ = r := ⟨_, rfl⟩
  rw [hr]
  have hr2 : r = (decide (xt < yt) || (decide (xt = yt) && (decide (xo < yo) || (decide (xo = yo) && decide (xk < yk))))) := hr.symm
  have HR := Lib.hid hr2
  unfold tmV tmL
  dsimp only
  clear hr hr2
  go_enter Try.func35, Try.ntmps35
  go_upto_region 1 with fail
  refine cut_world (fun X => Whole X w.heap.size 43 #[.int .i64 xo, .int .i64 xk, .int .i64 xt] ∧ Whole X (w.heap.size + 1) 43 #[.int .i64 yo, .int .i64 yk, .int .i64 yt] ∧ Below w.heap.size w X) ⟨Whole.alloc (whole_new _ _ rfl) _, whole_new _ _ (by simp), below_alloc (below_alloc (Below.refl _ _) _) _⟩ ?_
  rintro X ⟨x1, x2, x3⟩
  have X3 := Lib.hid x3
  have a0 : X.cell? ⟨w.heap.size, 0, none⟩ = some (.int .i64 xo) := x1.cell 0
  have a1 : X.cell? ⟨w.heap.size, 1, none⟩ = some (.int .i64 xk) := x1.cell 1
  have a2 : X.cell? ⟨w.heap.size, 2, none⟩ = some (.int .i64 xt) := x1.cell 2
  have b0 : X.cell? ⟨w.heap.size + 1, 0, none⟩ = some (.int .i64 yo) := x2.cell 0
  have b1 : X.cell? ⟨w.heap.size + 1, 1, none⟩ = some (.int .i64 yk) := x2.cell 1
  have b2 : X.cell? ⟨w.heap.size + 1, 2, none⟩ = some (.int .i64 yt) := x2.cell 2
  clear x1 x2 x3
  by_cases h1 : xt = yt
  · by_cases h2 : xo = yo
    · have d1 : (xt != yt) = false := by simp [h1]
      have d2 : (xo != yo) = false := by simp [h2]
      obtain rfl : r = decide (xk < yk) := by rw [HR.out, h1, h2]; simp
      clear h1 h2
      go_wp2_with fail
      go_ret
      exact ⟨rfl, X3.out⟩
    · have d1 : (xt != yt) = false := by simp [h1]
      have d2 : (xo != yo) = true := by simp [h2]
      obtain rfl : r = decide (xo < yo) := by rw [HR.out, h1]; simp [h2]
      clear h1 h2
      go_wp2_with fail
      go_ret
      exact ⟨rfl, X3.out⟩
  · have d1 : (xt != yt) = true := by simp [h1]
    obtain rfl : r = decide (xt < yt) := by rw [HR.out]; simp [h1]
    clear h1
    go_wp2_with fail
    go_ret
    exact ⟨rfl, X3.out⟩
set_option maxRecDepth 100000 in
theorem rright_any (t : Int) (b : Bool) (hb : b = true ↔ right t) (w : World) : Calls Try.prog 34 #[.int .i64 t] w fun e w' => e = .returned (.bool b) ∧ w = w' := by
  by_cases h1 : 0 ≤ t
  · have d1 : decide (0 ≤ t) = true := decide_eq_true h1
    by_cases h2 : t ≤ 1099511627776
    · have d2 : decide (t ≤ 1099511627776) = true := decide_eq_true h2
      obtain rfl : b = true := hb.2 ⟨h1, h2⟩
      clear hb
      go_enter Try.func34, Try.ntmps34
      go_wp2_with fail
      go_ret
      exact ⟨rfl, rfl⟩
    · have d2 : decide (t ≤ 1099511627776) = false := decide_eq_false h2
      obtain rfl : b = false := by
        rcases b with _ | _
        · rfl
        · exact absurd (hb.1 rfl).2 h2
      clear hb
      go_enter Try.func34, Try.ntmps34
      go_wp2_with fail
      go_ret
      exact ⟨rfl, rfl⟩
  · have d1 : decide (0 ≤ t) = false := decide_eq_false h1
    obtain rfl : b = false := by
      rcases b with _ | _
      · rfl
      · exact absurd (hb.1 rfl).1 h1
    clear hb
    go_enter Try.func34, Try.ntmps34
    go_wp2_with fail
    go_ret
    exact ⟨rfl, rfl⟩
end Wh
end Go.Proofs.Ytgbahkkccpcadaa
