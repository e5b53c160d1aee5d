/- The document's own wheel: Set. -/
import Derived.Test.YtgbahkkccpcadaaRwAdv
namespace Go.Proofs.Ytgbahkkccpcadaa
namespace Wh
open Go.ChangeShapes Go.WideShapes Go.ChangeAt Go.RowKit Go.Maps
open Num Mem Words Chacha Aead Poly Quiet RowV RowS Ops EqLits Stamp

set_option maxRecDepth 100000 in
theorem rset_bad {w : World} {G : Nat → Prop} {x : Nat} {now : Int} {L : List Tm} (h : RE w G x now L) (o k t : Int) (hbad : ¬ right t ∨ t < now ∨ o < 0 ∨ k < 0) :
    Calls Try.prog 22 #[.pointer (some ⟨x, 0, none⟩), .int .i64 o, .int .i64 k, .int .i64 t] w fun e w' => e = .returned (.int .i64 1) ∧ w = w' := by
  obtain ⟨A, c, h⟩ := h
  have c0 : w.cell? ⟨x, 0, none⟩ = some (.int .i64 now) := h.obj.cell 0
  obtain ⟨b, hb⟩ : ∃ b, decide (right t) = b := ⟨_, rfl⟩
  have HRT := Lib.hid (rright_any t b (by rw [← hb]; exact decide_eq_true_iff) w)
  clear h
  by_cases ho : o < 0
  · have d1 : decide (o < 0) = true := decide_eq_true ho
    clear hb hbad
    go_enter Try.func22, Try.ntmps22
    go_wp2_with fail
    go_ret
    exact ⟨rfl, rfl⟩
  have d1 : decide (o < 0) = false := decide_eq_false ho
  by_cases hk : k < 0
  · have d2 : decide (k < 0) = true := decide_eq_true hk
    clear hb hbad
    go_enter Try.func22, Try.ntmps22
    go_wp2_with fail
    go_ret
    exact ⟨rfl, rfl⟩
  have d2 : decide (k < 0) = false := decide_eq_false hk
  cases b with
  | false =>
    clear hb hbad
    go_enter Try.func22, Try.ntmps22
    go_wp2_with fail
    refine HRT.out.mono ?_
    rintro e w1 ⟨rfl, rfl⟩
    go_wp2_with fail
    go_ret
    exact ⟨rfl, rfl⟩
  | true =>
    have hr : right t := of_decide_eq_true hb
    have d3 : decide (t < now) = true := by
      rcases hbad with h | h | h | h
      · exact absurd hr h
      · exact decide_eq_true h
      · exact absurd h ho
      · exact absurd h hk
    clear hb hbad
    go_enter Try.func22, Try.ntmps22
    go_wp2_with fail
    refine HRT.out.mono ?_
    rintro e w1 ⟨rfl, rfl⟩
    go_wp2_with fail
    go_ret
    exact ⟨rfl, rfl⟩
/-- the world in which the new one goes up -/
structure UpW (w : World) (G : Nat → Prop) (x : Nat) (now : Int) (g n c : Nat) (M : List Tm) (X : World) : Prop where
  obj : Whole X x 31 #[.int .i64 now, .slice (some ⟨g, 0, none⟩) n c]
  row : X.ownsRow 0 43 3 (.slice (some ⟨g, 0, none⟩) n c) n (flatT M)
  len : M.length = n
  gx : ext G w x
  gg : ext G w g
  ne : g ≠ x
  fk : Fk G w X
theorem UpW.below {w X Y : World} {G : Nat → Prop} {x g n c : Nat} {now : Int} {M : List Tm} (h : UpW w G x now g n c M X) (hb : Below X.heap.size X Y) : UpW w G x now g n c M Y :=
  ⟨h.obj.below hb h.obj.lt, own_keep h.row hb, h.len, h.gx, h.gg, h.ne, h.fk.trans (Fk.of_below (F := G) hb) (fun _ _ h => h)⟩
theorem up_start {w w1 w2 : World} {G : Nat → Prop} {x n c1 c2 : Nat} {now : Int} {T : List Tm} {y : Tm} {A1 A2 : Option Addr} (hX : RX w1 (ext G w) x now T A1 c1) (hk : Fk G w w1) (hn : T.length = n)
    (q1 : w2.ownsRow 0 43 3 (.slice A2 (n + 1) c2) (n + 1) (flatT T ++ tmL y)) (q3 : w1.grownBy w2 (Value.slice A1 n c1).ownBlock) (q4 : ∀ i, i < w1.heap.size → (Value.slice A1 n c1).ownBlock ≠ some i → (Value.slice A2 (n + 1) c2).ownBlock ≠ some i) :
    ∃ g, A2 = some ⟨g, 0, none⟩ ∧ w2.cell? ⟨x, 1, none⟩ = some (.slice A1 n c1) ∧ w2.frozen? ⟨x, 1, none⟩ = false ∧ UpW w G x now g (n + 1) c2 (T ++ [y]) (w2.setCell ⟨x, 1, none⟩ (.slice A2 (n + 1) c2)) := by
  subst hn
  obtain ⟨g, rfl, _, _, _⟩ := own_cells q1 (by omega)
  have hO : Whole w2 x 31 #[.int .i64 now, .slice A1 T.length c1] := (q3.block x hX.obj.lt (fun e => hX.ne e.symm)).trans hX.obj
  have hne : g ≠ x := fun e => q4 x hX.obj.lt hX.ne (by rw [e]; rfl)
  have hg : ext G w g := by
    by_cases hl : g < w1.heap.size
    · by_cases he : (Value.slice A1 T.length c1).ownBlock = some g
      · exact hX.fr g he
      · exact absurd rfl (q4 g hl he)
    · exact .inr (by have := hk.size; omega)
  have f1 : Fk (ext G w) w1 w2 := Fk.grown q3 (fun j e => hX.fr j e)
  have f2 : Fk (ext G w) w2 (w2.setCell ⟨x, 1, none⟩ (.slice (some ⟨g, 0, none⟩) (T.length + 1) c2)) := (fk_set _ _ _ _).mono (fun i _ e => by rw [e]; exact hX.gx)
  refine ⟨g, rfl, hO.cell 1, hO.free 1, hO.put 1 _, ?_, by rw [List.length_append]; rfl, hX.gx, hg, hne, (hk.trans f1 (fun i hi h => ?_)).trans f2 (fun i hi h => ?_)⟩
  · rw [flatT_append, flatT_one]
    refine own_fk' q1 (fk_set _ x 1 _) (fun j e c => ?_)
    have e : some g = some j := e
    injection e with e
    exact hne (e.trans c)
  · exact h.resolve_right (by omega)
  · exact h.resolve_right (by omega)
theorem UpW.re {w X : World} {G : Nat → Prop} {x g n c : Nat} {now : Int} {M : List Tm} (h : UpW w G x now g n c M X) : RE X (ext G w) x now M ∧ Fk G w X := by
  obtain ⟨h1, h2, rfl, h4, h5, h6, h7⟩ := h
  refine ⟨⟨_, _, h1, h2, h4, fun j e => ?_, fun e => ?_⟩, h7⟩
  · have e : some g = some j := e
    injection e with e
    rw [← e]; exact h5
  · have e : some g = some x := e
    injection e with e
    exact h6 e
/-- where it stays -/
theorem up_end {T : List Tm} {y : Tm} {j : Nat} (hs : Srt T) (hj : j ≤ T.length) (hy : y ∉ T) (h1 : ∀ z ∈ T.drop j, ltB y z = true) (h2 : ∀ i z, j = i + 1 → T[i]? = some z → ltB y z = false) : T.take j ++ y :: T.drop j = ins y T := by
  have hp : pos y T = j := by
    refine pos_bound y j hj (fun i z hi hz => ?_) (fun i z hi hz => ?_)
    · obtain ⟨i0, rfl⟩ : ∃ i0, j = i0 + 1 := ⟨j - 1, by omega⟩
      have hl : i0 < T.length := by omega
      have hz0 := List.getElem?_eq_getElem hl
      have h0 : ltB T[i0] y = true := lt_total (h2 i0 _ rfl hz0) (fun e => hy (by rw [e]; exact List.getElem_mem hl))
      by_cases e : i = i0
      · subst e
        rw [hz0] at hz
        rw [← Option.some.inj hz]
        exact h0
      · obtain ⟨hl2, rfl⟩ := List.getElem?_eq_some_iff.1 hz
        exact lt_trans (List.pairwise_iff_getElem.1 hs i i0 hl2 hl (by omega)) h0
    · refine lt_asymm (h1 z ?_)
      exact List.mem_of_getElem? (i := i - j) (by rw [List.getElem?_drop, show j + (i - j) = i by omega]; exact hz)
  rw [← hp]
  exact ins_pos hs y
theorem UpW.glt {w X : World} {G : Nat → Prop} {x g n c : Nat} {now : Int} {M : List Tm} (h : UpW w G x now g n c M X) : g < X.heap.size := (own_lt' h.row g rfl).2
theorem UpW.cells {w X : World} {G : Nat → Prop} {x g n c i : Nat} {now : Int} {T : List Tm} {y z : Tm} (h : UpW w G x now g n c (T.take (i + 1) ++ y :: T.drop (i + 1)) X) (hi : i < T.length) (hz : T[i]? = some z) : X.rangeAt g ((i + 1) * 3) (tmL y) ∧ X.rangeAt g (i * 3) (tmL z) := by
  have hl := h.len
  have hr := h.row
  rw [← hl] at hr
  have hrd := RdT.own hr
  have ht : (T.take (i + 1)).length = i + 1 := by rw [List.length_take]; omega
  have e1 : (T.take (i + 1) ++ y :: T.drop (i + 1))[i + 1]? = some y := by
    rw [List.getElem?_append_right (by omega), ht, Nat.sub_self]
    rfl
  have e2 : (T.take (i + 1) ++ y :: T.drop (i + 1))[i]? = some z := by
    rw [List.getElem?_append_left (by omega), List.getElem?_take, if_pos (by omega)]
    exact hz
  obtain ⟨g1, h1, _, hr1⟩ := hrd _ _ e1
  obtain ⟨g2, h2, _, hr2⟩ := hrd _ _ e2
  injection h1 with h1
  injection h1 with h1
  injection h2 with h2
  injection h2 with h2
  subst h1 h2
  exact ⟨hr1, hr2⟩
theorem there_of {w : World} {g o : Nat} {t : TypeId} {cur : Array Value} (h : Whole w g t cur) (ho : o + 3 ≤ cur.size) : w.there g o 3 := fun j hj => ⟨by rw [h.cell, Array.getElem?_eq_getElem (by omega)]; rfl, h.free _⟩
theorem fk_puts (g : Nat) (vs : List Value) (w : World) (o : Nat) : Fk (fun j => j = g) w (w.setCells g o vs) := Fk.grown (grown_puts g vs w o) (fun j e => by injection e with e; exact e.symm)
theorem puts_at {cur : Array Value} {o : Nat} {vs P Q S : List Value} (h : cur.toList = P ++ (Q ++ S)) (ho : P.length = o) (hv : vs.length = Q.length) : (putsA cur o vs).toList = P ++ (vs ++ S) := by
  have hs : o + vs.length ≤ cur.size := by rw [← Array.length_toList, h, List.length_append, List.length_append]; omega
  rw [putsA_list _ _ _ hs, h, List.take_left' ho, ← List.append_assoc P Q S, List.drop_left' (by rw [List.length_append, ho, hv])]
theorem up_swap {w v : World} {G : Nat → Prop} {x g n c i : Nat} {now : Int} {T : List Tm} {y z : Tm} (h : UpW w G x now g n c (T.take (i + 1) ++ y :: T.drop (i + 1)) v) (hi : i < T.length) (hz : T[i]? = some z) :
    v.there g ((i + 1) * 3) 3 ∧ (v.setCells g ((i + 1) * 3) (tmL z)).there g (i * 3) 3 ∧ Fk (fun j => j = g) v (v.setCells g ((i + 1) * 3) (tmL z)) ∧ Fk (fun j => j = g) v ((v.setCells g ((i + 1) * 3) (tmL z)).setCells g (i * 3) (tmL y)) ∧ UpW w G x now g n c (T.take i ++ y :: T.drop i) ((v.setCells g ((i + 1) * 3) (tmL z)).setCells g (i * 3) (tmL y)) := by
  have hl := h.len
  obtain ⟨hi2, rfl⟩ := List.getElem?_eq_some_iff.1 hz
  have hTL : T.length + 1 = n := by rw [← hl, List.length_append, List.length_cons, List.length_take, List.length_drop]; omega
  have e1 : T.take (i + 1) = T.take i ++ [T[i]] := List.take_succ_eq_append_getElem hi
  have e2 : T.drop i = T[i] :: T.drop (i + 1) := List.drop_eq_getElem_cons hi
  have hP : (T.take i).length = i := by rw [List.length_take]; omega
  have f1 := fk_puts g (tmL T[i]) v ((i + 1) * 3)
  have f2 := fk_puts g (tmL y) (v.setCells g ((i + 1) * 3) (tmL T[i])) (i * 3)
  have f3 := f1.trans f2 (fun _ _ h => h)
  rcases h.row.2 with ⟨e, _⟩ | ⟨g', cap, cur, e, _, hh, k1, k2, k3, k4⟩
  · cases e
  injection e with e e5 e6
  injection e with e
  injection e with e
  subst e
  have hw : Whole v g 43 cur := hh
  have hw1 := whole_puts (tmL T[i]) ((i + 1) * 3) hw
  have hw2 := whole_puts (tmL y) (i * 3) hw1
  have t3 : ∀ q : Tm, (tmL q).length = 3 := fun _ => rfl
  have k4' : cur.toList.take (n * 3) = flatT (T.take i) ++ (tmL T[i] ++ (tmL y ++ flatT (T.drop (i + 1)))) := by
    have e0 : flatT (y :: T.drop (i + 1)) = tmL y ++ flatT (T.drop (i + 1)) := rfl
    rw [k4, e1, flatT_append, flatT_append, flatT_one, e0, List.append_assoc]
  obtain ⟨R, hR⟩ : ∃ R, cur.toList = (flatT (T.take i) ++ tmL T[i]) ++ (tmL y ++ (flatT (T.drop (i + 1)) ++ R)) :=
    ⟨cur.toList.drop (n * 3), (List.take_append_drop (n * 3) cur.toList).symm.trans (by rw [k4']; simp only [List.append_assoc])⟩
  have hF : (flatT (T.take i)).length = i * 3 := by rw [flatT_length, hP]
  have s1 := puts_at (vs := tmL T[i]) hR (o := (i + 1) * 3) (by rw [List.length_append, hF, t3]; omega) rfl
  have s2 := puts_at (vs := tmL y) (s1.trans (List.append_assoc _ _ _)) (o := i * 3) hF rfl
  refine ⟨there_of hw (by rw [k3]; omega), there_of hw1 (by rw [putsA_size, k3]; omega), f1, f3, f3.whole h.obj (fun e => h.ne e.symm), ⟨?_, .inr ⟨g, cap, _, by rw [e6], Nat.zero_le _, hw2, k1, k2, by rw [putsA_size, putsA_size, k3], ?_⟩⟩, ?_, h.gx, h.gg, h.ne, h.fk.trans f3 (fun j hj e => by subst e; exact h.gg.resolve_right (by omega))⟩
  · rw [flatT_length, List.length_append, List.length_cons, hP, List.length_drop]; omega
  · rw [s2, e2, flatT_append]
    show _ = flatT (T.take i) ++ (tmL y ++ (tmL T[i] ++ flatT (T.drop (i + 1))))
    rw [← List.append_assoc (tmL T[i]), ← List.append_assoc (tmL y), ← List.append_assoc (flatT (T.take i))]
    exact List.take_left' (by simp only [List.length_append, hF, t3, flatT_length, List.length_drop]; omega)
  · rw [List.length_append, List.length_cons, hP, List.length_drop]; omega
set_option maxRecDepth 100000 in
set_option maxHeartbeats 4000000 in
theorem rset_any {w : World} {G : Nat → Prop} {x : Nat} {now : Int} {L : List Tm} (h : RE w G x now L) (hs : Srt L) (hu : Unq L) (hL : L.length ≤ 1000) (o k t : Int) :
    Calls Try.prog 22 #[.pointer (some ⟨x, 0, none⟩), .int .i64 o, .int .i64 k, .int .i64 t] w fun e w' => e = .returned (.int .i64 (setT now L o k t).1) ∧ RE w' (ext G w) x now (setT now L o k t).2 ∧ Fk G w w' := by
  unfold setT
  by_cases h1 : ¬ right t ∨ t < now ∨ o < 0 ∨ k < 0
  · rw [if_pos h1]
    refine (rset_bad h o k t h1).mono ?_
    rintro e w' ⟨rfl, rfl⟩
    exact ⟨rfl, h.mono (fun _ _ h => .inl h), Fk.refl _ _⟩
  rw [if_neg h1]
  have hr : right t := Decidable.not_not.1 (fun c => h1 (.inl c))
  have d1 : decide (o < 0) = false := decide_eq_false (by omega)
  have d2 : decide (k < 0) = false := decide_eq_false (by omega)
  have d3 : decide (t < now) = false := decide_eq_false (by omega)
  have HRT := Lib.hid (rright_any t true (by simp [hr]) w)
  have HCL := Lib.hid (rclear_any h hs hu hL o k)
  have c0 : w.cell? ⟨x, 0, none⟩ = some (.int .i64 now) := by obtain ⟨A, c, h⟩ := h; exact h.obj.cell 0
  have HSR := Lib.hid (show Srt (rem o k L) from hs.filter _)
  clear h1 hr h
  by_cases h2 : findT o k L = none ∧ 64 ≤ L.length
  · rw [if_pos h2]
    have hrm := rem_none (find_none h2.1)
    rw [h2.1, hrm] at HCL
    have h64 := h2.2
    obtain ⟨n, hn⟩ : ∃ n, L.length = n := ⟨_, rfl⟩
    rw [hn] at hL h64
    have d4 : decide (64 ≤ (n : Int)) = true := decide_eq_true (by omega)
    have HN := Lib.hid hn
    clear h2 hrm h64 hn hs hu
    go_enter Try.func22, Try.ntmps22
    go_wp2_with fail
    refine HRT.out.mono ?_
    rintro e w1 ⟨rfl, rfl⟩
    go_wp2_with fail
    refine HCL.out.mono ?_
    rintro e w1 ⟨rfl, hr1, hk1⟩
    have HR1 := Lib.hid hr1
    have HK1 := Lib.hid hk1
    obtain ⟨A1, c1, hX⟩ := hr1
    have cx1 : w1.cell? ⟨x, 1, none⟩ = some (.slice A1 n c1) := by rw [← HN.out]; exact hX.obj.cell 1
    clear hX hk1
    simp only [Option.isSome_none]
    go_wp2_with fail
    go_ret
    exact ⟨rfl, HR1.out, HK1.out⟩
  · rw [if_neg h2]
    have hyT : (⟨o, k, t⟩ : Tm) ∉ rem o k L := fun h => (mem_rem.1 h).2 ⟨rfl, rfl⟩
    obtain ⟨b, hb⟩ : ∃ b, (findT o k L).isSome = b := ⟨_, rfl⟩
    have h64 : b = false → (rem o k L).length < 64 := fun e => by
      have hf : findT o k L = none := by
        cases hf : findT o k L with
        | none => rfl
        | some y => rw [hf] at hb; rw [← hb] at e; cases e
      rw [rem_none (find_none hf)]
      rcases Nat.lt_or_ge L.length 64 with c | c
      · exact c
      · exact absurd ⟨hf, c⟩ h2
    rw [hb] at HCL
    have hn1 : (rem o k L).length ≤ 1000 := Nat.le_trans (List.length_filter_le _ _) hL
    obtain ⟨T, hT⟩ : ∃ T, rem o k L = T := ⟨_, rfl⟩
    obtain ⟨y, hy⟩ : ∃ y : Tm, (⟨o, k, t⟩ : Tm) = y := ⟨_, rfl⟩
    rw [hT] at HCL HSR hyT h64 hn1 ⊢
    rw [hy] at hyT ⊢
    obtain ⟨n, hn⟩ : ∃ n, T.length = n := ⟨_, rfl⟩
    rw [hn] at h64 hn1
    have HN := Lib.hid hn
    have HY := Lib.hid hy
    have HYT := Lib.hid hyT
    clear h2 hs hu hb hT hy hyT hn
    go_enter Try.func22, Try.ntmps22
    go_wp2_with fail
    refine HRT.out.mono ?_
    rintro e w1 ⟨rfl, rfl⟩
    go_wp2_with fail
    refine HCL.out.mono ?_
    rintro e w1 ⟨rfl, hr1, hk1⟩
    have HK1 := Lib.hid hk1
    obtain ⟨A1, c1, hX⟩ := hr1
    have cx1 : w1.cell? ⟨x, 1, none⟩ = some (.slice A1 n c1) := by rw [← HN.out]; exact hX.obj.cell 1
    have hrow := hX.row
    rw [HN.out] at hrow
    have HRW := Lib.hid hrow
    have HX := Lib.hid hX
    clear hX hk1 hrow HCL HRT
    cases b with
    | true =>
      clear h64
      go_wp2_with (at_builtin; refine wpList_pushG2 (tmL ⟨o, k, t⟩) 3 rfl _ _ 29 43 (.agg zeroT.toArray) 24 Try.underlying29 infoR rfl (by omega) rfl rfl rfl HRW.out (Nat.zero_le _) rfl (tm_each _) (by omega) (by omega) ?_; intro A2 c2 w2 q1 q2 q3 q4; obtain ⟨g, hA2, cx2, fx2, hU⟩ := up_start HX.out HK1.out HN.out q1 q3 q4; subst hA2)
      rw [HY.out] at hU
      have HU := Lib.hid hU
      clear hU q1 q2 q3 q4 cx1 cx2 fx2 HX HRW HK1
      go_loopw [9] (fun i X => ∃ j, j ≤ n ∧ i = .int .i64 (j : Nat) ∧ UpW w G x now g (n + 1) c2 (T.take j ++ y :: T.drop j) X ∧ ∀ z ∈ T.drop j, ltB y z = true) (fun i _ => (intOf i).toNat)
      case atStart => exact ⟨n, Nat.le_refl _, rfl, by
        rw [List.take_of_length_le (Nat.le_of_eq HN.out), List.drop_of_length_le (Nat.le_of_eq HN.out)]
        exact HU.out, fun z hz => by
        rw [List.drop_of_length_le (Nat.le_of_eq HN.out)] at hz
        cases hz⟩
      case round =>
        obtain ⟨j, hj, rfl, hW, hz⟩ := hrel
        have HW := Lib.hid hW
        have HZ := Lib.hid hz
        clear hW hz HU
        have hTn := HN.out
        rcases Nat.eq_zero_or_pos j with rfl | hj0
        · have HE := Lib.hid (up_end HSR.out (Nat.zero_le _) HYT.out HZ.out (fun i z e => by omega))
          clear hTn
          go_upto_region 7 with fail
          refine q_start (by kernel_rfl) (by kernel_rfl) ?_
          refine Ops.wq_in ?_
          refine Ops.wq_take _ (by rfl) (fun X hx => by go_simp; try with_reducible rfl) ?_
          try simp only [Act.put, List.setIfInBounds_toArray, List.set_cons_zero, List.set_cons_succ]
          refine Ops.wq_take _ (by rfl) (fun X hx => by go_simp; try with_reducible rfl) ?_
          try simp only [Act.put, List.setIfInBounds_toArray, List.set_cons_zero, List.set_cons_succ]
          refine Ops.wq_take _ (by rfl) (fun X hx => by go_simp; try with_reducible rfl) ?_
          try simp only [Act.put, List.setIfInBounds_toArray, List.set_cons_zero, List.set_cons_succ]
          refine Ops.wq_pass (by rfl) ?_
          try simp only [Act.put, List.setIfInBounds_toArray, List.set_cons_zero, List.set_cons_succ]
          refine Ops.wq_pass (by rfl) ?_
          try simp only [Act.put, List.setIfInBounds_toArray, List.set_cons_zero, List.set_cons_succ]
          refine Ops.wq_pass (by rfl) ?_
          try simp only [Act.put, List.setIfInBounds_toArray, List.set_cons_zero, List.set_cons_succ]
          refine Ops.wq_pass (by rfl) ?_
          try simp only [Act.put, List.setIfInBounds_toArray, List.set_cons_zero, List.set_cons_succ]
          refine Ops.wq_pass (by rfl) ?_
          try simp only [Act.put, List.setIfInBounds_toArray, List.set_cons_zero, List.set_cons_succ]
          refine Ops.wq_pass (by rfl) ?_
          try simp only [Act.put, List.setIfInBounds_toArray, List.set_cons_zero, List.set_cons_succ]
          refine Ops.wq_pass (by rfl) ?_
          try simp only [Act.put, List.setIfInBounds_toArray, List.set_cons_zero, List.set_cons_succ]
          refine Ops.wq_pass (by rfl) ?_
          try simp only [Act.put, List.setIfInBounds_toArray, List.set_cons_zero, List.set_cons_succ]
          refine Ops.wq_pass (by rfl) ?_
          try simp only [Act.put, List.setIfInBounds_toArray, List.set_cons_zero, List.set_cons_succ]
          refine Ops.wq_pass (by rfl) ?_
          try simp only [Act.put, List.setIfInBounds_toArray, List.set_cons_zero, List.set_cons_succ]
          refine Ops.wq_pass (by rfl) ?_
          try simp only [Act.put, List.setIfInBounds_toArray, List.set_cons_zero, List.set_cons_succ]
          refine Ops.wq_pass (by rfl) ?_
          try simp only [Act.put, List.setIfInBounds_toArray, List.set_cons_zero, List.set_cons_succ]
          refine Ops.wq_pass (by rfl) ?_
          try simp only [Act.put, List.setIfInBounds_toArray, List.set_cons_zero, List.set_cons_succ]
          refine Ops.wq_pass (by rfl) ?_
          try simp only [Act.put, List.setIfInBounds_toArray, List.set_cons_zero, List.set_cons_succ]
          refine Ops.wq_pass (by rfl) ?_
          try simp only [Act.put, List.setIfInBounds_toArray, List.set_cons_zero, List.set_cons_succ]
          refine Ops.wq_pass (by rfl) ?_
          try simp only [Act.put, List.setIfInBounds_toArray, List.set_cons_zero, List.set_cons_succ]
          refine Ops.wq_take _ (by rfl) (fun X hx => by go_simp; try with_reducible rfl) ?_
          try simp only [Act.put, List.setIfInBounds_toArray, List.set_cons_zero, List.set_cons_succ]
          refine Ops.wq_end ?_
          intro X2 hb2
          have HB2 := Lib.hid hb2
          clear hb2
          go_wp2_with fail
          go_ret
          have h := (HW.out.below HB2.out).re
          rw [HE.out] at h
          exact ⟨rfl, h⟩
        · obtain ⟨i, rfl⟩ : ∃ i, j = i + 1 := ⟨j - 1, by omega⟩
          have hiT : i < T.length := by omega
          have hzi := List.getElem?_eq_getElem hiT
          generalize T[i] = z at hzi
          obtain ⟨cy, cz⟩ := HW.out.cells hiT hzi
          have HLG := Lib.hid HW.out.glt
          have HX1 := Lib.hid (show ∀ V, Below wr.heap.size wr V → V.cell? ⟨x, 1, none⟩ = some (.slice (some ⟨g, 0, none⟩) (n + 1) c2) from fun V hV => (HW.out.obj.below hV HW.out.obj.lt).cell 1)
          have HCY := Lib.hid cy
          have HCZ := Lib.hid cz
          obtain ⟨r, hr⟩ : ∃ r, ltB y z = r := ⟨_, rfl⟩
          have HAH := Lib.hid (fun w => ahead_any y z w)
          rw [hr] at HAH
          have HR := Lib.hid hr
          have HZI := Lib.hid hzi
          have hp : decide (0 < ((i + 1 : Nat) : Int)) = true := decide_eq_true (by omega)
          have hi1 : ((i + 1 : Nat) : Int) - 1 = (i : Int) := by omega
          have hiw : IntKind.i64.wrap (i : Int) = (i : Int) := by rw [IntKind.wrap_i64]; omega
          have hin : i < n := by omega
          have hip : (0 : Int) ≤ (i : Int) + 1 := by omega
          have hiq : (i : Int) < (n : Int) + 1 := by omega
          obtain ⟨Vy, hVy⟩ : ∃ V, (tmL y).toArray = V := ⟨_, rfl⟩
          obtain ⟨Vz, hVz⟩ : ∃ V, (tmL z).toArray = V := ⟨_, rfl⟩
          have HVY := Lib.hid hVy
          have HVZ := Lib.hid hVz
          clear cy cz hzi hiT hTn hj0 hr hVy hVz
          go_upto_region 7 with fail
          refine q_start (by kernel_rfl) (by kernel_rfl) ?_
          refine Ops.wq_in ?_
          refine Ops.wq_take _ (by rfl) (fun X hx => by go_simp; try with_reducible rfl) ?_
          try simp only [Act.put, List.setIfInBounds_toArray, List.set_cons_zero, List.set_cons_succ]
          refine Ops.wq_take _ (by rfl) (fun X hx => by go_simp; try with_reducible rfl) ?_
          try simp only [Act.put, List.setIfInBounds_toArray, List.set_cons_zero, List.set_cons_succ]
          refine Ops.wq_take _ (by rfl) (fun X hx => by go_simp; try with_reducible rfl) ?_
          try simp only [Act.put, List.setIfInBounds_toArray, List.set_cons_zero, List.set_cons_succ]
          refine Ops.wq_take _ (by rfl) (fun X hx => by go_simp; try with_reducible rfl) ?_
          try simp only [Act.put, List.setIfInBounds_toArray, List.set_cons_zero, List.set_cons_succ]
          refine Ops.wq_take _ (by rfl) (fun X hx => by go_simp; try with_reducible rfl) ?_
          try simp only [Act.put, List.setIfInBounds_toArray, List.set_cons_zero, List.set_cons_succ]
          refine Ops.wq_take _ (by rfl) (fun X hx => by go_simp; try with_reducible rfl) ?_
          try simp only [Act.put, List.setIfInBounds_toArray, List.set_cons_zero, List.set_cons_succ]
          refine Ops.wq_take _ (by rfl) (fun X hx => by have cl := HX1.out X hx; go_simp; try with_reducible rfl) ?_
          try simp only [Act.put, List.setIfInBounds_toArray, List.set_cons_zero, List.set_cons_succ]
          refine Ops.wq_take _ (by rfl) (fun X hx => by go_simp; try with_reducible rfl) ?_
          try simp only [Act.put, List.setIfInBounds_toArray, List.set_cons_zero, List.set_cons_succ]
          refine Ops.wq_take _ (by rfl) (fun X hx => by go_simp; try with_reducible rfl) ?_
          try simp only [Act.put, List.setIfInBounds_toArray, List.set_cons_zero, List.set_cons_succ]
          refine Ops.wq_take (.agg Vy) (by rfl) (fun X hx => by rw [← HVY.out]; exact run_mid_in 43 (.tmp 68) rfl g ((i + 1) * 3) (by go_simp) (tmL y) _ (range_below HCY.out hx HLG.out) rfl rfl (by kernel_rfl)) ?_
          try simp only [Act.put, List.setIfInBounds_toArray, List.set_cons_zero, List.set_cons_succ]
          refine Ops.wq_take _ (by rfl) (fun X hx => by go_simp; try with_reducible rfl) ?_
          try simp only [Act.put, List.setIfInBounds_toArray, List.set_cons_zero, List.set_cons_succ]
          refine Ops.wq_take _ (by rfl) (fun X hx => by go_simp; try with_reducible rfl) ?_
          try simp only [Act.put, List.setIfInBounds_toArray, List.set_cons_zero, List.set_cons_succ]
          refine Ops.wq_take _ (by rfl) (fun X hx => by go_simp; try with_reducible rfl) ?_
          try simp only [Act.put, List.setIfInBounds_toArray, List.set_cons_zero, List.set_cons_succ]
          refine Ops.wq_take _ (by rfl) (fun X hx => by have cl := HX1.out X hx; go_simp; try with_reducible rfl) ?_
          try simp only [Act.put, List.setIfInBounds_toArray, List.set_cons_zero, List.set_cons_succ]
          refine Ops.wq_take _ (by rfl) (fun X hx => by go_simp; try with_reducible rfl) ?_
          try simp only [Act.put, List.setIfInBounds_toArray, List.set_cons_zero, List.set_cons_succ]
          refine Ops.wq_take _ (by rfl) (fun X hx => by go_simp; try with_reducible rfl) ?_
          try simp only [Act.put, List.setIfInBounds_toArray, List.set_cons_zero, List.set_cons_succ]
          refine Ops.wq_take _ (by rfl) (fun X hx => by go_simp; try with_reducible rfl) ?_
          try simp only [Act.put, List.setIfInBounds_toArray, List.set_cons_zero, List.set_cons_succ]
          refine Ops.wq_take (.agg Vz) (by rfl) (fun X hx => by rw [← HVZ.out]; exact run_mid_in 43 (.tmp 76) rfl g (i * 3) (by go_simp) (tmL z) _ (range_below HCZ.out hx HLG.out) rfl rfl (by kernel_rfl)) ?_
          try simp only [Act.put, List.setIfInBounds_toArray, List.set_cons_zero, List.set_cons_succ]
          refine Ops.wq_call (.bool r) 35 #[.agg Vy, .agg Vz] (by rfl) (by intro w; go_simp; try with_reducible rfl) (fun X hx => by
            rw [← HVY.out, ← HVZ.out]
            refine (HAH.out X).mono ?_
            rintro e w' ⟨rfl, h⟩
            exact ⟨rfl, below_trans hx h⟩) ?_
          try simp only [Act.put, List.setIfInBounds_toArray, List.set_cons_zero, List.set_cons_succ]
          refine Ops.wq_take _ (by rfl) (fun X hx => by go_simp; try with_reducible rfl) ?_
          try simp only [Act.put, List.setIfInBounds_toArray, List.set_cons_zero, List.set_cons_succ]
          refine Ops.wq_end ?_
          intro X2 hb2
          have hW2 := HW.out.below hb2
          have HW2 := Lib.hid hW2
          clear hb2 hW2 HX1 HCY HCZ HAH HLG HW
          cases r with
          | false =>
            have HE := Lib.hid (up_end HSR.out (by have := HN.out; omega) HYT.out HZ.out (fun i' z' e hz' => by
              obtain rfl : i' = i := by omega
              rw [HZI.out] at hz'
              rw [← Option.some.inj hz']
              exact HR.out))
            go_wp2_with fail
            go_ret
            have h := HW2.out.re
            rw [HE.out] at h
            exact ⟨rfl, h⟩
          | true =>
            have cyz := HW2.out.cells (by have := HN.out; omega) HZI.out
            have HLG := Lib.hid HW2.out.glt
            have HLX := Lib.hid HW2.out.obj.lt
            have HCY := Lib.hid cyz.1
            have HCZ := Lib.hid cyz.2
            have HNE := Lib.hid HW2.out.ne
            have HX1 := Lib.hid (show ∀ V, Fk (fun j => j = g) X2 V → V.cell? ⟨x, 1, none⟩ = some (.slice (some ⟨g, 0, none⟩) (n + 1) c2) from fun V hV => (hV.whole HW2.out.obj (fun e => HW2.out.ne e.symm)).cell 1)
            clear cyz
            go_upto_region 8 with fail
            refine region_drew (fun V => Fk (fun j => j = g) X2 V) (by kernel_rfl) (Fk.drew (Fk.refl _ _)) (fun hS => ?_)
            refine take 0 _ rfl (by kernel_rfl) (by kernel_rfl) (by kernel_rfl) (fun _ _ _ h => h) (by rfl) hS (by intro w _; go_simp; with_reducible rfl) ?_
            try simp only [Act.put, List.setIfInBounds_toArray, List.set_cons_zero, List.set_cons_succ]
            refine take 1 _ rfl (by kernel_rfl) (by kernel_rfl) (by kernel_rfl) (fun _ _ _ h => h) (by rfl) hS (by intro w _; go_simp; with_reducible rfl) ?_
            try simp only [Act.put, List.setIfInBounds_toArray, List.set_cons_zero, List.set_cons_succ]
            refine take 2 _ rfl (by kernel_rfl) (by kernel_rfl) (by kernel_rfl) (fun _ _ _ h => h) (by rfl) hS (by intro w _; go_simp; with_reducible rfl) ?_
            try simp only [Act.put, List.setIfInBounds_toArray, List.set_cons_zero, List.set_cons_succ]
            refine take 3 _ rfl (by kernel_rfl) (by kernel_rfl) (by kernel_rfl) (fun _ _ _ h => h) (by rfl) hS (by intro w hw; have hcl := HX1.out w hw; go_simp; with_reducible rfl) ?_
            try simp only [Act.put, List.setIfInBounds_toArray, List.set_cons_zero, List.set_cons_succ]
            refine take 4 _ rfl (by kernel_rfl) (by kernel_rfl) (by kernel_rfl) (fun _ _ _ h => h) (by rfl) hS (by intro w _; go_simp; with_reducible rfl) ?_
            try simp only [Act.put, List.setIfInBounds_toArray, List.set_cons_zero, List.set_cons_succ]
            refine take 5 _ rfl (by kernel_rfl) (by kernel_rfl) (by kernel_rfl) (fun _ _ _ h => h) (by rfl) hS (by intro w _; go_simp; with_reducible rfl) ?_
            try simp only [Act.put, List.setIfInBounds_toArray, List.set_cons_zero, List.set_cons_succ]
            refine take 6 _ rfl (by kernel_rfl) (by kernel_rfl) (by kernel_rfl) (fun _ _ _ h => h) (by rfl) hS (by intro w _; go_simp; with_reducible rfl) ?_
            try simp only [Act.put, List.setIfInBounds_toArray, List.set_cons_zero, List.set_cons_succ]
            refine take 7 _ rfl (by kernel_rfl) (by kernel_rfl) (by kernel_rfl) (fun _ _ _ h => h) (by rfl) hS (by intro w _; go_simp; with_reducible rfl) ?_
            try simp only [Act.put, List.setIfInBounds_toArray, List.set_cons_zero, List.set_cons_succ]
            refine take 8 _ rfl (by kernel_rfl) (by kernel_rfl) (by kernel_rfl) (fun _ _ _ h => h) (by rfl) hS (by intro w hw; have hcl := HX1.out w hw; go_simp; with_reducible rfl) ?_
            try simp only [Act.put, List.setIfInBounds_toArray, List.set_cons_zero, List.set_cons_succ]
            refine take 9 _ rfl (by kernel_rfl) (by kernel_rfl) (by kernel_rfl) (fun _ _ _ h => h) (by rfl) hS (by intro w _; go_simp; with_reducible rfl) ?_
            try simp only [Act.put, List.setIfInBounds_toArray, List.set_cons_zero, List.set_cons_succ]
            refine take 10 _ rfl (by kernel_rfl) (by kernel_rfl) (by kernel_rfl) (fun _ _ _ h => h) (by rfl) hS (by intro w _; go_simp; with_reducible rfl) ?_
            try simp only [Act.put, List.setIfInBounds_toArray, List.set_cons_zero, List.set_cons_succ]
            refine take 11 _ rfl (by kernel_rfl) (by kernel_rfl) (by kernel_rfl) (fun _ _ _ h => h) (by rfl) hS (by intro w _; go_simp; with_reducible rfl) ?_
            try simp only [Act.put, List.setIfInBounds_toArray, List.set_cons_zero, List.set_cons_succ]
            refine take 12 _ rfl (by kernel_rfl) (by kernel_rfl) (by kernel_rfl) (fun _ _ _ h => h) (by rfl) hS (by intro w _; go_simp; with_reducible rfl) ?_
            try simp only [Act.put, List.setIfInBounds_toArray, List.set_cons_zero, List.set_cons_succ]
            refine take 13 _ rfl (by kernel_rfl) (by kernel_rfl) (by kernel_rfl) (fun _ _ _ h => h) (by rfl) hS (by intro w _; go_simp; with_reducible rfl) ?_
            try simp only [Act.put, List.setIfInBounds_toArray, List.set_cons_zero, List.set_cons_succ]
            refine take 14 _ rfl (by kernel_rfl) (by kernel_rfl) (by kernel_rfl) (fun _ _ _ h => h) (by rfl) hS (by intro w hw; have hcl := HX1.out w hw; go_simp; with_reducible rfl) ?_
            try simp only [Act.put, List.setIfInBounds_toArray, List.set_cons_zero, List.set_cons_succ]
            refine take 15 _ rfl (by kernel_rfl) (by kernel_rfl) (by kernel_rfl) (fun _ _ _ h => h) (by rfl) hS (by intro w _; go_simp; with_reducible rfl) ?_
            try simp only [Act.put, List.setIfInBounds_toArray, List.set_cons_zero, List.set_cons_succ]
            refine take 16 _ rfl (by kernel_rfl) (by kernel_rfl) (by kernel_rfl) (fun _ _ _ h => h) (by rfl) hS (by intro w _; go_simp; with_reducible rfl) ?_
            try simp only [Act.put, List.setIfInBounds_toArray, List.set_cons_zero, List.set_cons_succ]
            refine take 17 _ rfl (by kernel_rfl) (by kernel_rfl) (by kernel_rfl) (fun _ _ _ h => h) (by rfl) hS (by intro w _; go_simp; with_reducible rfl) ?_
            try simp only [Act.put, List.setIfInBounds_toArray, List.set_cons_zero, List.set_cons_succ]
            refine take 19 _ rfl (by kernel_rfl) (by kernel_rfl) (by kernel_rfl) (fun _ _ _ h => h) (by rfl) hS (by intro w _; go_simp; with_reducible rfl) ?_
            try simp only [Act.put, List.setIfInBounds_toArray, List.set_cons_zero, List.set_cons_succ]
            refine take 20 _ rfl (by kernel_rfl) (by kernel_rfl) (by kernel_rfl) (fun _ _ _ h => h) (by rfl) hS (by intro w _; go_simp; with_reducible rfl) ?_
            try simp only [Act.put, List.setIfInBounds_toArray, List.set_cons_zero, List.set_cons_succ]
            refine take 21 _ rfl (by kernel_rfl) (by kernel_rfl) (by kernel_rfl) (fun _ _ _ h => h) (by rfl) hS (by intro w _; go_simp; with_reducible rfl) ?_
            try simp only [Act.put, List.setIfInBounds_toArray, List.set_cons_zero, List.set_cons_succ]
            refine take 22 _ rfl (by kernel_rfl) (by kernel_rfl) (by kernel_rfl) (fun _ _ _ h => h) (by rfl) hS (by intro w hw; have hcl := HX1.out w hw; go_simp; with_reducible rfl) ?_
            try simp only [Act.put, List.setIfInBounds_toArray, List.set_cons_zero, List.set_cons_succ]
            refine take 23 _ rfl (by kernel_rfl) (by kernel_rfl) (by kernel_rfl) (fun _ _ _ h => h) (by rfl) hS (by intro w _; go_simp; with_reducible rfl) ?_
            try simp only [Act.put, List.setIfInBounds_toArray, List.set_cons_zero, List.set_cons_succ]
            refine take 24 _ rfl (by kernel_rfl) (by kernel_rfl) (by kernel_rfl) (fun _ _ _ h => h) (by rfl) hS (by intro w _; go_simp; with_reducible rfl) ?_
            try simp only [Act.put, List.setIfInBounds_toArray, List.set_cons_zero, List.set_cons_succ]
            refine Float.float (W := X2) [(18, 98, .is (.agg Vz)), (25, 105, .is (.agg Vy))] [18, 25] 4 rfl (by rfl) (by kernel_rfl) (by kernel_rfl) (by kernel_rfl) (by kernel_rfl) (by kernel_rfl) (fun γ => rfl) (Below.drew (Below.refl _ _)) (fun V hV => Fk.of_below hV) ?_ ?_
            · intro γ
              simp only [Float.puts, Act.put, List.setIfInBounds_toArray, List.set_cons_zero, List.set_cons_succ]
              refine ⟨?_, ?_, trivial⟩
              · exact ⟨_, _, rfl, Float.does_take (fun X hx => by rw [← HVZ.out]; exact run_mid_in 43 (.tmp 97) rfl g (i * 3) (by go_simp) (tmL z) _ (range_below HCZ.out hx HLG.out) rfl rfl (by kernel_rfl))⟩
              · exact ⟨_, _, rfl, Float.does_take (fun X hx => by rw [← HVY.out]; exact run_mid_in 43 (.tmp 104) rfl g ((i + 1) * 3) (by go_simp) (tmL y) _ (range_below HCY.out hx HLG.out) rfl rfl (by kernel_rfl))⟩
            · intro γ v hS h1 h2
              clear h1 h2
              simp only [Float.puts, Act.put, List.setIfInBounds_toArray, List.set_cons_zero, List.set_cons_succ]
              clear γ
              have HW3 := Lib.hid (HW2.out.below hS)
              replace hS := Fk.of_below (F := fun j => j = g) hS
              obtain ⟨th1, th2, fk1, fk2, hU2⟩ := up_swap HW3.out (by have := HN.out; omega) HZI.out
              have TH1 := Lib.hid th1
              have TH2 := Lib.hid th2
              have FK1 := Lib.hid fk1
              have FK2 := Lib.hid fk2
              have HU2 := Lib.hid hU2
              have HZT := Lib.hid (show Vz.toList = tmL z from by rw [← HVZ.out])
              have HYT2 := Lib.hid (show Vy.toList = tmL y from by rw [← HVY.out])
              have HZS := Lib.hid (show Vz.size = 3 from by rw [← HVZ.out]; rfl)
              have HYS := Lib.hid (show Vy.size = 3 from by rw [← HVY.out]; rfl)
              have HZA := Lib.hid (show Vz.all (·.oneCell') = true from by rw [← HVZ.out]; exact tm_one z)
              have HYA := Lib.hid (show Vy.all (·.oneCell') = true from by rw [← HVY.out]; exact tm_one y)
              have HSB := Lib.hid hS
              clear th1 th2 fk1 fk2 hU2 HW3 HW2 HCY HCZ HX1
              refine take 26 _ rfl (by kernel_rfl) (by kernel_rfl) (by kernel_rfl) (fun _ _ _ h => h) (by rfl) hS (by intro w _; go_simp; with_reducible rfl) ?_
              try simp only [Act.put, List.setIfInBounds_toArray, List.set_cons_zero, List.set_cons_succ]
              refine alone 27 rfl (by kernel_rfl) (by rfl) ?_
              intro K hK
              refine wp_store_mid 43 (.tmp 106) (.tmp 98) rfl g ((i + 1) * 3) Vz (by go_simp) rfl (by rw [HZS.out]; exact TH1.out) (by rw [HZS.out]; kernel_rfl) HZA.out ?_
              rw [HZT.out]
              refine hK.out _ _ (HSB.out.trans FK1.out (fun _ _ h => h)) ?_
              clear hK K hS
              have hS := HSB.out.trans FK1.out (fun _ _ h => h)
              try simp only [Act.put]
              refine take 28 _ rfl (by kernel_rfl) (by kernel_rfl) (by kernel_rfl) (fun _ _ _ h => h) (by rfl) hS (by intro w _; go_simp; with_reducible rfl) ?_
              try simp only [Act.put, List.setIfInBounds_toArray, List.set_cons_zero, List.set_cons_succ]
              refine alone 29 rfl (by kernel_rfl) (by rfl) ?_
              intro K hK
              refine wp_store_mid 43 (.tmp 107) (.tmp 105) rfl g (i * 3) Vy (by go_simp) rfl (by rw [HYS.out]; exact TH2.out) (by rw [HYS.out]; kernel_rfl) HYA.out ?_
              rw [HYT2.out]
              refine hK.out _ _ (HSB.out.trans FK2.out (fun _ _ h => h)) ?_
              clear hK K hS
              try simp only [Act.put]
              refine region_end (by kernel_rfl) ?_
              have HZ2 := Lib.hid (show ∀ q ∈ T.drop i, ltB y q = true from fun q hq => by
                obtain ⟨hl, e⟩ := List.getElem?_eq_some_iff.1 HZI.out
                rw [List.drop_eq_getElem_cons hl, e] at hq
                rcases List.mem_cons.1 hq with rfl | hq
                · exact HR.out
                · exact HZ.out q hq)
              clear TH1 TH2 FK1 FK2 HZT HYT2 HZS HYS HZA HYA HSB
              go_wp2_with fail
              go_round
              case rel => exact ⟨i, by omega, by go_num, HU2.out, HZ2.out⟩
              case measure => simp only [intOf]; omega
    | false =>
      have d4 : decide (64 ≤ (n : Int)) = false := decide_eq_false (by have := h64 rfl; omega)
      clear h64
      go_wp2_with (at_builtin; refine wpList_pushG2 (tmL ⟨o, k, t⟩) 3 rfl _ _ 29 43 (.agg zeroT.toArray) 24 Try.underlying29 infoR rfl (by omega) rfl rfl rfl HRW.out (Nat.zero_le _) rfl (tm_each _) (by omega) (by omega) ?_; intro A2 c2 w2 q1 q2 q3 q4; obtain ⟨g, hA2, cx2, fx2, hU⟩ := up_start HX.out HK1.out HN.out q1 q3 q4; subst hA2)
      rw [HY.out] at hU
      have HU := Lib.hid hU
      clear hU q1 q2 q3 q4 cx1 cx2 fx2 HX HRW HK1
      go_loopw [9] (fun i X => ∃ j, j ≤ n ∧ i = .int .i64 (j : Nat) ∧ UpW w G x now g (n + 1) c2 (T.take j ++ y :: T.drop j) X ∧ ∀ z ∈ T.drop j, ltB y z = true) (fun i _ => (intOf i).toNat)
      case atStart => exact ⟨n, Nat.le_refl _, rfl, by
        rw [List.take_of_length_le (Nat.le_of_eq HN.out), List.drop_of_length_le (Nat.le_of_eq HN.out)]
        exact HU.out, fun z hz => by
        rw [List.drop_of_length_le (Nat.le_of_eq HN.out)] at hz
        cases hz⟩
      case round =>
        obtain ⟨j, hj, rfl, hW, hz⟩ := hrel
        have HW := Lib.hid hW
        have HZ := Lib.hid hz
        clear hW hz HU
        have hTn := HN.out
        rcases Nat.eq_zero_or_pos j with rfl | hj0
        · have HE := Lib.hid (up_end HSR.out (Nat.zero_le _) HYT.out HZ.out (fun i z e => by omega))
          clear hTn
          go_upto_region 7 with fail
          refine q_start (by kernel_rfl) (by kernel_rfl) ?_
          refine Ops.wq_in ?_
          refine Ops.wq_take _ (by rfl) (fun X hx => by go_simp; try with_reducible rfl) ?_
          try simp only [Act.put, List.setIfInBounds_toArray, List.set_cons_zero, List.set_cons_succ]
          refine Ops.wq_take _ (by rfl) (fun X hx => by go_simp; try with_reducible rfl) ?_
          try simp only [Act.put, List.setIfInBounds_toArray, List.set_cons_zero, List.set_cons_succ]
          refine Ops.wq_take _ (by rfl) (fun X hx => by go_simp; try with_reducible rfl) ?_
          try simp only [Act.put, List.setIfInBounds_toArray, List.set_cons_zero, List.set_cons_succ]
          refine Ops.wq_pass (by rfl) ?_
          try simp only [Act.put, List.setIfInBounds_toArray, List.set_cons_zero, List.set_cons_succ]
          refine Ops.wq_pass (by rfl) ?_
          try simp only [Act.put, List.setIfInBounds_toArray, List.set_cons_zero, List.set_cons_succ]
          refine Ops.wq_pass (by rfl) ?_
          try simp only [Act.put, List.setIfInBounds_toArray, List.set_cons_zero, List.set_cons_succ]
          refine Ops.wq_pass (by rfl) ?_
          try simp only [Act.put, List.setIfInBounds_toArray, List.set_cons_zero, List.set_cons_succ]
          refine Ops.wq_pass (by rfl) ?_
          try simp only [Act.put, List.setIfInBounds_toArray, List.set_cons_zero, List.set_cons_succ]
          refine Ops.wq_pass (by rfl) ?_
          try simp only [Act.put, List.setIfInBounds_toArray, List.set_cons_zero, List.set_cons_succ]
          refine Ops.wq_pass (by rfl) ?_
          try simp only [Act.put, List.setIfInBounds_toArray, List.set_cons_zero, List.set_cons_succ]
          refine Ops.wq_pass (by rfl) ?_
          try simp only [Act.put, List.setIfInBounds_toArray, List.set_cons_zero, List.set_cons_succ]
          refine Ops.wq_pass (by rfl) ?_
          try simp only [Act.put, List.setIfInBounds_toArray, List.set_cons_zero, List.set_cons_succ]
          refine Ops.wq_pass (by rfl) ?_
          try simp only [Act.put, List.setIfInBounds_toArray, List.set_cons_zero, List.set_cons_succ]
          refine Ops.wq_pass (by rfl) ?_
          try simp only [Act.put, List.setIfInBounds_toArray, List.set_cons_zero, List.set_cons_succ]
          refine Ops.wq_pass (by rfl) ?_
          try simp only [Act.put, List.setIfInBounds_toArray, List.set_cons_zero, List.set_cons_succ]
          refine Ops.wq_pass (by rfl) ?_
          try simp only [Act.put, List.setIfInBounds_toArray, List.set_cons_zero, List.set_cons_succ]
          refine Ops.wq_pass (by rfl) ?_
          try simp only [Act.put, List.setIfInBounds_toArray, List.set_cons_zero, List.set_cons_succ]
          refine Ops.wq_pass (by rfl) ?_
          try simp only [Act.put, List.setIfInBounds_toArray, List.set_cons_zero, List.set_cons_succ]
          refine Ops.wq_pass (by rfl) ?_
          try simp only [Act.put, List.setIfInBounds_toArray, List.set_cons_zero, List.set_cons_succ]
          refine Ops.wq_take _ (by rfl) (fun X hx => by go_simp; try with_reducible rfl) ?_
          try simp only [Act.put, List.setIfInBounds_toArray, List.set_cons_zero, List.set_cons_succ]
          refine Ops.wq_end ?_
          intro X2 hb2
          have HB2 := Lib.hid hb2
          clear hb2
          go_wp2_with fail
          go_ret
          have h := (HW.out.below HB2.out).re
          rw [HE.out] at h
          exact ⟨rfl, h⟩
        · obtain ⟨i, rfl⟩ : ∃ i, j = i + 1 := ⟨j - 1, by omega⟩
          have hiT : i < T.length := by omega
          have hzi := List.getElem?_eq_getElem hiT
          generalize T[i] = z at hzi
          obtain ⟨cy, cz⟩ := HW.out.cells hiT hzi
          have HLG := Lib.hid HW.out.glt
          have HX1 := Lib.hid (show ∀ V, Below wr.heap.size wr V → V.cell? ⟨x, 1, none⟩ = some (.slice (some ⟨g, 0, none⟩) (n + 1) c2) from fun V hV => (HW.out.obj.below hV HW.out.obj.lt).cell 1)
          have HCY := Lib.hid cy
          have HCZ := Lib.hid cz
          obtain ⟨r, hr⟩ : ∃ r, ltB y z = r := ⟨_, rfl⟩
          have HAH := Lib.hid (fun w => ahead_any y z w)
          rw [hr] at HAH
          have HR := Lib.hid hr
          have HZI := Lib.hid hzi
          have hp : decide (0 < ((i + 1 : Nat) : Int)) = true := decide_eq_true (by omega)
          have hi1 : ((i + 1 : Nat) : Int) - 1 = (i : Int) := by omega
          have hiw : IntKind.i64.wrap (i : Int) = (i : Int) := by rw [IntKind.wrap_i64]; omega
          have hin : i < n := by omega
          have hip : (0 : Int) ≤ (i : Int) + 1 := by omega
          have hiq : (i : Int) < (n : Int) + 1 := by omega
          obtain ⟨Vy, hVy⟩ : ∃ V, (tmL y).toArray = V := ⟨_, rfl⟩
          obtain ⟨Vz, hVz⟩ : ∃ V, (tmL z).toArray = V := ⟨_, rfl⟩
          have HVY := Lib.hid hVy
          have HVZ := Lib.hid hVz
          clear cy cz hzi hiT hTn hj0 hr hVy hVz
          go_upto_region 7 with fail
          refine q_start (by kernel_rfl) (by kernel_rfl) ?_
          refine Ops.wq_in ?_
          refine Ops.wq_take _ (by rfl) (fun X hx => by go_simp; try with_reducible rfl) ?_
          try simp only [Act.put, List.setIfInBounds_toArray, List.set_cons_zero, List.set_cons_succ]
          refine Ops.wq_take _ (by rfl) (fun X hx => by go_simp; try with_reducible rfl) ?_
          try simp only [Act.put, List.setIfInBounds_toArray, List.set_cons_zero, List.set_cons_succ]
          refine Ops.wq_take _ (by rfl) (fun X hx => by go_simp; try with_reducible rfl) ?_
          try simp only [Act.put, List.setIfInBounds_toArray, List.set_cons_zero, List.set_cons_succ]
          refine Ops.wq_take _ (by rfl) (fun X hx => by go_simp; try with_reducible rfl) ?_
          try simp only [Act.put, List.setIfInBounds_toArray, List.set_cons_zero, List.set_cons_succ]
          refine Ops.wq_take _ (by rfl) (fun X hx => by go_simp; try with_reducible rfl) ?_
          try simp only [Act.put, List.setIfInBounds_toArray, List.set_cons_zero, List.set_cons_succ]
          refine Ops.wq_take _ (by rfl) (fun X hx => by go_simp; try with_reducible rfl) ?_
          try simp only [Act.put, List.setIfInBounds_toArray, List.set_cons_zero, List.set_cons_succ]
          refine Ops.wq_take _ (by rfl) (fun X hx => by have cl := HX1.out X hx; go_simp; try with_reducible rfl) ?_
          try simp only [Act.put, List.setIfInBounds_toArray, List.set_cons_zero, List.set_cons_succ]
          refine Ops.wq_take _ (by rfl) (fun X hx => by go_simp; try with_reducible rfl) ?_
          try simp only [Act.put, List.setIfInBounds_toArray, List.set_cons_zero, List.set_cons_succ]
          refine Ops.wq_take _ (by rfl) (fun X hx => by go_simp; try with_reducible rfl) ?_
          try simp only [Act.put, List.setIfInBounds_toArray, List.set_cons_zero, List.set_cons_succ]
          refine Ops.wq_take (.agg Vy) (by rfl) (fun X hx => by rw [← HVY.out]; exact run_mid_in 43 (.tmp 68) rfl g ((i + 1) * 3) (by go_simp) (tmL y) _ (range_below HCY.out hx HLG.out) rfl rfl (by kernel_rfl)) ?_
          try simp only [Act.put, List.setIfInBounds_toArray, List.set_cons_zero, List.set_cons_succ]
          refine Ops.wq_take _ (by rfl) (fun X hx => by go_simp; try with_reducible rfl) ?_
          try simp only [Act.put, List.setIfInBounds_toArray, List.set_cons_zero, List.set_cons_succ]
          refine Ops.wq_take _ (by rfl) (fun X hx => by go_simp; try with_reducible rfl) ?_
          try simp only [Act.put, List.setIfInBounds_toArray, List.set_cons_zero, List.set_cons_succ]
          refine Ops.wq_take _ (by rfl) (fun X hx => by go_simp; try with_reducible rfl) ?_
          try simp only [Act.put, List.setIfInBounds_toArray, List.set_cons_zero, List.set_cons_succ]
          refine Ops.wq_take _ (by rfl) (fun X hx => by have cl := HX1.out X hx; go_simp; try with_reducible rfl) ?_
          try simp only [Act.put, List.setIfInBounds_toArray, List.set_cons_zero, List.set_cons_succ]
          refine Ops.wq_take _ (by rfl) (fun X hx => by go_simp; try with_reducible rfl) ?_
          try simp only [Act.put, List.setIfInBounds_toArray, List.set_cons_zero, List.set_cons_succ]
          refine Ops.wq_take _ (by rfl) (fun X hx => by go_simp; try with_reducible rfl) ?_
          try simp only [Act.put, List.setIfInBounds_toArray, List.set_cons_zero, List.set_cons_succ]
          refine Ops.wq_take _ (by rfl) (fun X hx => by go_simp; try with_reducible rfl) ?_
          try simp only [Act.put, List.setIfInBounds_toArray, List.set_cons_zero, List.set_cons_succ]
          refine Ops.wq_take (.agg Vz) (by rfl) (fun X hx => by rw [← HVZ.out]; exact run_mid_in 43 (.tmp 76) rfl g (i * 3) (by go_simp) (tmL z) _ (range_below HCZ.out hx HLG.out) rfl rfl (by kernel_rfl)) ?_
          try simp only [Act.put, List.setIfInBounds_toArray, List.set_cons_zero, List.set_cons_succ]
          refine Ops.wq_call (.bool r) 35 #[.agg Vy, .agg Vz] (by rfl) (by intro w; go_simp; try with_reducible rfl) (fun X hx => by
            rw [← HVY.out, ← HVZ.out]
            refine (HAH.out X).mono ?_
            rintro e w' ⟨rfl, h⟩
            exact ⟨rfl, below_trans hx h⟩) ?_
          try simp only [Act.put, List.setIfInBounds_toArray, List.set_cons_zero, List.set_cons_succ]
          refine Ops.wq_take _ (by rfl) (fun X hx => by go_simp; try with_reducible rfl) ?_
          try simp only [Act.put, List.setIfInBounds_toArray, List.set_cons_zero, List.set_cons_succ]
          refine Ops.wq_end ?_
          intro X2 hb2
          have hW2 := HW.out.below hb2
          have HW2 := Lib.hid hW2
          clear hb2 hW2 HX1 HCY HCZ HAH HLG HW
          cases r with
          | false =>
            have HE := Lib.hid (up_end HSR.out (by have := HN.out; omega) HYT.out HZ.out (fun i' z' e hz' => by
              obtain rfl : i' = i := by omega
              rw [HZI.out] at hz'
              rw [← Option.some.inj hz']
              exact HR.out))
            go_wp2_with fail
            go_ret
            have h := HW2.out.re
            rw [HE.out] at h
            exact ⟨rfl, h⟩
          | true =>
            have cyz := HW2.out.cells (by have := HN.out; omega) HZI.out
            have HLG := Lib.hid HW2.out.glt
            have HLX := Lib.hid HW2.out.obj.lt
            have HCY := Lib.hid cyz.1
            have HCZ := Lib.hid cyz.2
            have HNE := Lib.hid HW2.out.ne
            have HX1 := Lib.hid (show ∀ V, Fk (fun j => j = g) X2 V → V.cell? ⟨x, 1, none⟩ = some (.slice (some ⟨g, 0, none⟩) (n + 1) c2) from fun V hV => (hV.whole HW2.out.obj (fun e => HW2.out.ne e.symm)).cell 1)
            clear cyz
            go_upto_region 8 with fail
            refine region_drew (fun V => Fk (fun j => j = g) X2 V) (by kernel_rfl) (Fk.drew (Fk.refl _ _)) (fun hS => ?_)
            refine take 0 _ rfl (by kernel_rfl) (by kernel_rfl) (by kernel_rfl) (fun _ _ _ h => h) (by rfl) hS (by intro w _; go_simp; with_reducible rfl) ?_
            try simp only [Act.put, List.setIfInBounds_toArray, List.set_cons_zero, List.set_cons_succ]
            refine take 1 _ rfl (by kernel_rfl) (by kernel_rfl) (by kernel_rfl) (fun _ _ _ h => h) (by rfl) hS (by intro w _; go_simp; with_reducible rfl) ?_
            try simp only [Act.put, List.setIfInBounds_toArray, List.set_cons_zero, List.set_cons_succ]
            refine take 2 _ rfl (by kernel_rfl) (by kernel_rfl) (by kernel_rfl) (fun _ _ _ h => h) (by rfl) hS (by intro w _; go_simp; with_reducible rfl) ?_
            try simp only [Act.put, List.setIfInBounds_toArray, List.set_cons_zero, List.set_cons_succ]
            refine take 3 _ rfl (by kernel_rfl) (by kernel_rfl) (by kernel_rfl) (fun _ _ _ h => h) (by rfl) hS (by intro w hw; have hcl := HX1.out w hw; go_simp; with_reducible rfl) ?_
            try simp only [Act.put, List.setIfInBounds_toArray, List.set_cons_zero, List.set_cons_succ]
            refine take 4 _ rfl (by kernel_rfl) (by kernel_rfl) (by kernel_rfl) (fun _ _ _ h => h) (by rfl) hS (by intro w _; go_simp; with_reducible rfl) ?_
            try simp only [Act.put, List.setIfInBounds_toArray, List.set_cons_zero, List.set_cons_succ]
            refine take 5 _ rfl (by kernel_rfl) (by kernel_rfl) (by kernel_rfl) (fun _ _ _ h => h) (by rfl) hS (by intro w _; go_simp; with_reducible rfl) ?_
            try simp only [Act.put, List.setIfInBounds_toArray, List.set_cons_zero, List.set_cons_succ]
            refine take 6 _ rfl (by kernel_rfl) (by kernel_rfl) (by kernel_rfl) (fun _ _ _ h => h) (by rfl) hS (by intro w _; go_simp; with_reducible rfl) ?_
            try simp only [Act.put, List.setIfInBounds_toArray, List.set_cons_zero, List.set_cons_succ]
            refine take 7 _ rfl (by kernel_rfl) (by kernel_rfl) (by kernel_rfl) (fun _ _ _ h => h) (by rfl) hS (by intro w _; go_simp; with_reducible rfl) ?_
            try simp only [Act.put, List.setIfInBounds_toArray, List.set_cons_zero, List.set_cons_succ]
            refine take 8 _ rfl (by kernel_rfl) (by kernel_rfl) (by kernel_rfl) (fun _ _ _ h => h) (by rfl) hS (by intro w hw; have hcl := HX1.out w hw; go_simp; with_reducible rfl) ?_
            try simp only [Act.put, List.setIfInBounds_toArray, List.set_cons_zero, List.set_cons_succ]
            refine take 9 _ rfl (by kernel_rfl) (by kernel_rfl) (by kernel_rfl) (fun _ _ _ h => h) (by rfl) hS (by intro w _; go_simp; with_reducible rfl) ?_
            try simp only [Act.put, List.setIfInBounds_toArray, List.set_cons_zero, List.set_cons_succ]
            refine take 10 _ rfl (by kernel_rfl) (by kernel_rfl) (by kernel_rfl) (fun _ _ _ h => h) (by rfl) hS (by intro w _; go_simp; with_reducible rfl) ?_
            try simp only [Act.put, List.setIfInBounds_toArray, List.set_cons_zero, List.set_cons_succ]
            refine take 11 _ rfl (by kernel_rfl) (by kernel_rfl) (by kernel_rfl) (fun _ _ _ h => h) (by rfl) hS (by intro w _; go_simp; with_reducible rfl) ?_
            try simp only [Act.put, List.setIfInBounds_toArray, List.set_cons_zero, List.set_cons_succ]
            refine take 12 _ rfl (by kernel_rfl) (by kernel_rfl) (by kernel_rfl) (fun _ _ _ h => h) (by rfl) hS (by intro w _; go_simp; with_reducible rfl) ?_
            try simp only [Act.put, List.setIfInBounds_toArray, List.set_cons_zero, List.set_cons_succ]
            refine take 13 _ rfl (by kernel_rfl) (by kernel_rfl) (by kernel_rfl) (fun _ _ _ h => h) (by rfl) hS (by intro w _; go_simp; with_reducible rfl) ?_
            try simp only [Act.put, List.setIfInBounds_toArray, List.set_cons_zero, List.set_cons_succ]
            refine take 14 _ rfl (by kernel_rfl) (by kernel_rfl) (by kernel_rfl) (fun _ _ _ h => h) (by rfl) hS (by intro w hw; have hcl := HX1.out w hw; go_simp; with_reducible rfl) ?_
            try simp only [Act.put, List.setIfInBounds_toArray, List.set_cons_zero, List.set_cons_succ]
            refine take 15 _ rfl (by kernel_rfl) (by kernel_rfl) (by kernel_rfl) (fun _ _ _ h => h) (by rfl) hS (by intro w _; go_simp; with_reducible rfl) ?_
            try simp only [Act.put, List.setIfInBounds_toArray, List.set_cons_zero, List.set_cons_succ]
            refine take 16 _ rfl (by kernel_rfl) (by kernel_rfl) (by kernel_rfl) (fun _ _ _ h => h) (by rfl) hS (by intro w _; go_simp; with_reducible rfl) ?_
            try simp only [Act.put, List.setIfInBounds_toArray, List.set_cons_zero, List.set_cons_succ]
            refine take 17 _ rfl (by kernel_rfl) (by kernel_rfl) (by kernel_rfl) (fun _ _ _ h => h) (by rfl) hS (by intro w _; go_simp; with_reducible rfl) ?_
            try simp only [Act.put, List.setIfInBounds_toArray, List.set_cons_zero, List.set_cons_succ]
            refine take 19 _ rfl (by kernel_rfl) (by kernel_rfl) (by kernel_rfl) (fun _ _ _ h => h) (by rfl) hS (by intro w _; go_simp; with_reducible rfl) ?_
            try simp only [Act.put, List.setIfInBounds_toArray, List.set_cons_zero, List.set_cons_succ]
            refine take 20 _ rfl (by kernel_rfl) (by kernel_rfl) (by kernel_rfl) (fun _ _ _ h => h) (by rfl) hS (by intro w _; go_simp; with_reducible rfl) ?_
            try simp only [Act.put, List.setIfInBounds_toArray, List.set_cons_zero, List.set_cons_succ]
            refine take 21 _ rfl (by kernel_rfl) (by kernel_rfl) (by kernel_rfl) (fun _ _ _ h => h) (by rfl) hS (by intro w _; go_simp; with_reducible rfl) ?_
            try simp only [Act.put, List.setIfInBounds_toArray, List.set_cons_zero, List.set_cons_succ]
            refine take 22 _ rfl (by kernel_rfl) (by kernel_rfl) (by kernel_rfl) (fun _ _ _ h => h) (by rfl) hS (by intro w hw; have hcl := HX1.out w hw; go_simp; with_reducible rfl) ?_
            try simp only [Act.put, List.setIfInBounds_toArray, List.set_cons_zero, List.set_cons_succ]
            refine take 23 _ rfl (by kernel_rfl) (by kernel_rfl) (by kernel_rfl) (fun _ _ _ h => h) (by rfl) hS (by intro w _; go_simp; with_reducible rfl) ?_
            try simp only [Act.put, List.setIfInBounds_toArray, List.set_cons_zero, List.set_cons_succ]
            refine take 24 _ rfl (by kernel_rfl) (by kernel_rfl) (by kernel_rfl) (fun _ _ _ h => h) (by rfl) hS (by intro w _; go_simp; with_reducible rfl) ?_
            try simp only [Act.put, List.setIfInBounds_toArray, List.set_cons_zero, List.set_cons_succ]
            refine Float.float (W := X2) [(18, 98, .is (.agg Vz)), (25, 105, .is (.agg Vy))] [18, 25] 4 rfl (by rfl) (by kernel_rfl) (by kernel_rfl) (by kernel_rfl) (by kernel_rfl) (by kernel_rfl) (fun γ => rfl) (Below.drew (Below.refl _ _)) (fun V hV => Fk.of_below hV) ?_ ?_
            · intro γ
              simp only [Float.puts, Act.put, List.setIfInBounds_toArray, List.set_cons_zero, List.set_cons_succ]
              refine ⟨?_, ?_, trivial⟩
              · exact ⟨_, _, rfl, Float.does_take (fun X hx => by rw [← HVZ.out]; exact run_mid_in 43 (.tmp 97) rfl g (i * 3) (by go_simp) (tmL z) _ (range_below HCZ.out hx HLG.out) rfl rfl (by kernel_rfl))⟩
              · exact ⟨_, _, rfl, Float.does_take (fun X hx => by rw [← HVY.out]; exact run_mid_in 43 (.tmp 104) rfl g ((i + 1) * 3) (by go_simp) (tmL y) _ (range_below HCY.out hx HLG.out) rfl rfl (by kernel_rfl))⟩
            · intro γ v hS h1 h2
              clear h1 h2
              simp only [Float.puts, Act.put, List.setIfInBounds_toArray, List.set_cons_zero, List.set_cons_succ]
              clear γ
              have HW3 := Lib.hid (HW2.out.below hS)
              replace hS := Fk.of_below (F := fun j => j = g) hS
              obtain ⟨th1, th2, fk1, fk2, hU2⟩ := up_swap HW3.out (by have := HN.out; omega) HZI.out
              have TH1 := Lib.hid th1
              have TH2 := Lib.hid th2
              have FK1 := Lib.hid fk1
              have FK2 := Lib.hid fk2
              have HU2 := Lib.hid hU2
              have HZT := Lib.hid (show Vz.toList = tmL z from by rw [← HVZ.out])
              have HYT2 := Lib.hid (show Vy.toList = tmL y from by rw [← HVY.out])
              have HZS := Lib.hid (show Vz.size = 3 from by rw [← HVZ.out]; rfl)
              have HYS := Lib.hid (show Vy.size = 3 from by rw [← HVY.out]; rfl)
              have HZA := Lib.hid (show Vz.all (·.oneCell') = true from by rw [← HVZ.out]; exact tm_one z)
              have HYA := Lib.hid (show Vy.all (·.oneCell') = true from by rw [← HVY.out]; exact tm_one y)
              have HSB := Lib.hid hS
              clear th1 th2 fk1 fk2 hU2 HW3 HW2 HCY HCZ HX1
              refine take 26 _ rfl (by kernel_rfl) (by kernel_rfl) (by kernel_rfl) (fun _ _ _ h => h) (by rfl) hS (by intro w _; go_simp; with_reducible rfl) ?_
              try simp only [Act.put, List.setIfInBounds_toArray, List.set_cons_zero, List.set_cons_succ]
              refine alone 27 rfl (by kernel_rfl) (by rfl) ?_
              intro K hK
              refine wp_store_mid 43 (.tmp 106) (.tmp 98) rfl g ((i + 1) * 3) Vz (by go_simp) rfl (by rw [HZS.out]; exact TH1.out) (by rw [HZS.out]; kernel_rfl) HZA.out ?_
              rw [HZT.out]
              refine hK.out _ _ (HSB.out.trans FK1.out (fun _ _ h => h)) ?_
              clear hK K hS
              have hS := HSB.out.trans FK1.out (fun _ _ h => h)
              try simp only [Act.put]
              refine take 28 _ rfl (by kernel_rfl) (by kernel_rfl) (by kernel_rfl) (fun _ _ _ h => h) (by rfl) hS (by intro w _; go_simp; with_reducible rfl) ?_
              try simp only [Act.put, List.setIfInBounds_toArray, List.set_cons_zero, List.set_cons_succ]
              refine alone 29 rfl (by kernel_rfl) (by rfl) ?_
              intro K hK
              refine wp_store_mid 43 (.tmp 107) (.tmp 105) rfl g (i * 3) Vy (by go_simp) rfl (by rw [HYS.out]; exact TH2.out) (by rw [HYS.out]; kernel_rfl) HYA.out ?_
              rw [HYT2.out]
              refine hK.out _ _ (HSB.out.trans FK2.out (fun _ _ h => h)) ?_
              clear hK K hS
              try simp only [Act.put]
              refine region_end (by kernel_rfl) ?_
              have HZ2 := Lib.hid (show ∀ q ∈ T.drop i, ltB y q = true from fun q hq => by
                obtain ⟨hl, e⟩ := List.getElem?_eq_some_iff.1 HZI.out
                rw [List.drop_eq_getElem_cons hl, e] at hq
                rcases List.mem_cons.1 hq with rfl | hq
                · exact HR.out
                · exact HZ.out q hq)
              clear TH1 TH2 FK1 FK2 HZT HYT2 HZS HYS HZA HYA HSB
              go_wp2_with fail
              go_round
              case rel => exact ⟨i, by omega, by go_num, HU2.out, HZ2.out⟩
              case measure => simp only [intOf]; omega
end Wh
end Go.Proofs.Ytgbahkkccpcadaa
