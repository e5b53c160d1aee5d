/- What the document's Find finds in a trie's row. -/
import Derived.Test.YtcpfchfhcfdcpaaTlPut
import Derived.Test.YtcpfchfhcfdcpaaTrOrd
namespace Go.Proofs.Ytcpfchfhcfdcpaa
namespace Tri
open Num Mem Words Chacha Aead Poly Quiet Ops Adr RowS

theorem best_gen (F : Rt → Bool) : ∀ (L : List Rt) (acc : Option Rt), (∀ y, acc = some y → ∀ x ∈ L.filter F, y.p.length < x.p.length) → (L.filter F).Pairwise (fun x y => x.p.length < y.p.length) → L.foldl (upB F) acc = (match (L.filter F).getLast? with | some x => some x | none => acc)
  | [], acc, _, _ => rfl
  | x :: L, acc, h, hp => by
    rw [List.foldl_cons]
    by_cases hx : F x = true
    · rw [List.filter_cons_of_pos hx] at h hp ⊢
      have hu : upB F acc x = some x := by
        unfold upB
        refine if_pos ⟨hx, ?_⟩
        cases acc with
        | none => exact .inl rfl
        | some y => exact .inr ⟨y, rfl, h y rfl x List.mem_cons_self⟩
      rw [hu, best_gen F L (some x) (fun y hy z hz => by cases hy; exact (List.pairwise_cons.1 hp).1 z hz) (List.pairwise_cons.1 hp).2]
      cases hl : L.filter F with
      | nil => rfl
      | cons a l => rw [List.getLast?_cons_cons]; cases hh : (a :: l).getLast? with
        | some v => rfl
        | none => simp at hh
    · rw [List.filter_cons_of_neg hx] at h hp ⊢
      have hu : upB F acc x = acc := by
        unfold upB
        exact if_neg fun c => hx c.1
      rw [hu]
      exact best_gen F L acc h hp
theorem best_is (F : Rt → Bool) (L : List Rt) (hp : (L.filter F).Pairwise (fun x y => x.p.length < y.p.length)) : bestL F L = (L.filter F).getLast? := by
  unfold bestL
  rw [best_gen F L none (fun y hy => by cases hy) hp]
  cases (L.filter F).getLast? <;> rfl
theorem holdB_iff {s : Bool} {f : Nat → Nat} (hf : ∀ i, f i < 256) {x : Rt} (hx : (x.p.length : Int) ≤ digitsI x.s) : holdB s f x = true ↔ rightB s f = true ∧ s = x.s ∧ x.p <+: bs f (digitsI x.s).toNat := by
  unfold holdB
  rw [holds_iff (byt_lt x.p) hf (right_byt hx), bs_byt]
theorem filter_routes {s : Bool} {f : Nat → Nat} (hf : ∀ i, f i < 256) (r : Bool) {t : Tr} (ok : t.Ok) (hl : ∀ x ∈ t.routes r, (x.p.length : Int) ≤ digitsI x.s) :
    (t.routes r).filter (holdB s f) = if s = r then subR s f t else [] := by
  have e : (t.routes r).filter (holdB s f) = (t.routes r).filter (fun x => decide (rightB s f = true ∧ s = r ∧ x.p <+: bs f (digitsI s).toNat)) := by
    refine List.filter_congr fun x hx => ?_
    have hs : x.s = r := by
      unfold Tr.routes at hx
      obtain ⟨y, _, rfl⟩ := List.mem_map.1 hx
      rfl
    have := holdB_iff (s := s) (f := f) hf (hl x hx)
    rw [hs] at this
    rw [Bool.eq_iff_iff, this, decide_eq_true_eq]
    constructor
    · rintro ⟨h1, rfl, h3⟩; exact ⟨h1, rfl, h3⟩
    · rintro ⟨h1, rfl, h3⟩; exact ⟨h1, rfl, h3⟩
  rw [e]
  by_cases hs : s = r
  · subst hs
    rw [if_pos rfl]
    unfold subR
    by_cases hr : rightB s f = true
    · rw [if_pos hr, hold_filter _ ok]
      unfold Tr.routes
      rw [List.filter_map]
      congr 1
      refine List.filter_congr fun x _ => ?_
      simp [hr]
    · rw [if_neg hr]
      refine List.filter_eq_nil_iff.2 fun x _ => ?_
      simp [hr]
  · rw [if_neg hs]
    refine List.filter_eq_nil_iff.2 fun x _ => ?_
    simp [hs]
theorem filter_hold {t : Tm} (h : t.Fit) {s : Bool} {f : Nat → Nat} (hf : ∀ i, f i < 256) : t.L.filter (holdB s f) = holdR s f t.a t.b := by
  have h1 := filter_routes (s := s) hf false h.oka (fun x hx => (h.own x (List.mem_append_left _ hx)).1)
  have h2 := filter_routes (s := s) hf true h.okb (fun x hx => (h.own x (List.mem_append_right _ hx)).1)
  unfold Tm.L routes2
  rw [List.filter_append, h1, h2]
  unfold holdR
  cases s <;> simp
theorem hold_up {t : Tm} (h : t.Fit) (s : Bool) (f : Nat → Nat) : (holdR s f t.a t.b).Pairwise (fun x y => x.p.length < y.p.length) := by
  unfold holdR subR
  by_cases hr : rightB s f = true
  · rw [if_pos hr]
    refine List.pairwise_map.2 (hold_rise ?_ _)
    cases s
    · exact h.oka
    · exact h.okb
  · rw [if_neg hr]
    exact List.Pairwise.nil
/-- Find of the row is Find of the trie -/
theorem best_find {t : Tm} (h : t.Fit) {s : Bool} {f : Nat → Nat} (hf : ∀ i, f i < 256) : bestC (bestL (holdB s f) t.L) = (lastR (holdR s f t.a t.b)).cells ∧ (bestL (holdB s f) t.L).isSome = decide ((lastR (holdR s f t.a t.b)).o ≠ 0) := by
  rw [best_is _ _ (by rw [filter_hold h hf]; exact hold_up h s f), filter_hold h hf]
  have hm : ∀ x ∈ holdR s f t.a t.b, 1 ≤ x.o := fun x hx => by
    rw [← filter_hold h hf] at hx
    exact (h.own x (List.mem_filter.1 hx).1).2.2
  unfold lastR bestC
  cases hl : (holdR s f t.a t.b).getLast? with
  | none =>
    rw [List.getLast?_eq_none_iff.1 hl]
    exact ⟨rfl, by decide⟩
  | some x =>
    have h1 := hm x (List.mem_of_getLast? hl)
    have e : (holdR s f t.a t.b).getLastD noRt = x := by rw [List.getLastD_eq_getLast?, hl]; rfl
    rw [e]
    exact ⟨rfl, by simp; omega⟩
end Tri
end Go.Proofs.Ytcpfchfhcfdcpaa

namespace Go.Proofs.Ytcpfchfhcfdcpaa
namespace Tri
open Num Mem Words Chacha Aead Poly Quiet Ops Adr RowS

theorem isP_hold {s : Bool} {g : Nat → Nat} (hg : ∀ i, g i < 256) {z : Int} {x : Rt} (hx : (x.p.length : Int) ≤ digitsI x.s) (h : isP s g z x = true) : holdB s g x = true := by
  obtain ⟨⟨h1, h2⟩, h3⟩ := isP_iff.1 h
  have hr := (right_parts (right_byt hx)).1
  have hd := digits_le x.s
  refine (holdB_iff hg hx).2 ⟨?_, h1.symm, ?_⟩
  · rw [← h1]
    unfold rightB at hr ⊢
    cases hs : x.s with
    | true => rfl
    | false =>
      rw [hs, Bool.false_or] at hr
      rw [Bool.false_or]
      refine decide_eq_true fun i hi => ?_
      rw [← h2 i.1 i.2]
      exact of_decide_eq_true hr i hi
  · have e : x.p = bs g x.p.length := by
      have := bs_byt x.p
      rw [← this, bs_length]
      refine bs_eq fun i hi => ?_
      unfold dig
      rw [h2 (i / 8) (by omega)]
    rw [e]
    refine bs_pre.2 ⟨by omega, fun _ _ => rfl⟩
theorem find_sub {P F : Rt → Bool} : ∀ (L : List Rt), (∀ x ∈ L, P x = true → F x = true) → (L.filter F).find? P = L.find? P
  | [], _ => rfl
  | x :: L, h => by
    have ih := find_sub L fun y hy => h y (List.mem_cons_of_mem _ hy)
    by_cases hp : P x = true
    · rw [List.filter_cons_of_pos (h x List.mem_cons_self hp), List.find?_cons_of_pos hp, List.find?_cons_of_pos hp]
    · rw [List.find?_cons_of_neg hp]
      by_cases hf : F x = true
      · rw [List.filter_cons_of_pos hf, List.find?_cons_of_neg hp, ih]
      · rw [List.filter_cons_of_neg hf, ih]
/-- Get of the row is Get of the trie -/
theorem get_same {t : Tm} (h : t.Fit) {s : Bool} {g : Nat → Nat} (hg : ∀ i, g i < 256) (z : Int) : getO t.L s g z = getO (holdR s g t.a t.b) s g z ∧ getB t.L s g z = getB (holdR s g t.a t.b) s g z := by
  have e : (holdR s g t.a t.b).find? (isP s g z) = t.L.find? (isP s g z) := by
    rw [← filter_hold h hg]
    exact find_sub t.L fun x hx hp => isP_hold hg (h.own x hx).1 hp
  unfold getO getB
  rw [e]
  exact ⟨rfl, rfl⟩
theorem putE_same {t : Tm} (h : t.Fit) {s : Bool} {g : Nat → Nat} (hg : ∀ i, g i < 256) (z o : Int) : rPutE s g z o t.L = putE s g z o t.a t.b := by
  unfold rPutE putE
  rw [(get_same h hg z).2]
  rfl
theorem apart {t : Tm} (h : t.Fit) : t.L.Pairwise (fun x y => ¬ (x.s = y.s ∧ x.p = y.p)) :=
  (routes_apart h.oka h.okb).imp fun k e => k e.1 e.2
theorem once {t : Tm} (h : t.Fit) (j k : Nat) (y x : Rt) (s : Bool) (g : Nat → Nat) (z : Int) (hj : t.L[j]? = some y) (hk : t.L[k]? = some x) (hy : isP s g z y = true) (hx : isP s g z x = true) : j = k := by
  obtain ⟨hj1, rfl⟩ := List.getElem?_eq_some_iff.1 hj
  obtain ⟨hk1, rfl⟩ := List.getElem?_eq_some_iff.1 hk
  have ha := List.pairwise_iff_getElem.1 (apart h)
  obtain ⟨⟨a1, a2⟩, a3⟩ := isP_iff.1 hy
  obtain ⟨⟨b1, b2⟩, b3⟩ := isP_iff.1 hx
  have fj := (h.own _ (List.getElem_mem hj1)).1
  have fk := (h.own _ (List.getElem_mem hk1)).1
  have e : t.L[j].p = t.L[k].p := by
    have hl : t.L[j].p.length = t.L[k].p.length := by omega
    have hd := digits_le t.L[j].s
    rw [← bs_byt t.L[j].p, ← bs_byt t.L[k].p, hl]
    refine bs_eq fun i hi => ?_
    unfold dig
    rw [a2 (i / 8) (by omega), b2 (i / 8) (by omega)]
  rcases Nat.lt_trichotomy j k with c | c | c
  · exact absurd ⟨by rw [a1, b1], e⟩ (ha j k hj1 hk1 c)
  · exact c
  · exact absurd ⟨by rw [a1, b1], e.symm⟩ (ha k j hk1 hj1 c)
end Tri
end Go.Proofs.Ytcpfchfhcfdcpaa

namespace Go.Proofs.Ytcpfchfhcfdcpaa
namespace Tri
open Num Mem Words Chacha Aead Poly Quiet Ops Adr RowS

theorem st_true (F G : Rt → Bool) (x : Rt) : ∀ (L M : List Rt), L.foldl (stP F G x) (M, true) = (M ++ L.filter (fun y => !F y), true)
  | [], M => by simp
  | y :: L, M => by
    rw [List.foldl_cons]
    by_cases h : F y = true
    · rw [show stP F G x (M, true) y = (M, true) by unfold stP; simp [h], st_true F G x L M, List.filter_cons_of_neg (by simp [h])]
    · rw [show stP F G x (M, true) y = (M ++ [y], true) by unfold stP; simp [h], st_true F G x L (M ++ [y]), List.filter_cons_of_pos (by simp [h])]
      simp
theorem st_gen (F G : Rt → Bool) (x : Rt) : ∀ (L M : List Rt), enP x (L.foldl (stP F G x) (M, false)) = M ++ (L.takeWhile G).filter (fun y => !F y) ++ x :: (L.dropWhile G).filter (fun y => !F y)
  | [], M => by simp [enP]
  | y :: L, M => by
    rw [List.foldl_cons]
    by_cases hg : G y = true
    · rw [List.takeWhile_cons_of_pos hg, List.dropWhile_cons_of_pos hg]
      by_cases h : F y = true
      · rw [show stP F G x (M, false) y = (M, false) by unfold stP; simp [h, hg], st_gen F G x L M, List.filter_cons_of_neg (by simp [h])]
      · rw [show stP F G x (M, false) y = (M ++ [y], false) by unfold stP; simp [h, hg], st_gen F G x L (M ++ [y]), List.filter_cons_of_pos (by simp [h])]
        simp
    · rw [List.takeWhile_cons_of_neg hg, List.dropWhile_cons_of_neg hg]
      by_cases h : F y = true
      · rw [show stP F G x (M, false) y = (M ++ [x], true) by unfold stP; simp [h, hg], st_true, List.filter_cons_of_neg (by simp [h])]
        simp [enP]
      · rw [show stP F G x (M, false) y = (M ++ [x] ++ [y], true) by unfold stP; simp [h, hg], st_true, List.filter_cons_of_pos (by simp [h])]
        simp [enP]
/-- Put of a row: what stands before, it, what stands behind -/
theorem put_row (F G : Rt → Bool) (x : Rt) (L : List Rt) : enP x (foP F G x L) = (L.takeWhile G).filter (fun y => !F y) ++ x :: (L.dropWhile G).filter (fun y => !F y) := by
  unfold foP
  rw [st_gen]
  simp
theorem put_mem (F G : Rt → Bool) (x : Rt) (L : List Rt) (y : Rt) : y ∈ enP x (foP F G x L) ↔ y = x ∨ (F y = false ∧ y ∈ L) := by
  rw [put_row]
  have e := List.takeWhile_append_dropWhile (p := G) (l := L)
  have hm : y ∈ L ↔ y ∈ L.takeWhile G ∨ y ∈ L.dropWhile G := by rw [← List.mem_append, e]
  rw [List.mem_append, List.mem_cons, List.mem_filter, List.mem_filter, hm]
  simp only [Bool.not_eq_true']
  constructor
  · rintro (⟨h1, h2⟩ | h | ⟨h1, h2⟩)
    · exact .inr ⟨h2, .inl h1⟩
    · exact .inl h
    · exact .inr ⟨h2, .inr h1⟩
  · rintro (h | ⟨h1, h2 | h2⟩)
    · exact .inr (.inl h)
    · exact .inl ⟨h2, h1⟩
    · exact .inr (.inr ⟨h2, h1⟩)
/-- the order of routes -/
abbrev bef (x y : Rt) : Prop := befB x.s y.s x.p y.p = true
theorem bef_trans {x y z : Rt} (h : bef x y) (k : bef y z) : bef x z := by
  unfold bef befB at *
  by_cases e1 : x.s = y.s
  · rw [if_pos e1] at h
    by_cases e2 : y.s = z.s
    · rw [if_pos e2] at k
      rw [if_pos (e1.trans e2)]
      exact lt_trans h k
    · rw [if_neg e2] at k
      rw [if_neg (fun e => e2 (e1.symm.trans e)), e1]
      exact k
  · rw [if_neg e1] at h
    by_cases e2 : y.s = z.s
    · rw [if_neg (fun e => e1 (e.trans e2.symm))]
      exact h
    · rw [if_neg e2] at k
      cases hx : x.s <;> cases hy : y.s <;> simp_all
theorem bef_total (x y : Rt) : bef x y ∨ (x.s = y.s ∧ x.p = y.p) ∨ bef y x := by
  unfold bef befB
  by_cases e1 : x.s = y.s
  · rw [if_pos e1, if_pos e1.symm]
    rcases lt_cases x.p y.p with h | h | h
    · exact .inl h
    · exact .inr (.inl ⟨e1, h⟩)
    · exact .inr (.inr h)
  · rw [if_neg e1, if_neg (fun e => e1 e.symm)]
    cases hx : x.s <;> cases hy : y.s <;> simp_all
theorem bef_irr (x : Rt) : ¬ bef x x := by
  unfold bef befB
  rw [if_pos rfl, lt_irrefl]
  decide
theorem put_sorted {F : Rt → Bool} {x : Rt} {L : List Rt} (hL : L.Pairwise bef) (hF : ∀ y ∈ L, F y = false → ¬ (y.s = x.s ∧ y.p = x.p)) : (enP x (foP F (fun y => befB y.s x.s y.p x.p) x L)).Pairwise bef := by
  rw [put_row]
  have e := List.takeWhile_append_dropWhile (p := fun y : Rt => befB y.s x.s y.p x.p) (l := L)
  have hS := hL
  rw [← e] at hS
  obtain ⟨h1, h2, h3⟩ := List.pairwise_append.1 hS
  have ht : ∀ y ∈ L.takeWhile (fun y => befB y.s x.s y.p x.p), bef y x := fun y hy => List.all_eq_true.1 List.all_takeWhile y hy
  have hd : ∀ y ∈ L.dropWhile (fun y => befB y.s x.s y.p x.p), ¬ bef y x := by
    cases hc : L.dropWhile (fun y => befB y.s x.s y.p x.p) with
    | nil => intro y hy; cases hy
    | cons a l =>
      have ha : ¬ bef a x := by
        have := List.head?_dropWhile_not (fun y : Rt => befB y.s x.s y.p x.p) L
        rw [hc] at this
        simpa using this
      rw [hc] at h2
      intro y hy hb
      rcases List.mem_cons.1 hy with rfl | hy
      · exact ha hb
      · exact ha (bef_trans ((List.pairwise_cons.1 h2).1 y hy) hb)
  refine List.pairwise_append.2 ⟨h1.filter _, List.pairwise_cons.2 ⟨fun y hy => ?_, h2.filter _⟩, fun y hy z hz => ?_⟩
  · obtain ⟨hy1, hy2⟩ := List.mem_filter.1 hy
    have hyL : y ∈ L := by rw [← e]; exact List.mem_append_right _ hy1
    rcases bef_total x y with h | h | h
    · exact h
    · exact absurd ⟨h.1.symm, h.2.symm⟩ (hF y hyL (by simpa using hy2))
    · exact absurd h (hd y hy1)
  · obtain ⟨hy1, _⟩ := List.mem_filter.1 hy
    rcases List.mem_cons.1 hz with rfl | hz
    · exact ht y hy1
    · exact h3 y hy1 z (List.mem_filter.1 hz).1
theorem bef_ext {l m : List Rt} (hl : l.Pairwise bef) (hm : m.Pairwise bef) (h : ∀ x, x ∈ l ↔ x ∈ m) : l = m := by
  have nd : ∀ {k : List Rt}, k.Pairwise bef → k.Nodup := fun {k} hk => (show k.Pairwise (fun x y => x ≠ y) from List.Pairwise.imp (S := fun x y => x ≠ y) (fun {x y} (h : bef x y) (e : x = y) => by subst e; exact bef_irr _ h) hk)
  refine List.Perm.eq_of_pairwise (le := bef) (fun x y _ _ h1 h2 => ?_) hl hm ((List.perm_ext_iff_of_nodup (nd hl) (nd hm)).2 h)
  exact absurd (bef_trans h1 h2) (bef_irr x)
theorem L_sorted {t : Tm} (h : t.Fit) : t.L.Pairwise bef := by
  have k : ∀ (s : Bool) {u : Tr}, u.Ok → (u.routes s).Pairwise bef := fun s u hu => by
    unfold Tr.routes
    refine List.pairwise_map.2 ((toL_sorted hu).imp fun hlt => ?_)
    unfold bef befB
    rw [if_pos rfl]
    exact hlt
  unfold Tm.L routes2
  refine List.pairwise_append.2 ⟨k _ h.oka, k _ h.okb, fun x hx y hy => ?_⟩
  unfold Tr.routes at hx hy
  obtain ⟨u, _, rfl⟩ := List.mem_map.1 hx
  obtain ⟨v, _, rfl⟩ := List.mem_map.1 hy
  rfl
/-- of a route of the trie: is it the prefix? -/
theorem isP_key {s : Bool} {g : Nat → Nat} (hg : ∀ i, g i < 256) {z : Int} (hr : rightPB s g z = true) {x : Rt} (hx : (x.p.length : Int) ≤ digitsI x.s) : isP s g z x = true ↔ x.s = s ∧ x.p = bs g z.toNat := by
  obtain ⟨n, rfl, hr2⟩ := right_nat hr
  rw [Int.toNat_natCast, isP_iff]
  have := right_eq (byt_lt x.p) hg (right_byt hx) hr2
  rw [bs_byt] at this
  constructor
  · rintro ⟨⟨h1, h2⟩, h3⟩
    exact ⟨h1, this.1 ⟨h2, by omega⟩⟩
  · rintro ⟨h1, h2⟩
    obtain ⟨h3, h4⟩ := this.2 h2
    exact ⟨⟨h1, h3⟩, by omega⟩
/-- Put of the row is the row of Put of the trie -/
theorem put_L {t : Tm} (h : t.Fit) {s : Bool} {g : Nat → Nat} (hg : ∀ i, g i < 256) {z o : Int} (ho : okI o) (he : putE s g z o t.a t.b = 0) : rPutL s g z o t.L = (Tm.mk (insA s (bs g z.toNat) o t.a) (insB s (bs g z.toNat) o t.b)).L := by
  obtain ⟨hr, ho1, _⟩ := putE_zero he
  have hf := fit_put h hg ho he
  have hk : ∀ y ∈ t.L, isP s g z y = true ↔ y.s = s ∧ y.p = bs g z.toNat := fun y hy => isP_key hg hr (h.own y hy).1
  unfold rPutL
  rw [putE_same h hg, if_pos he]
  refine bef_ext (put_sorted (L_sorted h) fun y hy hF e => ?_) (L_sorted hf) fun y => ?_
  · have e' := (hk y hy).2 e
    rw [e'] at hF
    cases hF
  · rw [put_mem, mem_put h (by omega)]
    refine or_congr Iff.rfl ⟨fun hy => ⟨fun e => ?_, hy.2⟩, fun hy => ⟨?_, hy.2⟩⟩
    · have e' := (hk y hy.2).2 e
      rw [e'] at hy
      cases hy.1
    · cases hc : isP s g z y with
      | false => rfl
      | true => exact absurd ((hk y hy.2).1 hc) hy.1
end Tri
end Go.Proofs.Ytcpfchfhcfdcpaa

namespace Go.Proofs.Ytcpfchfhcfdcpaa
namespace Tri
open Num Mem Words Chacha Aead Poly Quiet Ops Adr RowS

/-- without the one that stands at k -/
theorem cut_is {L : List Rt} {F : Rt → Bool} {k : Nat} {x : Rt} (hk : L[k]? = some x) (hx : F x = true) (hU : ∀ (j : Nat) (y : Rt), L[j]? = some y → F y = true → j = k) : L.take k ++ L.drop (k + 1) = L.filter (fun y => !F y) := by
  obtain ⟨hlt, rfl⟩ := List.getElem?_eq_some_iff.1 hk
  have e : L = L.take k ++ (L[k] :: L.drop (k + 1)) := by rw [← List.drop_eq_getElem_cons hlt, List.take_append_drop]
  have h1 : (L.take k).filter (fun y => !F y) = L.take k := List.filter_eq_self.2 fun y hy => by
    obtain ⟨j, hj, e⟩ := List.mem_iff_getElem.1 hy
    rw [List.length_take] at hj
    rw [List.getElem_take] at e
    cases hc : F y with
    | false => rfl
    | true => have := hU j y (e ▸ List.getElem?_eq_getElem _) hc; omega
  have h2 : (L.drop (k + 1)).filter (fun y => !F y) = L.drop (k + 1) := List.filter_eq_self.2 fun y hy => by
    obtain ⟨j, hj, e⟩ := List.mem_iff_getElem.1 hy
    rw [List.length_drop] at hj
    rw [List.getElem_drop] at e
    cases hc : F y with
    | false => rfl
    | true => have := hU (k + 1 + j) y (e ▸ List.getElem?_eq_getElem _) hc; omega
  conv => rhs; rw [e]
  rw [List.filter_append, List.filter_cons_of_neg (by simp [hx]), h1, h2]
def rDropE (s : Bool) (g : Nat → Nat) (z : Int) (L : List Rt) : Nat := if rightPB s g z = false then 41 else if getB L s g z = false then 4 else 0
def rDropL (s : Bool) (g : Nat → Nat) (z : Int) (L : List Rt) : List Rt := if rDropE s g z L = 0 then L.filter (fun y => !isP s g z y) else []
theorem dropE_same {t : Tm} (h : t.Fit) {s : Bool} {g : Nat → Nat} (hg : ∀ i, g i < 256) (z : Int) : rDropE s g z t.L = dropE s g z t.a t.b := by
  unfold rDropE dropE
  rw [(get_same h hg z).2]
/-- Drop of the row is the row of Drop of the trie -/
theorem drop_L' {t : Tm} (h : t.Fit) {s : Bool} {g : Nat → Nat} (hg : ∀ i, g i < 256) {z : Int} (he : dropE s g z t.a t.b = 0) : rDropL s g z t.L = (Tm.mk (delA s (bs g z.toNat) t.a) (delB s (bs g z.toNat) t.b)).L := by
  obtain ⟨hr, _⟩ := dropE_zero he
  have hk : ∀ y ∈ t.L, isP s g z y = true ↔ y.s = s ∧ y.p = bs g z.toNat := fun y hy => isP_key hg hr (h.own y hy).1
  unfold rDropL
  rw [dropE_same h hg, if_pos he]
  refine bef_ext ((L_sorted h).filter _) (L_sorted (fit_drop h s _)) fun y => ?_
  rw [List.mem_filter, mem_drop h]
  simp only [Bool.not_eq_true']
  refine ⟨fun hy => ⟨fun e => ?_, hy.1⟩, fun hy => ⟨hy.2, ?_⟩⟩
  · have e' := (hk y hy.1).2 e
    rw [e'] at hy
    cases hy.2
  · cases hc : isP s g z y with
    | false => rfl
    | true => exact absurd ((hk y hy.2).1 hc) hy.1
end Tri
end Go.Proofs.Ytcpfchfhcfdcpaa
