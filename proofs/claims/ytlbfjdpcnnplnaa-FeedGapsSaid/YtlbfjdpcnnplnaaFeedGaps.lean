/- The walk of FeedGaps. -/
import Derived.Test.YtlbfjdpcnnplnaaFdEv
import Derived.Test.YtlbfjdpcnnplnaaFdArg
namespace Go.Proofs.Ytlbfjdpcnnplnaa
namespace FeedGaps
open Go.ChangeShapes Go.WideShapes Go.ChangeAt Go.RowKit Go.Maps
open Num Mem Words Chacha Aead Poly Quiet RowV Fee

/-- one item, told behind s, leads to t: a gap, or the event of number s -/
def One (s : Nat) (x : It) (t : Nat) : Prop := (0 < x.lost ∧ x.e.v = 0 ∧ t = s + x.lost) ∨ (x.lost = 0 ∧ x.e.v = s ∧ t = s + 1)
def Run : Nat → List It → Nat → Prop
  | s, [], t => t = s
  | s, x :: L, t => ∃ u, One s x u ∧ Run u L t
theorem run_append : ∀ {L M : List It} {s t u : Nat}, Run s L t → Run t M u → Run s (L ++ M) u
  | [], M, s, t, u, h, k => by
    have h : t = s := h
    rw [← h]
    exact k
  | x :: L, M, s, t, u, ⟨v, h1, h2⟩, k => ⟨v, h1, run_append h2 k⟩
theorem run_split : ∀ {L M : List It} {s u : Nat}, Run s (L ++ M) u → ∃ t, Run s L t ∧ Run t M u
  | [], M, s, u, h => ⟨s, rfl, h⟩
  | x :: L, M, s, u, ⟨v, h1, h2⟩ => by
    obtain ⟨t, h3, h4⟩ := run_split h2
    exact ⟨t, ⟨v, h1, h3⟩, h4⟩
theorem run_gap (s n : Nat) : Run s (gapL n) (s + n) := by
  unfold gapL
  split
  · rename_i h
    exact ⟨s + n, .inl ⟨h, rfl, rfl⟩, rfl⟩
  · show s + n = s
    omega
theorem one_le {s t : Nat} {x : It} (h : One s x t) : s ≤ t := by rcases h with ⟨h1, h2, h3⟩ | ⟨h1, h2, h3⟩ <;> omega
theorem run_le : ∀ {L : List It} {s t : Nat}, Run s L t → s ≤ t
  | [], s, t, h => by have h : t = s := h; omega
  | x :: L, s, t, ⟨u, h1, h2⟩ => Nat.le_trans (one_le h1) (run_le h2)
/-- what a watcher has is all from s to n -/
def Tells (s : Nat) (x : Wt) (n : Nat) : Prop := ∃ t, Run s x.L t ∧ t + x.lost = n
theorem tells_push {s n : Nat} {x : Wt} (h : Tells s x n) (e : Ev) (he : e.v = n) : Tells s (pushW x e) (n + 1) := by
  obtain ⟨t, h1, h2⟩ := h
  unfold pushW
  split
  · exact ⟨t, h1, by show t + (x.lost + 1) = n + 1; omega⟩
  · refine ⟨n + 1, run_append h1 (run_append (run_gap t x.lost) ?_), rfl⟩
    exact ⟨n + 1, .inr ⟨rfl, by rw [he, h2], by omega⟩, rfl⟩
theorem tells_all : ∀ (k : Nat) {s n : Nat} {x : Wt}, Tells s x n → Tells s (pushAll x (evs n k)) (n + k)
  | 0, s, n, x, h => h
  | k + 1, s, n, x, h => by
    rw [evs_succ, pushAll_snoc]
    exact tells_push (tells_all k h) (evE n k) rfl
theorem tells_take {s n : Nat} {x : Wt} (h : Tells s x n) (k : Int) : ∃ t, Run s (takeL x k) t ∧ Tells t (takeW x k) n := by
  obtain ⟨t, h1, h2⟩ := h
  rw [← List.take_append_drop (cnt k x.L.length) x.L] at h1
  obtain ⟨u, h3, h4⟩ := run_split h1
  by_cases c : ((cnt k x.L.length : Nat) : Int) < k
  · have hd : x.L.drop (cnt k x.L.length) = [] := by
      rw [List.drop_eq_nil_iff]
      unfold cnt at c ⊢
      omega
    rw [hd] at h4
    have h4 : t = u := h4
    subst h4
    refine ⟨n, ?_, n, ?_, ?_⟩
    · unfold takeL
      rw [if_pos c]
      rw [← h2]
      exact run_append h3 (run_gap _ _)
    · unfold takeW
      dsimp only
      rw [hd]
      rfl
    · unfold takeW
      rw [if_pos c]
      rfl
  · refine ⟨u, ?_, t, h4, ?_⟩
    · unfold takeL
      rw [if_neg c, List.append_nil]
      exact h3
    · unfold takeW
      rw [if_neg c]
      exact h2
theorem take_len {x : Wt} (k : Int) (hk : 0 < k) : ((takeL x k).length : Int) ≤ k := by
  unfold takeL
  rw [List.length_append, List.length_take]
  have := cnt_le k x.L.length
  by_cases c : ((cnt k x.L.length : Nat) : Int) < k
  · rw [if_pos c]
    have := gap_le x.lost
    omega
  · rw [if_neg c]
    have : cnt k x.L.length ≤ k.toNat := by unfold cnt; omega
    simp only [List.length_nil]
    omega
theorem take_few {x : Wt} (k : Int) (h : x.L.length ≤ 16) : (takeL x k).length ≤ 17 := by
  unfold takeL
  rw [List.length_append, List.length_take]
  have := gap_le x.lost
  by_cases c : ((cnt k x.L.length : Nat) : Int) < k
  · rw [if_pos c]
    omega
  · rw [if_neg c]
    simp only [List.length_nil]
    omega
theorem take_none {x : Wt} (k : Int) (hk : k < 1) : takeL x k = [] := by
  unfold takeL
  have : cnt k x.L.length = 0 := by unfold cnt; omega
  rw [this, if_neg (by omega)]
  rfl
theorem take_end {x : Wt} (h : x.L.length ≤ 16) : takeW x 100 = ⟨[], 0⟩ := by
  unfold takeW
  have : cnt 100 x.L.length = x.L.length := by unfold cnt; omega
  rw [this, if_pos (by omega), List.drop_of_length_le (Nat.le_refl _)]
theorem run_cons {s u : Nat} {x : It} {M : List It} (h : Run s (x :: M) u) : ∃ t, One s x t ∧ Run t M u := h
theorem run_at : ∀ {L : List It} {s t : Nat} (_ : Run s L t) (i : Nat) (x : It), L[i]? = some x → ∀ u, Run s (L.take i) u → ∃ v, One u x v ∧ Run s (L.take (i + 1)) v
  | [], s, t, _, i, x, hx, u, _ => by simp at hx
  | y :: L, s, t, ⟨v, h1, h2⟩, 0, x, hx, u, hu => by
    simp only [List.getElem?_cons_zero, Option.some.injEq] at hx
    subst hx
    have hu : u = s := hu
    subst hu
    exact ⟨v, h1, v, h1, rfl⟩
  | y :: L, s, t, ⟨v, h1, h2⟩, i + 1, x, hx, u, hu => by
    rw [List.getElem?_cons_succ] at hx
    obtain ⟨v', h1', hu⟩ := hu
    have e : v' = v := by
      rcases h1 with ⟨a1, a2, a3⟩ | ⟨a1, a2, a3⟩ <;> rcases h1' with ⟨b1, b2, b3⟩ | ⟨b1, b2, b3⟩ <;> omega
    subst e
    obtain ⟨z, h3, h4⟩ := run_at h2 i x hx u hu
    exact ⟨z, h3, v', h1, h4⟩
theorem run_fun : ∀ {L : List It} {s t u : Nat}, Run s L t → Run s L u → t = u
  | [], s, t, u, h, k => by have h : t = s := h; have k : u = s := k; omega
  | x :: L, s, t, u, ⟨v, h1, h2⟩, ⟨v', h1', h2'⟩ => by
    have e : v' = v := by
      rcases h1 with ⟨a1, a2, a3⟩ | ⟨a1, a2, a3⟩ <;> rcases h1' with ⟨b1, b2, b3⟩ | ⟨b1, b2, b3⟩ <;> omega
    subst e
    exact run_fun h2 h2'

/-- the loop's world -/
structure LoW (w : World) (A : Option Addr) (N : Nat) (Q : Nat → OpV) (g : Nat) (x : Wt) (X : World) : Prop where
  bel : Below w.heap.size w X
  ops : IsOps w.heap.size X A N Q
  fb : ∃ F, FB w.heap.size X F g [(1, x)] 1
set_option maxRecDepth 100000 in
set_option maxHeartbeats 4000000 in
theorem walk0 (ah : Int) (A : Option Addr) (N c : Nat) (Q : Nat → OpV) (w : World) (hQ : IsOps w.heap.size w A N Q) (hN : N ≤ 9223372036854775807) : Calls Try.prog 5 #[.int .i64 ah, .slice A N c] w fun e w' => e = .returned (.bool true) ∧ Below w.heap.size w w' := by
  have HQ := Lib.hid hQ
  clear hQ
  go_enter Try.func5, Try.ntmps5
  go_wp2_with fail
  refine (new_any w).mono ?_
  rintro o X1 ⟨g, rfl, hb1, hf1⟩
  have hF1 := FB.new hf1 (Nat.le_refl _)
  obtain ⟨F1, hF1e⟩ : ∃ F1 : Nat → Prop, (fun i => w.heap.size ≤ i ∧ i < X1.heap.size) = F1 := ⟨_, rfl⟩
  rw [hF1e] at hF1
  have HF := Lib.hid hF1
  have HB := Lib.hid hb1
  clear hF1 hF1e hf1 hb1
  go_wp2_with fail
  refine (events_any 1 ah (by decide) X1).mono ?_
  rintro o X2 ⟨A2, c2, rfl, ho2, hb2⟩
  have HO2 := Lib.hid ho2
  have HF2 := Lib.hid (HF.out.below hb2)
  have HB2 := Lib.hid (below_trans HB.out hb2)
  have HFL := Lib.hid (show ∀ i, F1 i → i < X1.heap.size from fun i hi => (HF.out.2 i hi).2)
  clear ho2 hb2 HF HB
  go_wp2_with fail
  have hp := push_ev HF2.out HB2.out.size HFL.out HO2.out (evs_ok 1 _ (evN_le _) (by decide)) (fun p hp => (by cases hp)) (by rw [evs_length]; have := evN_le ah; omega)
  rw [evs_length] at hp
  refine hp.mono ?_
  rintro o X3 ⟨rfl, hf3, hk3, hb3⟩
  have HF3 := Lib.hid (show FB w.heap.size X3 F1 g [] 0 from hf3)
  have HB3 := Lib.hid (HB2.out.trans hb3)
  clear hp hf3 hk3 hb3 HF2 HB2 HFL HO2
  clear X2 X1
  go_wp2_with fail
  refine (watch_ok HF3.out.1 (by decide) (by decide)).mono ?_
  rintro o X4 ⟨rfl, hf4, hk4⟩
  have hF4 := HF3.out.grow HB3.out.size hf4
  have hB4 : Below w.heap.size w X4 := HB3.out.trans (hk4.below HB3.out.size fun i hi => (HF3.out.2 i hi).1)
  have HL := Lib.hid (show LoW w A N Q g ⟨[], 0⟩ X4 from ⟨hB4, HQ.out.below hB4, _, hF4⟩)
  clear hF4 hf4 hk4 hB4 HF3 HB3 HQ
  clear X3
  go_wp2_with fail
  go_loopw [8, 9, 10, 11, 12, 13, 14, 15] (fun nx sn i _ _ _ _ _ X => ∃ (k v s : Nat) (x : Wt), k ≤ N + 1 ∧ k ≤ 120 ∧ v ≤ 1000 + 40 * k ∧ i = .int .i64 k ∧ nx = .int .u64 v ∧ sn = .int .u64 s ∧ Tells s x v ∧ (k = N + 1 → x = ⟨[], 0⟩) ∧ LoW w A N Q g x X) (fun _ _ i _ _ _ _ _ _ => N + 1 - (intOf i).toNat)
  case atStart => exact ⟨0, 1000, 1000, ⟨[], 0⟩, by omega, by omega, by omega, rfl, rfl, rfl, ⟨1000, rfl, rfl⟩, fun _ => rfl, HL.out⟩
  case round =>
    obtain ⟨k, v, s, x, hk, hk2, hv, rfl, rfl, rfl, hT, hend, hW⟩ := hrel
    have HT := Lib.hid hT
    have HEND := Lib.hid hend
    obtain ⟨F, hF⟩ := hW.fb
    have HF := Lib.hid hF
    have HB := Lib.hid hW.bel
    have HQ := Lib.hid hW.ops
    have hsv : s ≤ v := by obtain ⟨t, h1, h2⟩ := hT; have := run_le h1; omega
    have hlost : x.lost ≤ v := by obtain ⟨t, h1, h2⟩ := hT; omega
    have HOK := Lib.hid (show OkWt x from hF.1.ok (1, x) (List.mem_singleton.2 rfl))
    clear hT hend hF hW HL
    by_cases h120 : k < 120
    · by_cases hlt : k < N
      · obtain ⟨b, off, rfl, hbl, c0, c1, c2, hrg⟩ := HQ.out.get hlt
        obtain ⟨q, hq⟩ : ∃ q, (Q k).n = q := ⟨_, rfl⟩
        obtain ⟨kd, hkd⟩ : ∃ kd, (Q k).c = kd := ⟨_, rfl⟩
        rw [hq] at c2
        rw [hkd] at c0
        clear c1 hrg hq hkd hbl
        have hle : (k : Int) ≤ (N : Int) := by omega
        go_upto_region 13 with fail
        obtain ⟨y, hy⟩ : ∃ y, bits .and .i64 kd 1 = y := ⟨_, rfl⟩
        by_cases hy0 : y = 0
        · subst hy0
          have HEV := Lib.hid (events_any v q (by omega) wr)
          go_upto_region 14 with fail
          go_wp2_with (go_at_call 13; fail)
          refine HEV.out.mono ?_
          rintro o X3 ⟨A3, c3, rfl, ho3, hb3⟩
          have HF3 := Lib.hid (HF.out.below hb3)
          have HB3 := Lib.hid (below_trans HB.out hb3)
          have HO3 := Lib.hid ho3
          have HFL := Lib.hid (show ∀ i, F i → i < wr.heap.size from fun i hi => (HF.out.2 i hi).2)
          have HQ3 := Lib.hid (HQ.out.below (hb3.mono HB.out.size))
          have HTA := Lib.hid (tells_all (evN q) HT.out)
          have hen := evN_le q
          clear HEV ho3 hb3 HF HB HQ hy c0 c2
          go_wp2_with fail
          have hp := push_ev HF3.out HB3.out.size HFL.out HO3.out (evs_ok v _ hen (by omega)) (fun p hp => by
            rw [List.mem_singleton.1 hp, evs_length]
            show x.lost + evN q ≤ _
            omega) (by rw [evs_length]; omega)
          rw [evs_length] at hp
          refine hp.mono ?_
          rintro o X4 ⟨rfl, hf4, hk4, hb4⟩
          have HW4 := Lib.hid (show LoW w (some ⟨b, off, none⟩) N Q g (pushAll x (evs v (evN q))) X4 from ⟨HB3.out.trans hb4, HQ3.out.below hb4, F, hf4⟩)
          clear hp hf4 hk4 hb4 HF3 HB3 HO3 HFL HQ3
          clear X3
          obtain ⟨e, he⟩ : ∃ e, evN q = e := ⟨_, rfl⟩
          rw [he] at hen HTA HW4 ⊢
          have hw1 : IntKind.u64.wrap (e : Int) = (e : Int) := by rw [IntKind.wrap_u64]; omega
          have hw2 : IntKind.u64.wrap ((v : Int) + (e : Int)) = (v : Int) + (e : Int) := by rw [IntKind.wrap_u64]; omega
          clear he
          go_wp2_with fail
          go_roundw
          case rel => exact ⟨k + 1, v + e, s, pushAll x (evs v e), by omega, by omega, by omega, by go_num, by go_num, rfl, HTA.out, fun c => absurd c (by omega), HW4.out⟩
          case measure => simp [intOf]; omega
        · have hy1 : (y == 0) = false := beq_eq_false_iff_ne.2 hy0
          have hkn : ¬ k + 1 = N + 1 := by omega
          go_upto_region 17 with fail
          go_wp2_with (go_at_call 17; fail)
          refine (take_ev HF.out HB.out.size 1 (by decide) q (at_one 1 x)).mono ?_
          rintro o X5 ⟨z, rfl, hz, hf5, hk5, hb5⟩
          rw [putS_one] at hf5
          obtain ⟨A5, rfl, hget⟩ := hz.get
          obtain ⟨t, hrun, htell⟩ := tells_take HT.out q
          have HL1 := Lib.hid (take_len (x := x) q)
          have HL2 := Lib.hid (take_none (x := x) q)
          have hm17 := take_few (x := x) q HOK.out.few
          have HTV := Lib.hid (show t ≤ v from by obtain ⟨t2, h1, h2⟩ := htell; have := run_le h1; omega)
          obtain ⟨L, hL⟩ : ∃ L, takeL x q = L := ⟨_, rfl⟩
          rw [hL] at hget hrun HL1 HL2 hm17 ⊢
          obtain ⟨m, hm⟩ : ∃ m, L.length = m := ⟨_, rfl⟩
          rw [hm] at HL1 hm17 ⊢
          have HM := Lib.hid hm
          have HRUN := Lib.hid hrun
          have HTELL := Lib.hid htell
          have HGET := Lib.hid hget
          have HW5 := Lib.hid (show LoW w (some ⟨b, off, none⟩) N Q g (takeW x q) X5 from ⟨HB.out.trans hb5, HQ.out.below hb5, F, hf5⟩)
          have HEN := Lib.hid (show k + 1 = N + 1 → takeW x q = ⟨[], 0⟩ from fun c => absurd c hkn)
          clear hL hm hrun htell hget hz hf5 hk5 hb5 HF HB HQ
          by_cases hq0 : 0 < q
          · have hm1 := HL1.out hq0
            have hq1 : ¬ q < (m : Int) := by omega
            have hq2 : ¬ q < 1 := by omega
            go_wp2_with fail
            go_loopw [9, 15] (fun sn j X => ∃ (i u : Nat), i ≤ m ∧ sn = .int .u64 u ∧ j = .int .i64 i ∧ Run s (L.take i) u ∧ X = X5) (fun _ j _ => m - (intOf j).toNat)
            case atStart => exact ⟨0, s, Nat.zero_le _, rfl, rfl, rfl, rfl⟩
            case round =>
              obtain ⟨i, u, hi, rfl, rfl, hR, rfl⟩ := hrel
              have huv : u ≤ v := by
                have h1 := HRUN.out
                rw [← List.take_append_drop i L] at h1
                obtain ⟨u2, h2, h3⟩ := run_split h1
                have e := run_fun hR h2
                have := run_le h3
                have := HTV.out
                omega
              have HR := Lib.hid hR
              clear hR
              by_cases hiz : i < m
              · obtain ⟨y, hy⟩ : ∃ y, L[i]? = some y := ⟨_, List.getElem?_eq_getElem (by rw [HM.out]; exact hiz)⟩
                obtain ⟨b5, off5, rfl, _, c34, c33⟩ := HGET.out i y hy
                obtain ⟨u2, hone, hrun2⟩ := run_at HRUN.out i y hy u HR.out
                have hu2v : u2 ≤ v := by
                  have h1 := HRUN.out
                  rw [← List.take_append_drop (i + 1) L] at h1
                  obtain ⟨u3, h2, h3⟩ := run_split h1
                  have e := run_fun hrun2 h2
                  have := run_le h3
                  have := HTV.out
                  omega
                have HR2 := Lib.hid hrun2
                have hi' : (i : Int) < (m : Int) := by omega
                clear hrun2 hy
                rcases hone with ⟨h1, h2, h3⟩ | ⟨h1, h2, h3⟩
                · rw [h2] at c33
                  obtain ⟨l, hl⟩ : ∃ l, y.lost = l := ⟨_, rfl⟩
                  rw [hl] at c34 h1 h3
                  have hd : decide ((0 : Int) < (l : Int)) = true := decide_eq_true (by omega)
                  have hw1 : IntKind.u64.wrap ((u : Int) + (l : Int)) = (u : Int) + (l : Int) := by rw [IntKind.wrap_u64]; omega
                  have HU2 := Lib.hid (show u2 = u + l from h3)
                  clear h2 h3 hl
                  go_wp2_with fail
                  go_roundw
                  case rel => exact ⟨i + 1, u2, by omega, by rw [HU2.out]; go_num, by go_num, HR2.out, by first | trivial | rfl⟩
                  case measure => simp [intOf]; omega
                · rw [h1] at c34
                  rw [h2] at c33
                  have hw1 : IntKind.u64.wrap ((u : Int) + 1) = (u : Int) + 1 := by rw [IntKind.wrap_u64]; omega
                  have HU2 := Lib.hid (show u2 = u + 1 from h3)
                  clear h1 h2 h3
                  go_wp2_with fail
                  go_roundw
                  case rel => exact ⟨i + 1, u2, by omega, by rw [HU2.out]; go_num, by go_num, HR2.out, by first | trivial | rfl⟩
                  case measure => simp [intOf]; omega
              · obtain rfl : i = m := by omega
                have hut : u = t := by
                  have h1 := HR.out
                  rw [List.take_of_length_le (by rw [HM.out]; exact Nat.le_refl _)] at h1
                  exact run_fun h1 HRUN.out
                subst hut
                have hd : decide ((v : Int) < (u : Int)) = false := decide_eq_false (by omega)
                have hd' : ¬ v < u := by omega
                go_wp2_with fail
                go_roundw
                case rel => exact ⟨k + 1, v, u, takeW x q, by omega, by omega, by omega, by go_num, by go_num, by go_num, HTELL.out, HEN.out, HW5.out⟩
                case measure => simp [intOf]; omega
          · have hq1 : q < 1 := by omega
            have hm0 : m = 0 := by rw [← HM.out, HL2.out hq1]; rfl
            have hL0 := HL2.out hq1
            have hst : t = s := by
              have := HRUN.out
              rw [hL0] at this
              exact this
            subst hm0 hst
            clear hL0
            go_wp2_with fail
            go_loopw [9, 15] (fun sn j X => sn = .int .u64 t ∧ j = .int .i64 0 ∧ X = X5) (fun _ _ _ => 0)
            case atStart => exact ⟨rfl, rfl, rfl⟩
            case round =>
              obtain ⟨rfl, rfl, rfl⟩ := hrel
              have htv := HTV.out
              have hd : decide ((v : Int) < (t : Int)) = false := decide_eq_false (by omega)
              have hd' : ¬ v < t := by omega
              go_wp2_with fail
              go_roundw
              case rel => exact ⟨k + 1, v, t, takeW x q, by omega, by omega, by omega, by go_num, by go_num, by go_num, HTELL.out, HEN.out, HW5.out⟩
              case measure => simp [intOf]; omega
      · by_cases hkN : k = N
        · have hle : (k : Int) ≤ (N : Int) := by omega
          have HKN := Lib.hid hkN
          clear hkN
          go_upto_region 17 with fail
          go_wp2_with (go_at_call 17; fail)
          refine (take_ev HF.out HB.out.size 1 (by decide) 100 (at_one 1 x)).mono ?_
          rintro o X5 ⟨z, rfl, hz, hf5, hk5, hb5⟩
          rw [putS_one] at hf5
          obtain ⟨A5, rfl, hget⟩ := hz.get
          obtain ⟨t, hrun, htell⟩ := tells_take HT.out 100
          have HL1 := Lib.hid (take_len (x := x) 100)
          have HL2 := Lib.hid (take_none (x := x) 100)
          have hm17 := take_few (x := x) 100 HOK.out.few
          have HTV := Lib.hid (show t ≤ v from by obtain ⟨t2, h1, h2⟩ := htell; have := run_le h1; omega)
          obtain ⟨L, hL⟩ : ∃ L, takeL x 100 = L := ⟨_, rfl⟩
          rw [hL] at hget hrun HL1 HL2 hm17 ⊢
          obtain ⟨m, hm⟩ : ∃ m, L.length = m := ⟨_, rfl⟩
          rw [hm] at HL1 hm17 ⊢
          have HM := Lib.hid hm
          have HRUN := Lib.hid hrun
          have HTELL := Lib.hid htell
          have HGET := Lib.hid hget
          have HW5 := Lib.hid (show LoW w A N Q g (takeW x 100) X5 from ⟨HB.out.trans hb5, HQ.out.below hb5, F, hf5⟩)
          have HEN := Lib.hid (show k + 1 = N + 1 → takeW x 100 = ⟨[], 0⟩ from fun _ => take_end HOK.out.few)
          clear hL hm hrun htell hget hz hf5 hk5 hb5 HF HB HQ
          have hm1 := HL1.out (by decide)
          have hq1 : ¬ (100 : Int) < (m : Int) := by omega
          have hq1' : ¬ 100 < m := by omega
          go_wp2_with fail
          go_loopw [9, 15] (fun sn j X => ∃ (i u : Nat), i ≤ m ∧ sn = .int .u64 u ∧ j = .int .i64 i ∧ Run s (L.take i) u ∧ X = X5) (fun _ j _ => m - (intOf j).toNat)
          case atStart => exact ⟨0, s, Nat.zero_le _, rfl, rfl, rfl, rfl⟩
          case round =>
            obtain ⟨i, u, hi, rfl, rfl, hR, rfl⟩ := hrel
            have huv : u ≤ v := by
              have h1 := HRUN.out
              rw [← List.take_append_drop i L] at h1
              obtain ⟨u2, h2, h3⟩ := run_split h1
              have e := run_fun hR h2
              have := run_le h3
              have := HTV.out
              omega
            have HR := Lib.hid hR
            clear hR
            by_cases hiz : i < m
            · obtain ⟨y, hy⟩ : ∃ y, L[i]? = some y := ⟨_, List.getElem?_eq_getElem (by rw [HM.out]; exact hiz)⟩
              obtain ⟨b5, off5, rfl, _, c34, c33⟩ := HGET.out i y hy
              obtain ⟨u2, hone, hrun2⟩ := run_at HRUN.out i y hy u HR.out
              have hu2v : u2 ≤ v := by
                have h1 := HRUN.out
                rw [← List.take_append_drop (i + 1) L] at h1
                obtain ⟨u3, h2, h3⟩ := run_split h1
                have e := run_fun hrun2 h2
                have := run_le h3
                have := HTV.out
                omega
              have HR2 := Lib.hid hrun2
              have hi' : (i : Int) < (m : Int) := by omega
              clear hrun2 hy
              rcases hone with ⟨h1, h2, h3⟩ | ⟨h1, h2, h3⟩
              · rw [h2] at c33
                obtain ⟨l, hl⟩ : ∃ l, y.lost = l := ⟨_, rfl⟩
                rw [hl] at c34 h1 h3
                have hd : decide ((0 : Int) < (l : Int)) = true := decide_eq_true (by omega)
                have hw1 : IntKind.u64.wrap ((u : Int) + (l : Int)) = (u : Int) + (l : Int) := by rw [IntKind.wrap_u64]; omega
                have HU2 := Lib.hid (show u2 = u + l from h3)
                clear h2 h3 hl
                go_wp2_with fail
                go_roundw
                case rel => exact ⟨i + 1, u2, by omega, by rw [HU2.out]; go_num, by go_num, HR2.out, by first | trivial | rfl⟩
                case measure => simp [intOf]; omega
              · rw [h1] at c34
                rw [h2] at c33
                have hw1 : IntKind.u64.wrap ((u : Int) + 1) = (u : Int) + 1 := by rw [IntKind.wrap_u64]; omega
                have HU2 := Lib.hid (show u2 = u + 1 from h3)
                clear h1 h2 h3
                go_wp2_with fail
                go_roundw
                case rel => exact ⟨i + 1, u2, by omega, by rw [HU2.out]; go_num, by go_num, HR2.out, by first | trivial | rfl⟩
                case measure => simp [intOf]; omega
            · obtain rfl : i = m := by omega
              have hut : u = t := by
                have h1 := HR.out
                rw [List.take_of_length_le (by rw [HM.out]; exact Nat.le_refl _)] at h1
                exact run_fun h1 HRUN.out
              subst hut
              have hd : decide ((v : Int) < (u : Int)) = false := decide_eq_false (by omega)
              have hd' : ¬ v < u := by omega
              go_wp2_with fail
              go_roundw
              case rel => exact ⟨k + 1, v, u, takeW x 100, by omega, by omega, by omega, by go_num, by go_num, by go_num, HTELL.out, HEN.out, HW5.out⟩
              case measure => simp [intOf]; omega
        · obtain rfl : k = N + 1 := by omega
          have hN1 : ¬ (N : Int) + 1 ≤ (N : Int) := by omega
          have hN2 : ¬ (120 : Int) ≤ (N : Int) := by omega
          have hN3 : ¬ 120 ≤ N := by omega
          have hx := HEND.out rfl
          subst hx
          have hsv2 : s = v := by
            obtain ⟨t2, h1, h2⟩ := HT.out
            have h1 : t2 = s := h1
            have h2 : t2 + 0 = v := h2
            omega
          subst hsv2
          have HAL := Lib.hid (alive_ok wr)
          clear HT HEND HOK HQ
          go_wp2_with fail
          refine HAL.out.mono ?_
          rintro e w2 ⟨rfl, hb2⟩
          have HF2 := Lib.hid (HF.out.below hb2)
          have HB2 := Lib.hid (below_trans HB.out hb2)
          have HWA := Lib.hid (waits_any HF2.out.1 1 (okU_n 1 (by decide)))
          rw [show waitsS [(1, (⟨[], 0⟩ : Wt))] 1 = 0 from rfl] at HWA
          clear hb2 HF HB HAL
          go_wp2_with fail
          refine HWA.out.mono ?_
          rintro e w3 ⟨rfl, rfl⟩
          go_wp2_with fail
          go_ret
          exact ⟨rfl, HB2.out⟩
    · by_cases hkN : k ≤ N
      · have hk3 : k = 120 := by omega
        have hN1 : (k : Int) ≤ (N : Int) := by omega
        have hN2 : (120 : Int) ≤ (N : Int) := by omega
        have hN3 : 120 ≤ N := by omega
        have hk4 : ¬ (k : Int) < 120 := by omega
        have HAL := Lib.hid (alive_ok wr)
        clear hk3 HF HQ HT HEND HOK
        go_wp2_with fail
        refine HAL.out.mono ?_
        rintro e w2 ⟨rfl, hb2⟩
        go_wp2_with fail
        go_ret
        exact ⟨rfl, below_trans HB.out hb2⟩
      · obtain rfl : k = N + 1 := by omega
        have hN1 : ¬ (N : Int) + 1 ≤ (N : Int) := by omega
        have hN2 : ¬ (120 : Int) ≤ (N : Int) := by omega
        have hN3 : ¬ 120 ≤ N := by omega
        have hx := HEND.out rfl
        subst hx
        have hsv2 : s = v := by
          obtain ⟨t2, h1, h2⟩ := HT.out
          have h1 : t2 = s := h1
          have h2 : t2 + 0 = v := h2
          omega
        subst hsv2
        have HAL := Lib.hid (alive_ok wr)
        clear HT HEND HOK HQ
        go_wp2_with fail
        refine HAL.out.mono ?_
        rintro e w2 ⟨rfl, hb2⟩
        have HF2 := Lib.hid (HF.out.below hb2)
        have HB2 := Lib.hid (below_trans HB.out hb2)
        have HWA := Lib.hid (waits_any HF2.out.1 1 (okU_n 1 (by decide)))
        rw [show waitsS [(1, (⟨[], 0⟩ : Wt))] 1 = 0 from rfl] at HWA
        clear hb2 HF HB HAL
        go_wp2_with fail
        refine HWA.out.mono ?_
        rintro e w3 ⟨rfl, rfl⟩
        go_wp2_with fail
        go_ret
        exact ⟨rfl, HB2.out⟩

theorem walk (ah : Int) (A : Option Addr) (N c : Nat) (w : World) (_ : (Lit.int .i64 ah).wf = true) (h : Shp.Good w (.list (.obj shOp)) [.slice A N c]) :
    Calls Try.prog 5 #[.int .i64 ah, .slice A N c] w fun e w' => e = .returned (.bool true) ∧ Below w.heap.size w w' := by
  obtain ⟨hN, Q, hQ⟩ := open_ops h
  exact walk0 ah A N c Q w hQ hN
end FeedGaps
end Go.Proofs.Ytlbfjdpcnnplnaa
