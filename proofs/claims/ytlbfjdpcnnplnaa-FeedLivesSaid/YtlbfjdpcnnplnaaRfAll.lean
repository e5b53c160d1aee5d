/- The document's own feed: Push. -/
import Derived.Test.YtlbfjdpcnnplnaaRfPush
namespace Go.Proofs.Ytlbfjdpcnnplnaa
namespace Fee
open Go.ChangeShapes Go.WideShapes Go.ChangeAt Go.RowKit Go.Maps
open Num Mem Words Chacha Aead Poly Quiet RowV RowS

theorem RFk.trans {w w1 w2 : World} {B : Nat} {G G1 : Nat → Prop} {x last2 : Nat} {S2 : St} (hG : ∀ i, i < w.heap.size → G1 i → G i) (hk : Fk G w w1) (h : RFk w1 w2 B G1 x S2 last2) : RFk w w2 B G x S2 last2 := by
  obtain ⟨G2, h1, h2, h3⟩ := h
  exact ⟨G2, h1, fun i hi hg => hG i hi (h2 i (Nat.lt_of_lt_of_le hi hk.size) hg), hk.trans h3 (fun i hi hg => hG i hi hg)⟩
theorem RFk.refl {w : World} {B : Nat} {G : Nat → Prop} {x last : Nat} {S : St} (h : RF w B G x S last) : RFk w w B G x S last := ⟨G, h, fun _ _ h => h, Fk.refl _ _⟩
theorem RFk.below {w w1 w2 : World} {B : Nat} {G : Nat → Prop} {x last : Nat} {S : St} (h : RFk w w1 B G x S last) (hb : Below w1.heap.size w1 w2) : RFk w w2 B G x S last := by
  obtain ⟨G2, h1, h2, h3⟩ := h
  exact ⟨G2, h1.below hb, h2, h3.trans (Fk.of_below (F := G) hb) (fun _ _ h => h)⟩
theorem setCells3 (w : World) (g i : Nat) (a b c : Value) : w.setCells g i [a, b, c] = ((w.setCell ⟨g, i, none⟩ a).setCell ⟨g, i + 1, none⟩ b).setCell ⟨g, i + 1 + 1, none⟩ c := rfl
theorem grown_set3 (w : World) (g i : Nat) (a b c : Value) : w.grownBy (w.setCells g i [a, b, c]) (some g) := by
  rw [setCells3]
  exact grown_tr (grown_tr (grown_cell1 w g i a) (grown_cell1 _ g (i + 1) b)) (grown_cell1 _ g (i + 1 + 1) c)
theorem own_set3 {w : World} {B e n c g i : Nat} {xs : List Value} {u v z : Value} (h : w.ownsRow B e 3 (.slice (some ⟨g, 0, none⟩) n c) n xs) : (w.setCells g i [u, v, z]).ownsRow B e 3 (.slice (some ⟨g, 0, none⟩) n c) n (((xs.set i u).set (i + 1) v).set (i + 2) z) := by
  rw [setCells3]
  exact own_put (own_put (own_put h i u) (i + 1) v) (i + 1 + 1) z
theorem pairwise_set {α : Type} {P : α → α → Prop} : ∀ {l : List α} {i : Nat} {y : α}, l.Pairwise P → (∀ j z, l[j]? = some z → j < i → P z y) → (∀ j z, l[j]? = some z → i < j → P y z) → (l.set i y).Pairwise P
  | [], _, _, _, _, _ => List.Pairwise.nil
  | x :: l, 0, y, h, _, h2 => by
    rw [List.set_cons_zero]
    rw [List.pairwise_cons] at h ⊢
    refine ⟨fun z hz => ?_, h.2⟩
    obtain ⟨j, hj⟩ := List.mem_iff_getElem?.1 hz
    exact h2 (j + 1) z (by rw [List.getElem?_cons_succ]; exact hj) (by omega)
  | x :: l, i + 1, y, h, h1, h2 => by
    rw [List.set_cons_succ]
    rw [List.pairwise_cons] at h ⊢
    refine ⟨fun z hz => ?_, pairwise_set h.2 (fun j z hj hlt => h1 (j + 1) z (by rw [List.getElem?_cons_succ]; exact hj) (by omega)) (fun j z hj hlt => h2 (j + 1) z (by rw [List.getElem?_cons_succ]; exact hj) (by omega))⟩
    obtain ⟨j, hj⟩ := List.mem_iff_getElem?.1 hz
    rw [List.getElem?_set] at hj
    split at hj
    · split at hj
      · injection hj with hj
        subst hj
        exact h1 0 x rfl (by omega)
      · cases hj
    · exact h.1 z (List.mem_of_getElem? hj)
theorem pairwise_get {α : Type} {P : α → α → Prop} : ∀ {l : List α}, l.Pairwise P → ∀ {i j : Nat} {x y : α}, l[i]? = some x → l[j]? = some y → i < j → P x y
  | [], _, _, _, _, _, h, _, _ => by simp at h
  | z :: l, h, 0, j, x, y, hx, hy, hlt => by
    simp only [List.getElem?_cons_zero, Option.some.injEq] at hx
    subst hx
    obtain ⟨j, rfl⟩ : ∃ k, j = k + 1 := ⟨j - 1, by omega⟩
    rw [List.getElem?_cons_succ] at hy
    exact (List.pairwise_cons.1 h).1 y (List.mem_of_getElem? hy)
  | z :: l, h, i + 1, j, x, y, hx, hy, hlt => by
    obtain ⟨j, rfl⟩ : ∃ k, j = k + 1 := ⟨j - 1, by omega⟩
    rw [List.getElem?_cons_succ] at hx hy
    exact pairwise_get (List.pairwise_cons.1 h).2 hx hy (by omega)
/-- a row is turned: its items by a call, then the row itself -/
theorem RW.turn {X Y : World} {B : Nat} {G : Nat → Prop} {x last c g i : Nat} {R : List RR} (h : RW X B G x R (some ⟨g, 0, none⟩) c last) (hG : ∀ j, G j → B ≤ j ∧ j < X.heap.size) {r r' : RR} (hr : R[i]? = some r) (ho : OwI Y B r'.A r'.c r'.x.L) (hg : X.grownBy Y (ownA r.A)) (hat : ∀ j, ownA r'.A = some j → ownA r.A = some j ∨ X.heap.size ≤ j) (hBX : B ≤ X.heap.size) :
    RFk X (Y.setCells g (i * 3) (rrL r')) B G x (stR (R.set i r')) last := by
  have hrm := List.mem_of_getElem? hr
  have hi : i < R.length := (List.getElem?_eq_some_iff.1 hr).1
  obtain ⟨cr, hcr⟩ := own_type h.row (j := g) rfl
  have hAg : ownA (some ⟨g, 0, none⟩) = some g := rfl
  have hXY : ∀ j t cs, ownA r.A ≠ some j → Whole X j t cs → Whole Y j t cs := fun j t cs hne hw => (hg.block j hw.lt (fun e => hne e.symm)).trans hw
  have hgY : Whole Y g 58 cr := hXY _ _ _ (fun e => (h.row_ne hrm e).1 hAg) hcr
  have hxY := hXY _ _ _ (fun e => (h.row_ne hrm e).2 rfl) h.obj
  have hg3 := grown_set3 Y g (i * 3) (.int .u64 (r'.id : Nat)) r'.v (.int .u64 (r'.x.lost : Nat))
  have hrow := own_set3 (i := i * 3) (u := .int .u64 (r'.id : Nat)) (v := r'.v) (z := .int .u64 (r'.x.lost : Nat)) (own_keep2 (w' := Y) h.row fun j cs e hw => hXY _ _ _ (fun e2 => (h.row_ne hrm e2).1 (by rw [← own_b _ R.length c]; exact e)) hw)
  rw [flatR_set R i r' hi] at hrow
  obtain ⟨Z, hZ⟩ : ∃ Z, Y.setCells g (i * 3) (rrL r') = Z := ⟨_, rfl⟩
  have hZ' : Y.setCells g (i * 3) [.int .u64 (r'.id : Nat), r'.v, .int .u64 (r'.x.lost : Nat)] = Z := hZ
  rw [hZ'] at hg3 hrow
  rw [hZ]
  have hYZ : ∀ j t cs, Whole Y j t cs → j ≠ g → Whole Z j t cs := fun j t cs hw ne => (hg3.block j hw.lt (fun e => ne (by injection e with e))).trans hw
  have hYT : ∀ {j : Nat} {t : TypeId} {cs : Array Value}, Whole Y j t cs → t ≠ 58 → Whole Z j t cs := fun hw ht => hYZ _ _ _ hw (fun e => by subst e; exact ht (whole_type hw hgY))
  have hnew : ∀ s ∈ R, ∀ k, R[k]? = some s → k ≠ i → ∀ j, ownA s.A = some j → ownA r.A ≠ some j := fun s _ k hk ne j hj e => by
    rcases Nat.lt_or_ge k i with c1 | c1
    · exact pairwise_get h.apart hk hr c1 j hj e
    · exact pairwise_get h.apart hr hk (by omega) j e hj
  have hlt : ∀ s ∈ R, ∀ j, ownA s.A = some j → j < X.heap.size := fun s hs j hj => by
    obtain ⟨cs, hw⟩ := own_type (h.its s hs) (j := j) (by rw [own_b]; exact hj)
    exact hw.lt
  have hap : ∀ s ∈ R, ∀ k, R[k]? = some s → k ≠ i → ∀ j, ownA s.A = some j → ownA r'.A ≠ some j := fun s hs k hk ne j hj e => by
    rcases hat j e with e2 | hj2
    · exact hnew s hs k hk ne j hj e2
    · have := hlt s hs j hj
      omega
  refine ⟨fun j => (G j ∨ X.heap.size ≤ j) ∧ j < Z.heap.size, ⟨R.set i r', some ⟨g, 0, none⟩, c, ⟨?_, ?_, fun s hs => ?_, ?_, ⟨.inl h.gx, (hYT hxY (by decide)).lt⟩, fun j hj => ⟨.inl (h.gr j hj), ?_⟩, fun s hs j hj => ?_, h.bx⟩, rfl, fun j hj => ⟨?_, hj.2⟩⟩, fun j hj h2 => ?_, ?_⟩
  · rw [List.length_set]
    exact hYT hxY (by decide)
  · rw [List.length_set]
    exact hrow
  · obtain ⟨k, hk⟩ := List.mem_iff_getElem?.1 hs
    rw [List.getElem?_set] at hk
    split at hk
    · injection hk with hk
      subst hk
      exact own_keep2 ho fun j cs _ hw => hYT hw (by decide)
    · rename_i ne
      exact own_keep2 (h.its s (List.mem_of_getElem? hk)) fun j cs e hw => hYT (hXY _ _ _ (hnew s (List.mem_of_getElem? hk) k hk (fun e => ne e.symm) j (by rw [← own_b s.A s.x.L.length s.c]; exact e)) hw) (by decide)
  · refine pairwise_set h.apart (fun k z hz hlt2 j hj => hap z (List.mem_of_getElem? hz) k hz (by omega) j hj) (fun k z hz hlt2 j hj e => hap z (List.mem_of_getElem? hz) k hz (by omega) j e hj)
  · rw [hAg] at hj
    injection hj with hj
    subst hj
    have : g < Y.heap.size := hgY.lt
    exact Nat.lt_of_lt_of_le this hg3.size
  · obtain ⟨k, hk⟩ := List.mem_iff_getElem?.1 hs
    rw [List.getElem?_set] at hk
    split at hk
    · injection hk with hk
      subst hk
      obtain ⟨cs, hw⟩ := own_type ho (j := j) (by rw [own_b]; exact hj)
      refine ⟨?_, (hYT hw (by decide)).lt⟩
      rcases hat j hj with e2 | hj2
      · exact .inl (h.gi r hrm j e2)
      · exact .inr hj2
    · exact ⟨.inl (h.gi s (List.mem_of_getElem? hk) j hj), Nat.lt_of_lt_of_le (hlt s (List.mem_of_getElem? hk) j hj) (Nat.le_trans hg.size hg3.size)⟩
  · rcases hj.1 with h1 | h1
    · exact (hG j h1).1
    · exact Nat.le_trans hBX h1
  · rcases h2.1 with h1 | h1
    · exact h1
    · omega
  · exact (Fk.grownA hg (h.its r hrm) (by decide) (h.gi r hrm)).trans (Fk.grown hg3 hgY (h.gr g hAg) (by decide)) (fun _ _ h => h)

/-- what the rows have under way -/
def Half (S S' : St) (l : List Ev) (i k : Nat) : Prop := S'.length = S.length ∧ ∀ j p, S[j]? = some p → S'[j]? = some (p.1, if j < i then pushAll p.2 l else if j = i then pushAll p.2 (l.take k) else p.2)
theorem half_zero (S : St) (l : List Ev) : Half S S l 0 0 := ⟨rfl, fun j p hj => by
  rw [hj, if_neg (by omega)]
  split <;> rfl⟩
theorem half_next {S S' : St} {l : List Ev} {i : Nat} (h : Half S S' l i l.length) : Half S S' l (i + 1) 0 := ⟨h.1, fun j p hj => by
  rw [h.2 j p hj]
  by_cases c : j < i
  · rw [if_pos c, if_pos (by omega)]
  · rw [if_neg c]
    by_cases c2 : j = i
    · rw [if_pos c2, if_pos (by omega), List.take_length]
    · rw [if_neg c2, if_neg (by omega)]
      by_cases c3 : j = i + 1
      · rw [if_pos c3]; rfl
      · rw [if_neg c3]⟩
theorem half_done {S S' : St} {l : List Ev} (h : Half S S' l S.length 0) : S' = pushS S l := by
  apply List.ext_getElem?
  intro j
  unfold pushS
  rw [List.getElem?_map]
  rcases hj : S[j]? with _ | p
  · rw [List.getElem?_eq_none (by rw [h.1]; exact List.getElem?_eq_none_iff.1 hj)]
    rfl
  · rw [h.2 j p hj, if_pos (List.getElem?_eq_some_iff.1 hj).1]
    rfl
theorem halfR_step {S S' : St} {l : List Ev} {i k : Nat} {p : Nat × Wt} {e : Ev} (h : Half S S' l i k) (hp : S[i]? = some p) (he : l[k]? = some e) : Half S (S'.set i (p.1, pushW (pushAll p.2 (l.take k)) e)) l i (k + 1) := by
  refine ⟨by rw [List.length_set]; exact h.1, fun j q hj => ?_⟩
  rw [List.getElem?_set]
  by_cases c : i = j
  · subst c
    rw [hp] at hj
    injection hj with hj
    subst hj
    have hl : i < S'.length := by rw [h.1]; exact (List.getElem?_eq_some_iff.1 hp).1
    rw [if_pos rfl, if_pos hl, if_neg (by omega), if_pos rfl, List.take_add_one, he]
    show _ = some (p.1, pushAll p.2 (l.take k ++ [e]))
    rw [pushAll_snoc]
  · rw [if_neg c, h.2 j q hj]
    by_cases c2 : j < i
    · rw [if_pos c2, if_pos c2]
    · rw [if_neg c2, if_neg c2, if_neg (fun e => c e.symm), if_neg (fun e => c e.symm)]
theorem stR_set (R : List RR) (i : Nat) (r : RR) : stR (R.set i r) = (stR R).set i (r.id, r.x) := by unfold stR; rw [List.map_set]
set_option maxRecDepth 100000 in
set_option maxHeartbeats 1000000 in
theorem rpush_any {w : World} {B : Nat} {G : Nat → Prop} {x last : Nat} {S : St} (h : RF w B G x S last) (hS : S.length ≤ 100) (C : Option Addr) (cc : Nat) (l : List Ev) (hC : RdE w C l) (hCG : ∀ b off, C = some ⟨b, off, none⟩ → ¬ G b) (hok : ∀ p ∈ S, OkWt p.2 ∧ p.2.lost + l.length ≤ 1000000000) (hll : l.length ≤ 1000) :
    Calls Try.prog 15 #[.pointer (some ⟨x, 0, none⟩), .slice C l.length cc] w fun e w' => e = .returned (.tuple #[]) ∧ RFk w w' B G x (pushS S l) last := by
  have hxG : G x := by obtain ⟨R, A, c, h1, _⟩ := h; exact h1.gx
  have H0 := Lib.hid (RFk.refl h)
  have HC := Lib.hid hC
  have HCG := Lib.hid hCG
  have HOK := Lib.hid hok
  obtain ⟨n, hn⟩ : ∃ n, S.length = n := ⟨_, rfl⟩
  obtain ⟨m, hm⟩ : ∃ m, l.length = m := ⟨_, rfl⟩
  rw [hn] at hS
  rw [hm] at hll ⊢
  have HN := Lib.hid (show S.length = n ∧ l.length = m from ⟨hn, hm⟩)
  clear h hC hCG hok hn hm
  go_enter Try.func15, Try.ntmps15
  go_wp2_with fail
  go_loopw [4, 5] (fun i _ wr => ∃ (j : Nat) (S' : St), j ≤ n ∧ i = .int .i64 j ∧ Half S S' l j 0 ∧ RFk w wr B G x S' last) (fun i _ _ => n - (intOf i).toNat)
  case atStart => exact ⟨0, S, Nat.zero_le _, rfl, half_zero S l, H0.out⟩
  case round =>
    obtain ⟨i, S1, hi, rfl, hh, hR⟩ := hrel
    have HH := Lib.hid hh
    have HR := Lib.hid hR
    obtain ⟨G1, ⟨R, A, c, hrw, hst, hgb⟩, _⟩ := hR
    have c0 : wr.cell? ⟨x, 0, none⟩ = some (.slice A R.length c) := hrw.obj.cell 0
    have hRl : R.length = n := by rw [← HN.out.1, ← hh.1, ← hst, stR_length]
    rw [hRl] at c0
    clear hh hrw hst hgb hRl H0
    by_cases hlt : i < n
    · obtain ⟨p, hp⟩ : ∃ p, S[i]? = some p := ⟨_, List.getElem?_eq_getElem (by rw [HN.out.1]; exact hlt)⟩
      have HP := Lib.hid hp
      clear hp
      go_wp2_with fail
      go_loopw [5] (fun k X => ∃ (j : Nat) (S' : St), j ≤ m ∧ k = .int .i64 j ∧ Half S S' l i j ∧ RFk w X B G x S' last) (fun k _ => m - (intOf k).toNat)
      case atStart => exact ⟨0, S1, Nat.zero_le _, rfl, HH.out, HR.out⟩
      case round =>
        obtain ⟨k, S2, hk, rfl, hh2, hR2⟩ := hrel
        have HH2 := Lib.hid hh2
        have HR2 := Lib.hid hR2
        clear hh2 hR2 HH HR c0
        by_cases hlt2 : k < m
        · obtain ⟨e, he⟩ : ∃ e, l[k]? = some e := ⟨_, List.getElem?_eq_getElem (by rw [HN.out.2]; exact hlt2)⟩
          obtain ⟨G1, ⟨R, A, c, hrw, hst, hgb⟩, hsub, hfk⟩ := HR2.out
          have hS2 := HH2.out.2 i p HP.out
          rw [if_neg (Nat.lt_irrefl i), if_pos rfl, ← hst] at hS2
          unfold stR at hS2
          rw [List.getElem?_map] at hS2
          obtain ⟨r, hr, hrp⟩ : ∃ r, R[i]? = some r ∧ (r.id, r.x) = (p.1, pushAll p.2 (l.take k)) := by
            cases hri : R[i]? with
            | none => rw [hri] at hS2; cases hS2
            | some r => rw [hri] at hS2; exact ⟨r, rfl, Option.some.inj hS2⟩
          injection hrp with hrid hrx
          obtain ⟨g, rfl, hgl, hrg, hth⟩ := hrw.cell hr
          have hRl : R.length = n := by rw [← stR_length, hst, HH2.out.1, HN.out.1]
          rcases HC.out with h0 | ⟨be, oe, hCe, hbl, hev⟩
          · have := HN.out.2
            rw [h0] at this
            simp at this
            omega
          have hnG1 : ¬ G1 be := fun c => HCG.out be oe hCe (hsub be hbl c)
          have hevw : wr.rangeAt be (oe + k * 34) (evL e) := fun j v hv => by
            have h1 := hev k e he j v hv
            have h2 : wr.cell? ⟨be, oe + k * 34 + j, none⟩ = w.cell? ⟨be, oe + k * 34 + j, none⟩ := by
              unfold World.cell?
              rw [hfk.block be hbl (HCG.out be oe hCe)]
            exact h2.trans h1
          subst hCe
          have hok := HOK.out p (List.mem_of_getElem? HP.out)
          have hrm := List.mem_of_getElem? hr
          have hlen : (l.take k).length ≤ l.length := by rw [List.length_take]; omega
          have hlo := pushAll_lost (l.take k) p.2
          have HPU := Lib.hid (fun (V : World) (hV : OwI V B r.A r.c r.x.L) (hVB : B ≤ V.heap.size) => rpush1_any r e V B hV hVB (by rw [hrx]; exact pushAll_few _ hok.1.few) (by rw [hrx]; have := hok.2; omega))
          have HRW := Lib.hid (show RW wr B G1 x R (some ⟨g, 0, none⟩) c last from hrw)
          have HGB := Lib.hid hgb
          have HST := Lib.hid (show stR R = S2 ∧ R[i]? = some r ∧ r.id = p.1 ∧ r.x = pushAll p.2 (l.take k) ∧ l[k]? = some e from ⟨hst, hr, hrid, hrx, he⟩)
          have HRG := Lib.hid hrg
          have HSUB := Lib.hid hsub
          have HFK := Lib.hid hfk
          have HNG := Lib.hid hnG1
          have hobj : Whole wr x 29 #[.slice (some ⟨g, 0, none⟩) n c, .int .u64 (last : Nat)] := by rw [← hRl]; exact hrw.obj
          have HOB := Lib.hid hobj
          have HEL := Lib.hid (show (evL e).length = 34 from evL_length e)
          have HVL := Lib.hid (show (rrL r).length = 3 from rfl)
          obtain ⟨E, hE⟩ : ∃ E, evL e = E := ⟨_, rfl⟩
          obtain ⟨V, hV⟩ : ∃ V, rrL r = V := ⟨_, rfl⟩
          rw [hE] at hevw HEL HPU
          rw [hV] at HRG HVL HPU
          have HEV := Lib.hid hevw
          have hiln : (i : Int) < (n : Int) := by omega
          have hklm : (k : Int) < (m : Int) := by omega
          clear he hst hgb hsub hfk hS2 hr hrid hrx hgl hrg hth hRl hbl hev hnG1 hevw hok hrm hlen hlo hrw hobj hE hV HR2
          go_upto_region 6 with fail
          refine region_drew (fun V => Whole V x 29 #[.slice (some ⟨g, 0, none⟩) n c, .int .u64 (last : Nat)] ∧ V.rangeAt be (oe + k * 34) E) (by kernel_rfl) ⟨HOB.out, HEV.out⟩ (fun hS => ?_)
          refine take 0 _ rfl (by kernel_rfl) (by kernel_rfl) (by kernel_rfl) (fun _ _ _ h => h) (by rfl) hS (by intro w _; go_simp; with_reducible rfl) ?_
          try simp only [Act.put, List.setIfInBounds_toArray, List.set_cons_zero, List.set_cons_succ]
          refine take 1 _ rfl (by kernel_rfl) (by kernel_rfl) (by kernel_rfl) (fun _ _ _ h => h) (by rfl) hS (by intro w _; go_simp; with_reducible rfl) ?_
          try simp only [Act.put, List.setIfInBounds_toArray, List.set_cons_zero, List.set_cons_succ]
          refine take 2 _ rfl (by kernel_rfl) (by kernel_rfl) (by kernel_rfl) (fun _ _ _ h => h) (by rfl) hS (by intro w _; go_simp; with_reducible rfl) ?_
          try simp only [Act.put, List.setIfInBounds_toArray, List.set_cons_zero, List.set_cons_succ]
          refine take 3 _ rfl (by kernel_rfl) (by kernel_rfl) (by kernel_rfl) (fun _ _ _ h => h) (by rfl) hS (by intro w hw; have hcl := hw.1.cell 0; go_simp; with_reducible rfl) ?_
          try simp only [Act.put, List.setIfInBounds_toArray, List.set_cons_zero, List.set_cons_succ]
          refine take 4 _ rfl (by kernel_rfl) (by kernel_rfl) (by kernel_rfl) (fun _ _ _ h => h) (by rfl) hS (by intro w _; go_simp; with_reducible rfl) ?_
          try simp only [Act.put, List.setIfInBounds_toArray, List.set_cons_zero, List.set_cons_succ]
          refine take 5 _ rfl (by kernel_rfl) (by kernel_rfl) (by kernel_rfl) (fun _ _ _ h => h) (by rfl) hS (by intro w _; go_simp; with_reducible rfl) ?_
          try simp only [Act.put, List.setIfInBounds_toArray, List.set_cons_zero, List.set_cons_succ]
          refine take 6 _ rfl (by kernel_rfl) (by kernel_rfl) (by kernel_rfl) (fun _ _ _ h => h) (by rfl) hS (by intro w _; go_simp; with_reducible rfl) ?_
          try simp only [Act.put, List.setIfInBounds_toArray, List.set_cons_zero, List.set_cons_succ]
          refine take 7 _ rfl (by kernel_rfl) (by kernel_rfl) (by kernel_rfl) (fun _ _ _ h => h) (by rfl) hS (by intro w _; go_simp; with_reducible rfl) ?_
          try simp only [Act.put, List.setIfInBounds_toArray, List.set_cons_zero, List.set_cons_succ]
          refine take 8 _ rfl (by kernel_rfl) (by kernel_rfl) (by kernel_rfl) (fun _ _ _ h => h) (by rfl) hS (by intro w hw; have hcl := hw.1.cell 0; go_simp; with_reducible rfl) ?_
          try simp only [Act.put, List.setIfInBounds_toArray, List.set_cons_zero, List.set_cons_succ]
          refine take 9 _ rfl (by kernel_rfl) (by kernel_rfl) (by kernel_rfl) (fun _ _ _ h => h) (by rfl) hS (by intro w _; go_simp; with_reducible rfl) ?_
          try simp only [Act.put, List.setIfInBounds_toArray, List.set_cons_zero, List.set_cons_succ]
          refine take 10 _ rfl (by kernel_rfl) (by kernel_rfl) (by kernel_rfl) (fun _ _ _ h => h) (by rfl) hS (by intro w _; go_simp; with_reducible rfl) ?_
          try simp only [Act.put, List.setIfInBounds_toArray, List.set_cons_zero, List.set_cons_succ]
          refine take 12 _ rfl (by kernel_rfl) (by kernel_rfl) (by kernel_rfl) (fun _ _ _ h => h) (by rfl) hS (by intro w _; go_simp; with_reducible rfl) ?_
          try simp only [Act.put, List.setIfInBounds_toArray, List.set_cons_zero, List.set_cons_succ]
          refine take 13 _ rfl (by kernel_rfl) (by kernel_rfl) (by kernel_rfl) (fun _ _ _ h => h) (by rfl) hS (by intro w _; go_simp; with_reducible rfl) ?_
          try simp only [Act.put, List.setIfInBounds_toArray, List.set_cons_zero, List.set_cons_succ]
          refine take 14 _ rfl (by kernel_rfl) (by kernel_rfl) (by kernel_rfl) (fun _ _ _ h => h) (by rfl) hS (by intro w _; go_simp; with_reducible rfl) ?_
          try simp only [Act.put, List.setIfInBounds_toArray, List.set_cons_zero, List.set_cons_succ]
          refine take 15 (.agg E.toArray) rfl (by kernel_rfl) (by kernel_rfl) (by kernel_rfl) (fun _ _ _ h => h) (by rfl) hS (fun w hw => run_load_mid_op 78 (.tmp 35) rfl be (oe + k * 34) rfl E _ hw.2 rfl rfl (by rw [HEL.out]; kernel_rfl)) ?_
          try simp only [Act.put, List.setIfInBounds_toArray, List.set_cons_zero, List.set_cons_succ]
          refine alone 11 rfl (by kernel_rfl) (by rfl) ?_
          intro K hK
          refine wp_load_mid 58 (.tmp 31) rfl g (i * 3) rfl V _ HRG.out rfl rfl (by rw [HVL.out]; kernel_rfl) ?_
          refine hK.out _ _ hS ?_
          clear hK K
          try simp only [Act.put, List.setIfInBounds_toArray, List.set_cons_zero, List.set_cons_succ]
          refine alone 16 rfl (by kernel_rfl) (by rfl) ?_
          intro K hK
          go_simp
          refine (HPU.out wr.drew (HRW.out.its r (List.mem_of_getElem? HST.out.2.1)) (Nat.le_trans HRW.out.bx (Nat.le_of_lt HRW.out.obj.lt))).mono ?_
          rintro o Y ⟨r', rfl, hr1, hr2, hr3, hr4, hr5⟩
          have hr4' : wr.grownBy Y (ownA r.A) := ⟨hr4.os, hr4.tape, hr4.output, hr4.size, hr4.block⟩
          have hrm := List.mem_of_getElem? HST.out.2.1
          have hXY : ∀ j, j < wr.heap.size → ownA r.A ≠ some j → Y.heap[j]? = wr.heap[j]? := fun j hj hne => hr4'.block j hj (fun e => hne e.symm)
          have hSY : Whole Y x 29 #[.slice (some ⟨g, 0, none⟩) n c, .int .u64 (last : Nat)] ∧ Y.rangeAt be (oe + k * 34) E := by
            refine ⟨(hXY x HOB.out.lt (fun e => (HRW.out.row_ne hrm e).2 rfl)).trans HOB.out, fun j v hv => ?_⟩
            have h1 := HEV.out j v hv
            have hbl : be < wr.heap.size := by
              rcases Nat.lt_or_ge be wr.heap.size with c | c
              · exact c
              · simp [World.cell?, Array.getElem?_eq_none c] at h1
            have h2 : Y.cell? ⟨be, oe + k * 34 + j, none⟩ = wr.cell? ⟨be, oe + k * 34 + j, none⟩ := by
              unfold World.cell?
              rw [hXY be hbl (fun e => HNG.out (HRW.out.gi r hrm be e))]
            exact h2.trans h1
          obtain ⟨cr, hcr⟩ := own_type HRW.out.row (j := g) rfl
          have hgY : Whole Y g 58 cr := (hXY g hcr.lt (fun e => (HRW.out.row_ne hrm e).1 rfl)).trans hcr
          have hthY : Y.there g (i * 3) 3 := by
            obtain ⟨g2, e2, _, _, hth⟩ := HRW.out.cell HST.out.2.1
            injection e2 with e2
            injection e2 with e2
            subst e2
            intro j hj
            have h1 := hth j hj
            have h2 : Y.cell? ⟨g, i * 3 + j, none⟩ = wr.cell? ⟨g, i * 3 + j, none⟩ := by
              unfold World.cell?
              rw [hXY g hcr.lt (fun e => (HRW.out.row_ne hrm e).1 rfl)]
            have h3 : Y.frozen? ⟨g, i * 3 + j, none⟩ = wr.frozen? ⟨g, i * 3 + j, none⟩ := by
              unfold World.frozen?
              rw [hXY g hcr.lt (fun e => (HRW.out.row_ne hrm e).1 rfl)]
            exact ⟨by rw [h2]; exact h1.1, by rw [h3]; exact h1.2⟩
          have HE := Lib.hid (show ∃ S', Half S S' l i (k + 1) ∧ RFk w (Y.setCells g (i * 3) (rrL r')) B G x S' last from by
            have ht := HRW.out.turn HGB.out HST.out.2.1 hr3 hr4' (fun j hj => by rcases hr5 with e | ⟨j2, e, hj2⟩; exact .inl (e ▸ hj); rw [hj] at e; injection e with e; exact .inr (by rw [e]; exact hj2)) (Nat.le_trans HRW.out.bx (Nat.le_of_lt HRW.out.obj.lt))
            rw [stR_set, HST.out.1, hr1, hr2, HST.out.2.2.1, HST.out.2.2.2.1] at ht
            exact ⟨_, halfR_step HH2.out HP.out HST.out.2.2.2.2, RFk.trans HSUB.out HFK.out ht⟩)
          have hne : x ≠ g := fun e => by subst e; exact absurd (whole_type hSY.1 hgY) (by decide)
          have hSZ : Whole (Y.setCells g (i * 3) (rrL r')) x 29 #[.slice (some ⟨g, 0, none⟩) n c, .int .u64 (last : Nat)] ∧ (Y.setCells g (i * 3) (rrL r')).rangeAt be (oe + k * 34) E := by
            have hg3 := grown_set3 Y g (i * 3) (.int .u64 (r'.id : Nat)) r'.v (.int .u64 (r'.x.lost : Nat))
            refine ⟨(hg3.block x hSY.1.lt (fun e => hne (by injection e with e))).trans hSY.1, fun j v hv => ?_⟩
            have h1 := hSY.2 j v hv
            have hbl : be < Y.heap.size := by
              rcases Nat.lt_or_ge be Y.heap.size with c | c
              · exact c
              · simp [World.cell?, Array.getElem?_eq_none c] at h1
            have h2 : (Y.setCells g (i * 3) (rrL r')).cell? ⟨be, oe + k * 34 + j, none⟩ = Y.cell? ⟨be, oe + k * 34 + j, none⟩ := by
              unfold World.cell?
              rw [show (Y.setCells g (i * 3) (rrL r')).heap[be]? = Y.heap[be]? from hg3.block be hbl (fun e => HNG.out (by injection e with e; rw [e]; exact HRW.out.gr g rfl))]
            exact h2.trans h1
          have HSZ := Lib.hid hSZ
          have HTH := Lib.hid hthY
          have HOR := Lib.hid (rrL_one r')
          obtain ⟨V', hV'⟩ : ∃ V', rrL r' = V' := ⟨_, rfl⟩
          have HVL2 := Lib.hid (show V'.length = 3 by rw [← hV']; rfl)
          rw [hV'] at HSZ HOR HE ⊢
          clear hr1 hr2 hr3 hr4 hr4' hr5 hrm hXY hcr hgY hthY hne hSZ hV'
          go_simp
          refine hK.out _ _ hSY ?_
          clear hK K
          try simp only [Act.put, List.setIfInBounds_toArray, List.set_cons_zero, List.set_cons_succ]
          refine alone_run 17 _ rfl (by kernel_rfl) (by rfl) hSY (by go_simp; try with_reducible rfl) ?_
          try simp only [Act.put, List.setIfInBounds_toArray, List.set_cons_zero, List.set_cons_succ]
          refine alone 18 rfl (by kernel_rfl) (by rfl) ?_
          intro K hK
          refine wp_store_mid 58 (.tmp 38) (.tmp 37) rfl g (i * 3) V'.toArray rfl rfl (by rw [List.size_toArray, HVL2.out]; exact HTH.out) (by rw [List.size_toArray, HVL2.out]; kernel_rfl) HOR.out ?_
          refine hK.out _ _ HSZ.out ?_
          clear hK K hSY
          try simp only [Act.put]
          refine region_end (by kernel_rfl) ?_
          obtain ⟨S3, hS3, hR3⟩ := HE.out
          have HS3 := Lib.hid hS3
          have HR3 := Lib.hid hR3
          clear hS3 hR3 HE HSZ HTH
          go_wp2_with fail
          go_roundw
          case rel => exact ⟨k + 1, S3, by omega, by go_num, HS3.out, HR3.out⟩
          case measure => simp [intOf]; omega
        · obtain rfl : k = m := by omega
          have HH3 := Lib.hid (half_next (by have := HH2.out; rw [← HN.out.2] at this; exact this))
          go_wp2_with fail
          go_roundw
          case rel => exact ⟨i + 1, S2, by omega, by go_num, HH3.out, HR2.out⟩
          case measure => simp [intOf]; omega
    · obtain rfl : i = n := by omega
      have HE := Lib.hid (show RFk w wr B G x (pushS S l) last from by
        have e := half_done (by have := HH.out; rw [← HN.out.1] at this; exact this)
        rw [← e]
        exact HR.out)
      go_wp2_with fail
      go_end0
      exact ⟨rfl, HE.out⟩
end Fee
end Go.Proofs.Ytlbfjdpcnnplnaa
