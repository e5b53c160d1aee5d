/- aditlaw14: puts in whatever order; mathematics of the model. -/
import Derived.Test.YtcpfchfhcfdcpaaTrPlay
namespace Go.Proofs.Ytcpfchfhcfdcpaa
namespace Tri
open Num Mem Words Chacha Aead Poly Quiet Ops Adr

/-- a step of TrieOrder -/
def pT (t : Tm) (x : Opm) : Tm := if putE x.s x.g x.z x.o t.a t.b = 0 then ⟨insA x.s (bs x.g x.z.toNat) x.o t.a, insB x.s (bs x.g x.z.toNat) x.o t.b⟩ else t
def putsT (P : Nat → Opm) : Nat → Tm
  | 0 => emT
  | k + 1 => pT (putsT P k) (P k)
def samePf (x y : Opm) : Prop := (x.s = y.s ∧ ∀ i, i < 16 → x.g i = y.g i) ∧ x.z = y.z
def goodPf (x : Opm) : Prop := rightPB x.s x.g x.z = true ∧ 1 ≤ x.o
def rtOf (x : Opm) : Rt := ⟨x.s, bs x.g x.z.toNat, x.o⟩
theorem same_key {x y : Opm} (hx : x.Ok) (hy : y.Ok) (gx : rightPB x.s x.g x.z = true) (gy : rightPB y.s y.g y.z = true) (hs : x.s = y.s) (hk : bs x.g x.z.toNat = bs y.g y.z.toNat) : samePf x y := by
  obtain ⟨n, hn, hr⟩ := right_nat gx
  obtain ⟨m, hm, hr2⟩ := right_nat gy
  rw [hn, hm, Int.toNat_natCast, Int.toNat_natCast] at hk
  have := (right_eq hx.g hy.g hr hr2).2 hk
  exact ⟨⟨hs, this.1⟩, by rw [hn, hm, this.2]⟩
theorem pT_fit {t : Tm} (h : t.Fit) {x : Opm} (hx : x.Ok) : (pT t x).Fit := by
  unfold pT
  split
  · rename_i he; exact fit_put h hx.g hx.o he
  · exact h
theorem putE_good {x : Opm} {t : Tm} (hl : t.L.length < 64) : putE x.s x.g x.z x.o t.a t.b = 0 ↔ goodPf x := by
  constructor
  · intro h
    have := putE_zero h
    exact ⟨this.1, this.2.1⟩
  · rintro ⟨h1, h2⟩
    unfold putE
    unfold Tm.L at hl
    rw [if_neg (by rw [h1]; decide), if_neg (by omega), if_neg (fun c => by omega)]
theorem mem_put {t : Tm} (h : t.Fit) {s : Bool} {q : Bs} {o : Int} (ho : o ≠ 0) (r : Rt) : r ∈ (Tm.mk (insA s q o t.a) (insB s q o t.b)).L ↔ r = ⟨s, q, o⟩ ∨ (¬ (r.s = s ∧ r.p = q) ∧ r ∈ t.L) := by
  show r ∈ routes2 _ _ ↔ _ ∨ _ ∧ r ∈ routes2 _ _
  rw [mem_routes2, mem_routes2]
  obtain ⟨rs, rp, ro⟩ := r
  cases s <;> cases rs
  · show (rp, ro) ∈ (t.a.ins q o).toL ↔ _ ∨ _ ∧ (rp, ro) ∈ t.a.toL
    rw [mem_ins ho h.oka]
    simp
  · show (rp, ro) ∈ t.b.toL ↔ _ ∨ _ ∧ (rp, ro) ∈ t.b.toL
    simp
  · show (rp, ro) ∈ t.a.toL ↔ _ ∨ _ ∧ (rp, ro) ∈ t.a.toL
    simp
  · show (rp, ro) ∈ (t.b.ins q o).toL ↔ _ ∨ _ ∧ (rp, ro) ∈ t.b.toL
    rw [mem_ins ho h.okb]
    simp
theorem mem_drop {t : Tm} (h : t.Fit) {s : Bool} {q : Bs} (r : Rt) : r ∈ (Tm.mk (delA s q t.a) (delB s q t.b)).L ↔ ¬ (r.s = s ∧ r.p = q) ∧ r ∈ t.L := by
  show r ∈ routes2 _ _ ↔ _ ∧ r ∈ routes2 _ _
  rw [mem_routes2, mem_routes2]
  obtain ⟨rs, rp, ro⟩ := r
  cases s <;> cases rs
  · show (rp, ro) ∈ (t.a.del q).toL ↔ _ ∧ (rp, ro) ∈ t.a.toL
    rw [mem_del h.oka]
    simp
  · show (rp, ro) ∈ t.b.toL ↔ _ ∧ (rp, ro) ∈ t.b.toL
    simp
  · show (rp, ro) ∈ t.a.toL ↔ _ ∧ (rp, ro) ∈ t.a.toL
    simp
  · show (rp, ro) ∈ (t.b.del q).toL ↔ _ ∧ (rp, ro) ∈ t.b.toL
    rw [mem_del h.okb]
    simp
theorem L_ext {t u : Tm} (ht : t.Fit) (hu : u.Fit) (h : ∀ r, r ∈ t.L ↔ r ∈ u.L) : t.L = u.L := by
  have ka : t.a.toL = u.a.toL := sorted_ext (toL_sorted ht.oka) (toL_sorted hu.oka) fun y => by
    have := h ⟨false, y.1, y.2⟩
    rw [show (⟨false, y.1, y.2⟩ : Rt) ∈ t.L ↔ y ∈ t.a.toL from mem_routes2, show (⟨false, y.1, y.2⟩ : Rt) ∈ u.L ↔ y ∈ u.a.toL from mem_routes2] at this
    exact this
  have kb : t.b.toL = u.b.toL := sorted_ext (toL_sorted ht.okb) (toL_sorted hu.okb) fun y => by
    have := h ⟨true, y.1, y.2⟩
    rw [show (⟨true, y.1, y.2⟩ : Rt) ∈ t.L ↔ y ∈ t.b.toL from mem_routes2, show (⟨true, y.1, y.2⟩ : Rt) ∈ u.L ↔ y ∈ u.b.toL from mem_routes2] at this
    exact this
  unfold Tm.L routes2 Tr.routes
  rw [ka, kb]
/-- what all puts leave -/
theorem puts_all {P : Nat → Opm} {n : Nat} (hn : n ≤ 50) (hok : ∀ i, i < n → (P i).Ok) (hd : ∀ i j, i < n → j < n → i ≠ j → ¬ samePf (P i) (P j)) : ∀ k, k ≤ n → (putsT P k).Fit ∧ (putsT P k).L.length ≤ k ∧ ∀ r, r ∈ (putsT P k).L ↔ ∃ i, i < k ∧ goodPf (P i) ∧ r = rtOf (P i)
  | 0, _ => ⟨em_fit, Nat.le_refl _, fun r => ⟨(fun h => by cases h), fun ⟨i, hi, _⟩ => (by omega)⟩⟩
  | k + 1, hk => by
    obtain ⟨hf, hl, hm⟩ := puts_all hn hok hd k (by omega)
    have hP := hok k (by omega)
    show (pT _ _).Fit ∧ (pT _ _).L.length ≤ _ ∧ ∀ r, r ∈ (pT _ _).L ↔ _
    refine ⟨pT_fit hf hP, ?_⟩
    by_cases hg : goodPf (P k)
    · have he := (putE_good (x := P k) (t := putsT P k) (by omega)).2 hg
      have hmem : ∀ r, r ∈ (pT (putsT P k) (P k)).L ↔ ∃ i, i < k + 1 ∧ goodPf (P i) ∧ r = rtOf (P i) := fun r => by
        unfold pT
        rw [if_pos he, mem_put hf (by have := hg.2; omega), hm]
        constructor
        · rintro (h | ⟨_, i, hi, h1, h2⟩)
          · exact ⟨k, Nat.lt_succ_self k, hg, h⟩
          · exact ⟨i, Nat.lt_succ_of_lt hi, h1, h2⟩
        · rintro ⟨i, hi, h1, h2⟩
          rcases Nat.lt_or_ge i k with hik | hik
          · refine .inr ⟨fun c => hd i k (by omega) (by omega) (by omega) ?_, i, hik, h1, h2⟩
            rw [h2] at c
            exact same_key (hok i (by omega)) hP h1.1 hg.1 c.1 c.2
          · have : i = k := by omega
            subst this
            exact .inl h2
      refine ⟨?_, hmem⟩
      unfold pT
      rw [if_pos he]
      show (routes2 _ _).length ≤ _
      unfold Tm.L at hl
      rw [routes2_length] at hl ⊢
      have ho : (P k).o ≠ 0 := by have := hg.2; omega
      cases hs : (P k).s with
      | true =>
        show (putsT P k).a.toL.length + ((putsT P k).b.ins _ _).toL.length ≤ k + 1
        rw [toL_ins hf.okb _ ho]
        have := putL_length (q := bs (P k).g (P k).z.toNat) (w := (P k).o) (putsT P k).b.toL
        omega
      | false =>
        show ((putsT P k).a.ins _ _).toL.length + (putsT P k).b.toL.length ≤ k + 1
        rw [toL_ins hf.oka _ ho]
        have := putL_length (q := bs (P k).g (P k).z.toNat) (w := (P k).o) (putsT P k).a.toL
        omega
    · have he : ¬ putE (P k).s (P k).g (P k).z (P k).o (putsT P k).a (putsT P k).b = 0 := fun c => hg ((putE_good (by omega)).1 c)
      have e : pT (putsT P k) (P k) = putsT P k := by unfold pT; rw [if_neg he]
      rw [e]
      refine ⟨by omega, fun r => ?_⟩
      rw [hm]
      constructor
      · rintro ⟨i, hi, h⟩; exact ⟨i, Nat.lt_succ_of_lt hi, h⟩
      · rintro ⟨i, hi, h1, h2⟩
        rcases Nat.lt_or_ge i k with hik | hik
        · exact ⟨i, hik, h1, h2⟩
        · have : i = k := by omega
          subst this
          exact absurd h1 hg
/-- turned places -/
def turnI (n τ i : Nat) : Nat := (i + τ) % n
theorem turn_lt {n τ i : Nat} (h : 0 < n) : turnI n τ i < n := Nat.mod_lt _ h
theorem turn_inj {n τ i j : Nat} (hi : i < n) (hj : j < n) (h : turnI n τ i = turnI n τ j) : i = j := by
  unfold turnI at h
  have h1 := Nat.div_add_mod (i + τ) n
  have h2 := Nat.div_add_mod (j + τ) n
  rw [h] at h1
  have h3 : n * ((i + τ) / n) + j = n * ((j + τ) / n) + i := by omega
  have h4 : n * ((i + τ) / n) % n = 0 := Nat.mul_mod_right _ _
  have h5 : (n * ((i + τ) / n) + j) % n = j := by rw [Nat.mul_add_mod, Nat.mod_eq_of_lt hj]
  have h6 : (n * ((j + τ) / n) + i) % n = i := by rw [Nat.mul_add_mod, Nat.mod_eq_of_lt hi]
  rw [h3, h6] at h5
  exact h5
theorem turn_onto {n τ j : Nat} (hj : j < n) : ∃ i, i < n ∧ turnI n τ i = j := by
  have hn : 0 < n := by omega
  refine ⟨(j + (n - τ % n)) % n, Nat.mod_lt _ hn, ?_⟩
  unfold turnI
  have h1 : τ % n < n := Nat.mod_lt _ hn
  rw [Nat.add_mod, Nat.mod_mod, ← Nat.add_mod]
  have h2 : j + (n - τ % n) + τ = j + n * (1 + τ / n) := by
    have := Nat.div_add_mod τ n
    rw [Nat.mul_add, Nat.mul_one]
    omega
  rw [h2, Nat.add_mul_mod_self_left, Nat.mod_eq_of_lt hj]
/-- in whatever order: the same -/
theorem turned_same {Q : Nat → Opm} {n τ : Nat} (hn : n ≤ 50) (hok : ∀ i, i < n → (Q i).Ok) (hd : ∀ i j, i < n → j < n → i ≠ j → ¬ samePf (Q i) (Q j)) :
    (putsT Q n).Fit ∧ (putsT (fun i => Q (turnI n τ i)) n).Fit ∧ (putsT Q n).L = (putsT (fun i => Q (turnI n τ i)) n).L := by
  rcases Nat.eq_zero_or_pos n with h0 | h0
  · subst h0; exact ⟨em_fit, em_fit, rfl⟩
  · obtain ⟨f1, _, m1⟩ := puts_all hn hok hd n (Nat.le_refl _)
    obtain ⟨f2, _, m2⟩ := puts_all (P := fun i => Q (turnI n τ i)) hn (fun i _ => hok _ (turn_lt h0)) (fun i j hi hj hne => hd _ _ (turn_lt h0) (turn_lt h0) (fun c => hne (turn_inj hi hj c))) n (Nat.le_refl _)
    refine ⟨f1, f2, L_ext f1 f2 fun r => ?_⟩
    rw [m1, m2]
    constructor
    · rintro ⟨j, hj, h⟩
      obtain ⟨i, hi, e⟩ := turn_onto (τ := τ) hj
      exact ⟨i, hi, by show goodPf (Q (turnI n τ i)) ∧ r = rtOf (Q (turnI n τ i)); rw [e]; exact h⟩
    · rintro ⟨i, hi, h⟩
      exact ⟨_, turn_lt h0, h⟩
/-- put and dropped -/
theorem put_drop {t : Tm} (h : t.Fit) {x : Opm} (hx : x.Ok) (hb : getB (holdR x.s x.g t.a t.b) x.s x.g x.z = false) (he : putE x.s x.g x.z x.o t.a t.b = 0) :
    ∃ c : Tm, c = ⟨insA x.s (bs x.g x.z.toNat) x.o t.a, insB x.s (bs x.g x.z.toNat) x.o t.b⟩ ∧ c.Fit ∧ dropE x.s x.g x.z c.a c.b = 0 ∧ getO (holdR x.s x.g c.a c.b) x.s x.g x.z = x.o ∧ getB (holdR x.s x.g c.a c.b) x.s x.g x.z = true ∧
      ∃ d : Tm, d = ⟨delA x.s (bs x.g x.z.toNat) c.a, delB x.s (bs x.g x.z.toNat) c.b⟩ ∧ d.Fit ∧ d.L = t.L := by
  obtain ⟨hr, ho, _⟩ := putE_zero he
  have hcf := fit_put h hx.g hx.o he
  obtain ⟨n, hn, hrn⟩ := right_nat hr
  have hz : x.z.toNat = n := by rw [hn]; exact Int.toNat_natCast n
  have hmem := fun r => mem_put h (s := x.s) (q := bs x.g x.z.toNat) (o := x.o) (by omega) r
  refine ⟨_, rfl, hcf, ?_⟩
  obtain ⟨C, hC⟩ : ∃ C : Tm, (⟨insA x.s (bs x.g x.z.toNat) x.o t.a, insB x.s (bs x.g x.z.toNat) x.o t.b⟩ : Tm) = C := ⟨_, rfl⟩
  rw [hC] at hcf hmem ⊢
  clear hC
  have hin : (bs x.g n, x.o) ∈ (pickT x.s C.a C.b).toL := by
    have := (hmem ⟨x.s, bs x.g x.z.toNat, x.o⟩).2 (.inl rfl)
    rw [hz] at this
    exact mem_routes2.1 this
  have hgb : getB (holdR x.s x.g C.a C.b) x.s x.g x.z = true := by rw [hn]; exact (getB_iff hcf.oka hcf.okb hx.g hrn).2 ⟨_, hin⟩
  refine ⟨?_, ?_, hgb, _, rfl, fit_drop hcf _ _, ?_⟩
  · unfold dropE
    rw [if_neg (by rw [hr]; decide), if_neg (by rw [hgb]; decide)]
  · rw [hn]; exact getO_is hcf.oka hcf.okb hx.g hrn hin
  · refine L_ext (fit_drop hcf _ _) h fun r => ?_
    rw [mem_drop hcf, hmem]
    constructor
    · rintro ⟨h1, h2 | ⟨_, h2⟩⟩
      · rw [h2] at h1; exact absurd ⟨rfl, rfl⟩ h1
      · exact h2
    · intro h1
      have hne : ¬ (r.s = x.s ∧ r.p = bs x.g x.z.toNat) := fun c => by
        have hm := mem_routes2.1 h1
        rw [c.1, c.2, hz] at hm
        have := (getB_iff h.oka h.okb hx.g hrn).2 ⟨_, hm⟩
        rw [← hn, hb] at this
        cases this
      exact ⟨hne, .inr ⟨hne, h1⟩⟩
end Tri
end Go.Proofs.Ytcpfchfhcfdcpaa
