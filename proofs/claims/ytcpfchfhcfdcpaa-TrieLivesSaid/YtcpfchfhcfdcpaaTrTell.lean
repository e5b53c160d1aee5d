/- Package trie: tell, and all: each route in its turn. -/
import Derived.Test.YtcpfchfhcfdcpaaTrRange
import Derived.RangeFuncKeeps
import Derived.ControlIn
namespace Go.Proofs.Ytcpfchfhcfdcpaa
namespace Tri
open Go.RowKit Go.Shelf
open Num Mem Words Chacha Aead Poly Quiet Ops Adr

attribute [local go_sem] Oper.semAt_some

/-- the routes of a trie -/
def Tr.routes (s : Bool) (t : Tr) : List Rt := t.toL.map fun x => ⟨s, x.1, x.2⟩
theorem routes_node (s : Bool) (p : Bs) (o : Int) (a b : Tr) : (Tr.node p o a b).routes s = (if o = 0 then [] else [⟨s, p, o⟩]) ++ (a.routes s ++ b.routes s) := by
  unfold Tr.routes
  rw [Tr.toL, List.map_append, List.map_append]
  by_cases ho : o = 0
  · rw [if_pos ho, if_pos ho]; rfl
  · rw [if_neg ho, if_neg ho]; rfl
theorem listIn_value {F : Fence} (hF : ∀ f, F.fn f) {n : Nat} {P : Program} {ops : Array Oper} {rest : List Oper} {o : Oper} {a : Act} {w : World} {Q : Exit → Act → World → Prop} (hw : Region.wanted o (yielded ops a.tmps) = true) (hnd : ∀ c, o.op ≠ .defer c) (v : Value)
    (hr : (execOp a.eval o).run P w = .ok (.value v) w) (h : wpListIn F n P ops Q rest (a.put o.dst v) w) : wpListIn F n P ops Q (o :: rest) a w :=
  BigFrame.wpListIn_want hw fun K hK => ⟨fun f _ => hF f, by rw [Oper.semAt_plain F _ _ hnd, hr]; exact hK _ _ h⟩
theorem isT_low {n₀ : Nat} {w w' : World} {s : Bool} {t : Tr} {q : Option Nat} (h : IsT (fun i => i < n₀) w s t q) (hb : Below n₀ w w') : IsT (fun i => i < n₀) w' s t q :=
  h.keep fun _ _ ha hw => ⟨ha, hw.below hb ha⟩
/-- the node's cells -/
theorem IsT.nod {A : Nat → Prop} {w : World} {s : Bool} {p : Bs} {o : Int} {a b : Tr} {q : Option Nat} (h : IsT A w s (.node p o a b) q) : ∃ r f k0 k1, q = some r ∧ A r ∧ (∀ i, f i < 256) ∧ rightPB s f (p.length : Int) = true ∧ bs f p.length = p ∧ okI o ∧ Nod w r s f p.length o k0 k1 ∧ IsT A w s a k0 ∧ IsT A w s b k1 := by
  obtain ⟨r, f, k0, k1, h1, h2, h3, h4, h5, h6, h7, h8, h9⟩ := h
  exact ⟨r, f, k0, k1, h1, h2, h3, h4, h5, h6, ⟨h7⟩, h8, h9⟩

abbrev Yields (P : Program) (n₀ : Nat) (G : Nat → Prop) (l : Nat) (L : List Rt) (J Jx : List Rt → World → Prop) : Prop :=
  ∀ m pre x X, J pre X → pre ++ [x] <+: L → YieldAt Fence.wide m P l #[.agg x.cells.toArray] X fun e Y => (e = .returned (.bool true) ∧ J (pre ++ [x]) Y ∧ Below n₀ X Y ∧ Sm G X Y) ∨ (e = .returned (.bool false) ∧ Jx (pre ++ [x]) Y)

set_option maxRecDepth 100000 in
set_option maxHeartbeats 4000000 in
theorem tell_in (n₀ : Nat) (G : Nat → Prop) (l : Nat) (L : List Rt) (J Jx : List Rt → World → Prop) (hY : Yields Try.prog n₀ G l L J Jx) (s : Bool) (t : Tr) :
    ∀ (n : Nat) (q : Option Nat) (pre : List Rt) (W : World), IsT (fun i => i < n₀) W s t q → J pre W → pre ++ t.routes s <+: L →
      CallsIn Fence.wide n Try.prog 47 #[ptrV q, .func (.yield l) #[] #[]] W fun e W' =>
        (e = .returned (.bool true) ∧ J (pre ++ t.routes s) W' ∧ Below n₀ W W') ∨ (e = .returned (.bool false) ∧ ∃ p, pre ++ p <+: L ∧ Jx (pre ++ p) W') := by
  induction t with
  | nil =>
    intro n q pre W ht hJ _
    have hq : q = none := ht
    subst hq
    have HJ := Lib.hid hJ
    clear hJ hY
    show CallsIn _ _ _ _ #[.pointer none, _] _ _
    refine callsIn_of_wp Try.func47 rfl trivial ?_ rfl
    simp only [Try.ntmps47, List.size_toArray, List.length_cons, List.length_nil, Nat.reduceAdd, Nat.reduceSub, Array.replicate_succ, Array.replicate_zero, List.push_toArray, List.append_toArray, List.nil_append, List.cons_append]
    gi_wp2
    go_ret
    exact .inl ⟨rfl, by simpa [Tr.routes, Tr.toL] using HJ.out, Below.refl _ _⟩
  | node p o a b iha ihb =>
    intro n q pre W ht hJ hL
    obtain ⟨r, f, k0, k1, rfl, hr, hf, hrp, hbs, ho, hnd, hta, htb⟩ := ht.nod
    have hdd : ∀ k : Nat, (Fence.wide.depth.isSome = true → 1 ≤ k) := fun k h => by cases h
    rw [routes_node] at hL ⊢
    -- the round at this node, if it is a route
    have hcells : routeL s f (p.length : Int) o = (Rt.mk s p o).cells := by
      have := route_byt hf hrp o
      rw [hbs] at this
      exact this
    obtain ⟨R, hR⟩ : ∃ R : List Rt, (if o = 0 then [] else [Rt.mk s p o]) = R := ⟨_, rfl⟩
    rw [hR] at hL ⊢
    have HL1 := Lib.hid (show pre ++ R ++ a.routes s <+: L from List.IsPrefix.trans (by rw [← List.append_assoc, ← List.append_assoc]; exact List.prefix_append _ _) hL)
    have HL2 := Lib.hid (show pre ++ R ++ a.routes s ++ b.routes s <+: L from by rw [← List.append_assoc, ← List.append_assoc] at hL; exact hL)
    have HL3 := Lib.hid (show pre ++ R <+: L from List.IsPrefix.trans (by rw [← List.append_assoc]; exact List.prefix_append _ _) hL)
    -- what the two ways below tell
    have ihb2 := fun X (hX : Below n₀ W X) (hJX : J (pre ++ R ++ a.routes s) X) => ihb (n - 1) k1 _ X (isT_low htb hX) hJX HL2.out
    have iha2 := fun X (hX : Below n₀ W X) (hJX : J (pre ++ R) X) => (iha (n - 1) k0 _ X (isT_low hta hX) hJX HL1.out).mono (R' := fun e Y =>
        (e = .returned (.bool true) ∧ Y.cell? ⟨r, 20, none⟩ = some (ptrV k1) ∧ Below n₀ W Y ∧ J (pre ++ R ++ a.routes s) Y) ∨ (e = .returned (.bool false) ∧ ∃ p, pre ++ p <+: L ∧ Jx (pre ++ p) Y))
      (fun e Y h => h.elim (fun ⟨he, hj, hb⟩ => .inl ⟨he, ((hX.trans hb).cell (p := ⟨r, 20, none⟩) hr).trans hnd.kid1, hX.trans hb, hj⟩) (fun ⟨he, p, h1, h2⟩ => .inr ⟨he, R ++ p, by rw [← List.append_assoc]; exact h1, by rw [← List.append_assoc]; exact h2⟩))
    have HB := Lib.hid ihb2
    have HA := Lib.hid iha2
    have HRES := Lib.hid (show ∀ Y, J (pre ++ R ++ a.routes s ++ b.routes s) Y → J (pre ++ (R ++ (a.routes s ++ b.routes s))) Y from fun Y h => by rw [← List.append_assoc, ← List.append_assoc]; exact h)
    have HRB := Lib.hid (show ∀ Y, (∃ p, pre ++ R ++ a.routes s ++ p <+: L ∧ Jx (pre ++ R ++ a.routes s ++ p) Y) → ∃ p, pre ++ p <+: L ∧ Jx (pre ++ p) Y from fun Y h => by obtain ⟨p, h1, h2⟩ := h; exact ⟨R ++ a.routes s ++ p, by rw [← List.append_assoc, ← List.append_assoc]; exact h1, by rw [← List.append_assoc, ← List.append_assoc]; exact h2⟩)
    have HIS := Lib.hid (callsIn_wide.2 (isRoute_any hnd) : CallsIn Fence.wide (n - 1) _ _ _ _ _)
    have c0 := hnd.kid0
    have HC0 := Lib.hid (show ∀ Y, Below n₀ W Y → Y.cell? ⟨r, 19, none⟩ = some (ptrV k0) from fun Y hY => (hY.cell (p := ⟨r, 19, none⟩) hr).trans c0)
    clear c0 iha ihb iha2 ihb2
    show CallsIn _ _ _ _ #[.pointer (some ⟨r, 0, none⟩), _] _ _
    by_cases ho0 : o = 0
    · rw [if_pos ho0] at hR
      subst hR
      rw [decide_eq_false (fun c => c ho0)] at HIS
      have c0 := HC0.out W (Below.refl _ _)
      have HA0 := Lib.hid (HA.out W (Below.refl _ _) (by rw [List.append_nil]; exact hJ))
      clear ho0 hcells HA HC0 hJ hY hnd hta htb hL ht
      refine callsIn_of_wp Try.func47 rfl trivial ?_ rfl
      simp only [Try.ntmps47, List.size_toArray, List.length_cons, List.length_nil, Nat.reduceAdd, Nat.reduceSub, Array.replicate_succ, Array.replicate_zero, List.push_toArray, List.append_toArray, List.nil_append, List.cons_append]
      gi_wp2_with (first
        | ((try refine ⟨trivial, ?_⟩); (try refine ⟨hdd _, ?_⟩); gi_at_call 42; refine HIS.out.mono ?_; clear HIS; rintro e X ⟨rfl, rfl⟩))
      refine ⟨fun _ h => (by cases h), ?_⟩
      gi_wp2_with (first
        | ((try refine ⟨trivial, ?_⟩); (try refine ⟨hdd _, ?_⟩); gi_at_call 47; refine HA0.out.mono ?_; clear HA0; rintro e W1 (⟨rfl, c1, hb1, hJ1⟩ | ⟨rfl, hx1⟩))
        | ((try refine ⟨trivial, ?_⟩); (try refine ⟨hdd _, ?_⟩); gi_at_call 47; refine (HB.out _ hb1 hJ1).mono ?_; rintro e W3 (⟨rfl, hJ3, hb3⟩ | ⟨rfl, hx3⟩)))
      · go_ret
        exact .inl ⟨rfl, HRES.out _ hJ3, hb1.trans hb3⟩
      · go_ret
        exact .inr ⟨rfl, HRB.out _ hx3⟩
      · refine ⟨trivial, ?_⟩
        gi_wp2
        go_ret
        exact .inr ⟨rfl, hx1⟩
    · rw [if_neg ho0] at hR
      subst hR
      rw [decide_eq_true ho0] at HIS
      have hy := YieldAt.mono (hY (n - 1) pre ⟨s, p, o⟩ W hJ HL3.out) (R' := fun e Y => (e = .returned (.bool true) ∧ Y.cell? ⟨r, 19, none⟩ = some (ptrV k0) ∧ CallsIn Fence.wide (n - 1) Try.prog 47 #[ptrV k0, .func (.yield l) #[] #[]] Y fun e Y =>
        (e = .returned (.bool true) ∧ Y.cell? ⟨r, 20, none⟩ = some (ptrV k1) ∧ Below n₀ W Y ∧ J (pre ++ [⟨s, p, o⟩] ++ a.routes s) Y) ∨ (e = .returned (.bool false) ∧ ∃ p, pre ++ p <+: L ∧ Jx (pre ++ p) Y)) ∨ (e = .returned (.bool false) ∧ Jx (pre ++ [⟨s, p, o⟩]) Y))
        (fun e Y h => h.elim (fun ⟨he, hj, hb, _⟩ => .inl ⟨he, HC0.out Y hb, HA.out Y hb hj⟩) .inr)
      have hrt := hnd.route
      have HLN := Lib.hid (routeL_length s f (p.length : Int) o)
      rw [hcells] at hrt HLN
      obtain ⟨CL, hCL⟩ : ∃ CL, (Rt.mk s p o).cells = CL := ⟨_, rfl⟩
      rw [hCL] at hrt HLN hy
      have HRT := Lib.hid hrt
      obtain ⟨fn, tmps, assign, body, hyy, hRR⟩ := hy
      have HRR := Lib.hid hRR
      clear ho0 hcells HA HC0 hJ hY hnd hta htb hL ht hrt hCL hRR
      refine callsIn_of_wp Try.func47 rfl trivial ?_ rfl
      simp only [Try.ntmps47, List.size_toArray, List.length_cons, List.length_nil, Nat.reduceAdd, Nat.reduceSub, Array.replicate_succ, Array.replicate_zero, List.push_toArray, List.append_toArray, List.nil_append, List.cons_append]
      gi_wp2_with (first
        | (refine listIn_value (fun _ => trivial) (by rfl) (fun c h => by cases h) _ (run_mid_in 38 (.tmp 13) rfl r 0 rfl CL _ HRT.out rfl rfl (by rw [HLN.out]; kernel_rfl)) ?_)
        | ((try refine ⟨trivial, ?_⟩); (try refine ⟨hdd _, ?_⟩); gi_at_call 42; refine HIS.out.mono ?_; clear HIS; rintro e X ⟨rfl, rfl⟩)
        | ((try refine ⟨trivial, ?_⟩); (try refine ⟨hdd _, ?_⟩); refine HRR.out.mono ?_; clear HRR; rintro e W2 (⟨rfl, c0, ha⟩ | ⟨rfl, hx2⟩))
        | ((try refine ⟨trivial, ?_⟩); (try refine ⟨hdd _, ?_⟩); gi_at_call 47; refine ha.mono ?_; clear ha; rintro e W1 (⟨rfl, c1, hb1, hJ1⟩ | ⟨rfl, hx1⟩))
        | ((try refine ⟨trivial, ?_⟩); (try refine ⟨hdd _, ?_⟩); gi_at_call 47; refine (HB.out _ hb1 hJ1).mono ?_; rintro e W3 (⟨rfl, hJ3, hb3⟩ | ⟨rfl, hx3⟩)))
      · go_ret
        exact .inl ⟨rfl, HRES.out _ hJ3, hb1.trans hb3⟩
      · go_ret
        exact .inr ⟨rfl, HRB.out _ hx3⟩
      · refine ⟨trivial, ?_⟩
        gi_wp2
        go_ret
        exact .inr ⟨rfl, hx1⟩
      · go_ret
        exact .inr ⟨rfl, _, HL3.out, hx2⟩
end Tri
end Go.Proofs.Ytcpfchfhcfdcpaa
