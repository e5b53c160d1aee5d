/- The document's own wheel: Clear. -/
import Derived.Test.YtgbahkkccpcadaaRwRef
import Derived.Test.YtgbahkkccpcadaaWheelSteps
namespace Go.Proofs.Ytgbahkkccpcadaa
namespace Wh
open Go.ChangeShapes Go.WideShapes Go.ChangeAt Go.RowKit Go.Maps
open Num Mem Words Chacha Aead Poly Quiet RowV RowS Ops EqLits Stamp
open WheelSteps (run_append_none own_cap)

/-- a row, or a piece of one, that can be read -/
def RdO (w : World) (A : Option Addr) (c : Nat) (M : List Tm) : Prop := (A = none ∧ M = [] ∧ c = 0) ∨ ∃ b off, A = some ⟨b, off, none⟩ ∧ b < w.heap.size ∧ ∀ t u, (flatT M)[t]? = some u → w.cell? ⟨b, off + t, none⟩ = some u
theorem RdO.below {w w' : World} {A : Option Addr} {c : Nat} {M : List Tm} (h : RdO w A c M) (hb : Below w.heap.size w w') : RdO w' A c M :=
  h.imp id fun ⟨b, off, e, hl, hc⟩ => ⟨b, off, e, Nat.lt_of_lt_of_le hl hb.size, fun t u hu => (hb.cell (p := ⟨b, off + t, none⟩) hl).trans (hc t u hu)⟩
theorem own_base {w : World} {B c : Nat} {e : TypeId} {A : Option Addr} {L : List Tm} (h : w.ownsRow B e 3 (.slice A L.length c) L.length (flatT L)) :
    (A = none ∧ L = [] ∧ c = 0) ∨ ∃ g, A = some ⟨g, 0, none⟩ ∧ g < w.heap.size ∧ L.length ≤ c ∧ c ≤ maxLen ∧ ∀ t u, (flatT L)[t]? = some u → w.cell? ⟨g, t, none⟩ = some u := by
  rcases h.2 with ⟨e1, e0⟩ | ⟨g, cap, cur, e1, _, hh, h1, h2, _, ht⟩
  · injection e1 with e1 e2 e3
    exact .inl ⟨e1, List.eq_nil_of_length_eq_zero e0, e3⟩
  · injection e1 with e1 e2 e3
    have hw : Whole w g e cur := hh
    refine .inr ⟨g, e1, hw.lt, by omega, by omega, fun t u hu => ?_⟩
    rw [hw.cell, ← Array.getElem?_toList]
    rw [← ht, List.getElem?_take] at hu
    split at hu
    · exact hu
    · cases hu
theorem rdo_take {w : World} {g c i : Nat} {L : List Tm} (hl : g < w.heap.size) (h : ∀ t u, (flatT L)[t]? = some u → w.cell? ⟨g, t, none⟩ = some u) : RdO w (some ⟨g, 0, none⟩) c (L.take i) :=
  .inr ⟨g, 0, rfl, hl, fun t u hu => by
    rw [Nat.zero_add]
    refine h t u ?_
    rw [flatT_take, List.getElem?_take] at hu
    split at hu
    · exact hu
    · cases hu⟩
theorem rdo_drop {w : World} {g c cc j : Nat} {L : List Tm} (hl : g < w.heap.size) (hc : L.length ≤ c) (h : ∀ t u, (flatT L)[t]? = some u → w.cell? ⟨g, t, none⟩ = some u) : RdO w (if c = j then some ⟨g, 0, none⟩ else some ⟨g, j * 3, none⟩) cc (L.drop j) := by
  by_cases e : c = j
  · rw [if_pos e]
    refine .inr ⟨g, 0, rfl, hl, fun t u hu => ?_⟩
    rw [List.drop_of_length_le (by omega)] at hu
    cases hu
  · rw [if_neg e]
    refine .inr ⟨g, j * 3, rfl, hl, fun t u hu => h _ _ ?_⟩
    rw [flatT_drop, List.getElem?_drop] at hu
    exact hu
theorem wpList_catR {ops : Array Oper} {rest : List Oper} {o : Oper} {a : Act} {Q : Exit → Act → World → Prop} {w : World} {B : Nat} {G M : List Tm} {Ag A1 : Option Addr} {n m cg c1 : Nat} (hgd : o.guard = none) (s x : Operand)
    (ho : o.op = .call { callee := .builtin .append, args := #[s, x], argTypes := #[29, 29] }) (hs : a.eval s = .slice Ag n cg) (hx : a.eval x = .slice A1 m c1)
    (hn : G.length = n) (hm : M.length = m) (own : w.ownsRow B 43 3 (.slice Ag G.length cg) G.length (flatT G)) (hr : RdO w A1 c1 M) (hB : B ≤ w.heap.size) (hlen : n + m ≤ 1000000)
    (h : ∀ A' c' w', w'.ownsRow B 43 3 (.slice A' (G ++ M).length c') (G ++ M).length (flatT (G ++ M)) → Below B w w' → wpList Try.prog ops Q rest (a.put o.dst (.slice A' (n + m) c')) w') :
    wpList Try.prog ops Q (o :: rest) a w := by
  subst hn hm
  obtain ⟨i0, hi0, hz0, hz1, hz2⟩ := info_parts infoR
  have hGc := own_cap own
  rw [← List.length_append] at h
  rcases hr with ⟨rfl, rfl, rfl⟩ | ⟨b, off, rfl, hl, hc⟩
  · refine Lib.wpList_append_run _ hgd s x _ _ ho (.slice Ag G.length cg) (.slice none 0 0) hs hx _ _ (run_append_none w 29 o.type 43 i0 Try.underlying29 hi0 Ag G.length cg hGc.1 hGc.2) ?_
    have h2 := h Ag cg w (by rw [List.append_nil]; exact own) (Below.refl _ _)
    rw [List.append_nil] at h2
    exact h2
  · refine wpList_append_own_at _ hgd s x 29 ho B 43 i0 (.agg zeroT.toArray) 3 24 Try.underlying29 hi0 hz0 hz1 hz2 rfl (by decide) (.slice Ag G.length cg) G.length (flatT G) hs own ⟨b, off, none⟩ M.length c1 (flatT M) hx (flatT_length M) (fun j u hj => by rw [addr_add]; exact hc j u hj) (flatT_each M) (by unfold maxLen; omega) (by omega) hB ?_
    intro v' w' q1 q2 q3 q4
    rw [← flatT_append, ← List.length_append] at q1
    have hb : Below B w w' := ⟨q2.os, q2.tape, q2.output, q2.size, fun i hi => q2.block i (by omega) (fun e => by
      have := (own_lt' own i e.symm).1
      omega)⟩
    obtain ⟨A', c', rfl⟩ : ∃ A' c', v' = .slice A' (G ++ M).length c' := by
      rcases q1.2 with ⟨e, e0⟩ | ⟨g, cap, cur, e, _⟩
      · exact ⟨none, 0, by rw [e, e0]⟩
      · exact ⟨_, _, e⟩
    exact h A' c' w' q1 hb
/-- what is left when one is taken out -/
theorem rem_at {o k : Int} {L : List Tm} {i : Nat} {y : Tm} (hs : Srt L) (hu : Unq L) (hy : L[i]? = some y) (ho : y.o = o) (hk : y.k = k) : L.take i ++ L.drop (i + 1) = rem o k L := by
  subst ho hk
  obtain ⟨hl, rfl⟩ := List.getElem?_eq_some_iff.1 hy
  have hp := List.pairwise_iff_getElem.1 hs
  have e1 : (L.take i).filter (fun z => !(decide (z.o = L[i].o) && decide (z.k = L[i].k))) = L.take i := by
    refine List.filter_eq_self.2 fun z hz => ?_
    obtain ⟨j, hj, rfl⟩ := List.mem_take_iff_getElem.1 hz
    by_cases c : (L[j]'(by omega)).o = L[i].o ∧ (L[j]'(by omega)).k = L[i].k
    · have h1 := hp j i (by omega) hl (by omega)
      rw [hu _ (List.getElem_mem _) _ (List.getElem_mem _) c.1 c.2, lt_irr] at h1
      cases h1
    · simpa using Decidable.not_and_iff_or_not.1 c
  have e2 : (L.drop (i + 1)).filter (fun z => !(decide (z.o = L[i].o) && decide (z.k = L[i].k))) = L.drop (i + 1) := by
    refine List.filter_eq_self.2 fun z hz => ?_
    obtain ⟨j, hj, rfl⟩ := List.mem_drop_iff_getElem.1 hz
    by_cases c : (L[i + 1 + j]'(by omega)).o = L[i].o ∧ (L[i + 1 + j]'(by omega)).k = L[i].k
    · have h1 := hp i (i + 1 + j) hl (by omega) (by omega)
      rw [hu _ (List.getElem_mem _) _ (List.getElem_mem _) c.1 c.2, lt_irr] at h1
      cases h1
    · simpa using Decidable.not_and_iff_or_not.1 c
  have e3 : L = L.take i ++ (L[i] :: L.drop (i + 1)) := by rw [← List.drop_eq_getElem_cons hl, List.take_append_drop]
  have e4 := congrArg (List.filter (fun z => !(decide (z.o = L[i].o) && decide (z.k = L[i].k)))) e3
  refine Eq.trans ?_ e4.symm
  rw [List.filter_append, List.filter_cons_of_neg (by simp), e1, e2]
/-- a new row is put into the wheel -/
theorem re_put {w X Y : World} {G : Nat → Prop} {x : Nat} {now now' : Int} {L M : List Tm} {A : Option Addr} {c : Nat} (h : RE w G x now L) (hb : Below w.heap.size w X) (hr : X.ownsRow w.heap.size 43 3 (.slice A M.length c) M.length (flatT M)) (hY : Whole Y x 31 #[.int .i64 now', .slice A M.length c]) (hk : Fk (fun i => i = x) X Y) : RE Y (ext G w) x now' M ∧ Fk G w Y := by
  obtain ⟨A0, c0, h⟩ := h
  have hx : ∀ j, (Value.slice A M.length c).ownBlock = some j → w.heap.size ≤ j := fun j e => (own_lt' hr j e).1
  have hlt := h.obj.lt
  refine ⟨⟨A, c, hY, own_more' (own_fk' hr hk (fun j e c => ?_)) (Nat.zero_le _), .inl h.gx, fun j e => .inr (hx j e), fun e => ?_⟩, (Fk.of_below hb).trans (hk.mono (G := G) (fun i _ e => by rw [e]; exact h.gx)) (fun _ _ h => h)⟩
  · have := hx j e; omega
  · have := hx x e; omega
theorem fk_set (X : World) (x i : Nat) (v : Value) : Fk (fun j => j = x) X (X.setCell ⟨x, i, none⟩ v) :=
  ⟨rfl, rfl, rfl, by simp, fun j _ hf => Below.heap_setCell X ⟨x, i, none⟩ v j (fun e => hf e)⟩
end Wh
end Go.Proofs.Ytgbahkkccpcadaa
