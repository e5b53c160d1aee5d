/- Package trie: nodes in memory; rootOf, isRoute, next. -/
import Derived.Test.YtcpfchfhcfdcpaaTrSame
namespace Go.Proofs.Ytcpfchfhcfdcpaa
namespace Tri
open Go.ChangeShapes Go.WideShapes Go.ChangeAt Go.RowKit
open Num Mem Words Chacha Aead Poly Quiet Ops Adr

def ptrV : Option Nat → Value
  | none => .pointer none
  | some r => .pointer (some ⟨r, 0, none⟩)
def okI (o : Int) : Prop := (Lit.int .i64 o).wf = true
def routeL (s : Bool) (f : Nat → Nat) (z : Int) (o : Int) : List Value := prefL s f z ++ [.int .i64 o]
def nodL (s : Bool) (f : Nat → Nat) (z : Int) (o : Int) (k0 k1 : Option Nat) : List Value := routeL s f z o ++ [ptrV k0, ptrV k1]
theorem routeL_length (s : Bool) (f : Nat → Nat) (z o : Int) : (routeL s f z o).length = 19 := by simp [routeL, prefL_length]
theorem nodL_length (s : Bool) (f : Nat → Nat) (z o : Int) (k0 k1 : Option Nat) : (nodL s f z o k0 k1).length = 21 := by simp [nodL, routeL_length]
theorem route_own (s : Bool) (f : Nat → Nat) (z o : Int) : (routeL s f z o)[18]? = some (.int .i64 o) := by
  unfold routeL
  rw [List.getElem?_append_right (by rw [prefL_length]; omega), prefL_length]
  rfl
theorem route_pre (s : Bool) (f : Nat → Nat) (z o : Int) {j : Nat} {v : Value} (h : (prefL s f z)[j]? = some v) : (routeL s f z o)[j]? = some v := by
  unfold routeL
  rw [List.getElem?_append_left (List.getElem?_eq_some_iff.1 h).1]
  exact h
theorem nod_route (s : Bool) (f : Nat → Nat) (z o : Int) (k0 k1 : Option Nat) {j : Nat} {v : Value} (h : (routeL s f z o)[j]? = some v) : (nodL s f z o k0 k1)[j]? = some v := by
  unfold nodL
  rw [List.getElem?_append_left (List.getElem?_eq_some_iff.1 h).1]
  exact h
theorem nod_kids (s : Bool) (f : Nat → Nat) (z o : Int) (k0 k1 : Option Nat) : (nodL s f z o k0 k1)[19]? = some (ptrV k0) ∧ (nodL s f z o k0 k1)[20]? = some (ptrV k1) := by
  unfold nodL
  constructor
  · rw [List.getElem?_append_right (by rw [routeL_length]; omega), routeL_length]; rfl
  · rw [List.getElem?_append_right (by rw [routeL_length]; omega), routeL_length]; rfl
theorem ptr_one (k : Option Nat) : (ptrV k).oneCell' = true := by cases k <;> rfl
theorem route_each (s : Bool) (f : Nat → Nat) (z o : Int) : ∀ v ∈ routeL s f z o, v.oneCell' = true := by
  intro v hv
  rcases List.mem_append.1 hv with h | h
  · exact pref_each s f z v h
  · rw [List.mem_singleton.1 h]; rfl
theorem nod_each (s : Bool) (f : Nat → Nat) (z o : Int) (k0 k1 : Option Nat) : ∀ v ∈ nodL s f z o k0 k1, v.oneCell' = true := by
  intro v hv
  rcases List.mem_append.1 hv with h | h
  · exact route_each s f z o v h
  · simp only [List.mem_cons, List.not_mem_nil, or_false] at h
    rcases h with rfl | rfl
    · exact ptr_one _
    · exact ptr_one _
/-- a trie in memory, whose nodes are of A -/
def IsT (A : Nat → Prop) (w : World) (s : Bool) : Tr → Option Nat → Prop
  | .nil, q => q = none
  | .node p o a b, q => ∃ r f k0 k1, q = some r ∧ A r ∧ (∀ i, f i < 256) ∧ rightPB s f (p.length : Int) = true ∧ bs f p.length = p ∧ okI o ∧ Whole w r 87 (nodL s f p.length o k0 k1).toArray ∧ IsT A w s a k0 ∧ IsT A w s b k1
theorem IsT.keep {A B : Nat → Prop} {w w' : World} {s : Bool} (hk : ∀ i cs, A i → Whole w i 87 cs → B i ∧ Whole w' i 87 cs) : ∀ {t : Tr} {q : Option Nat}, IsT A w s t q → IsT B w' s t q
  | .nil, _, h => h
  | .node p o a b, q, h => by
    obtain ⟨r, f, k0, k1, h1, hA, h2, h3, h4, h5, h6, h7, h8⟩ := h
    exact ⟨r, f, k0, k1, h1, (hk r _ hA h6).1, h2, h3, h4, h5, (hk r _ hA h6).2, h7.keep hk, h8.keep hk⟩
theorem IsT.below {A : Nat → Prop} {w w' : World} {s : Bool} {t : Tr} {q : Option Nat} (hb : Below w.heap.size w w') (h : IsT A w s t q) : IsT A w' s t q := h.keep fun _ _ ha hw => ⟨ha, hw.below hb hw.lt⟩
theorem IsT.mono {A B : Nat → Prop} {w : World} {s : Bool} {t : Tr} {q : Option Nat} (h : IsT A w s t q) (hAB : ∀ i, i < w.heap.size → A i → B i) : IsT B w s t q := h.keep fun i _ ha hw => ⟨hAB i hw.lt ha, hw⟩
theorem IsT.set {A : Nat → Prop} {w : World} {s : Bool} {t : Tr} {q : Option Nat} (h : IsT A w s t q) {O : Nat} (hO : ¬ A O) (i : Nat) (v : Value) : IsT A (w.setCell ⟨O, i, none⟩ v) s t q :=
  h.keep fun j _ ha hw => ⟨ha, (Below.heap_setCell w ⟨O, i, none⟩ v j (fun e => hO (by rw [← show j = O from e]; exact ha))).trans hw⟩
/-- the parts of a node -/
structure Nod (w : World) (r : Nat) (s : Bool) (f : Nat → Nat) (z : Nat) (o : Int) (k0 k1 : Option Nat) : Prop where
  row : Whole w r 87 (nodL s f z o k0 k1).toArray
theorem Nod.own {w : World} {r : Nat} {s : Bool} {f : Nat → Nat} {z : Nat} {o : Int} {k0 k1 : Option Nat} (h : Nod w r s f z o k0 k1) : w.cell? ⟨r, 18, none⟩ = some (.int .i64 o) := by
  rw [h.row.cell, List.getElem?_toArray]; exact nod_route _ _ _ _ _ _ (route_own _ _ _ _)
theorem Nod.bits {w : World} {r : Nat} {s : Bool} {f : Nat → Nat} {z : Nat} {o : Int} {k0 k1 : Option Nat} (h : Nod w r s f z o k0 k1) : w.cell? ⟨r, 17, none⟩ = some (.int .i64 (z : Nat)) := by
  rw [h.row.cell, List.getElem?_toArray]; exact nod_route _ _ _ _ _ _ (route_pre _ _ _ _ (pref_bits _ _ _))
theorem Nod.kid0 {w : World} {r : Nat} {s : Bool} {f : Nat → Nat} {z : Nat} {o : Int} {k0 k1 : Option Nat} (h : Nod w r s f z o k0 k1) : w.cell? ⟨r, 19, none⟩ = some (ptrV k0) := by
  rw [h.row.cell, List.getElem?_toArray]; exact (nod_kids _ _ _ _ _ _).1
theorem Nod.kid1 {w : World} {r : Nat} {s : Bool} {f : Nat → Nat} {z : Nat} {o : Int} {k0 k1 : Option Nat} (h : Nod w r s f z o k0 k1) : w.cell? ⟨r, 20, none⟩ = some (ptrV k1) := by
  rw [h.row.cell, List.getElem?_toArray]; exact (nod_kids _ _ _ _ _ _).2
theorem Nod.pref {w : World} {r : Nat} {s : Bool} {f : Nat → Nat} {z : Nat} {o : Int} {k0 k1 : Option Nat} (h : Nod w r s f z o k0 k1) : w.rangeAt r 0 (prefL s f z) := fun j v hj => by
  rw [Nat.zero_add, h.row.cell, List.getElem?_toArray]; exact nod_route _ _ _ _ _ _ (route_pre _ _ _ _ hj)
theorem Nod.route {w : World} {r : Nat} {s : Bool} {f : Nat → Nat} {z : Nat} {o : Int} {k0 k1 : Option Nat} (h : Nod w r s f z o k0 k1) : w.rangeAt r 0 (routeL s f z o) := fun j v hj => by
  rw [Nat.zero_add, h.row.cell, List.getElem?_toArray]; exact nod_route _ _ _ _ _ _ hj
set_option maxRecDepth 100000 in
theorem isRoute_any {w : World} {r : Nat} {s : Bool} {f : Nat → Nat} {z : Nat} {o : Int} {k0 k1 : Option Nat} (h : Nod w r s f z o k0 k1) : Calls Try.prog 42 #[.pointer (some ⟨r, 0, none⟩)] w fun e w' => e = .returned (.bool (decide (o ≠ 0))) ∧ w = w' := by
  have c := h.own
  go_enter Try.func42, Try.ntmps42
  go_wp2_with fail
  go_ret
  refine ⟨?_, rfl⟩
  by_cases ho : o = 0 <;> simp [ho]
set_option maxRecDepth 100000 in
theorem rootOf_any (s : Bool) (f : Nat → Nat) (w : World) : Calls Try.prog 36 #[.agg (addrL s f).toArray] w fun e w' => e = .returned (.int .i64 (if s then 1 else 0)) ∧ Below w.heap.size w w' := by
  have HC := Lib.hid (show (addrL s f)[0]? = some (.bool s) from rfl)
  obtain ⟨L, hL⟩ : ∃ L, addrL s f = L := ⟨_, rfl⟩
  rw [hL] at HC ⊢
  clear hL
  go_enter Try.func36, Try.ntmps36
  go_upto_region 1 with fail
  refine cut_world (fun X => X.cell? ⟨w.heap.size, 0, none⟩ = some (.bool s) ∧ Below w.heap.size w X) ⟨by rw [(Whole.new _ _ _).cell, List.getElem?_toArray]; exact HC.out, below_alloc (Below.refl _ _) _⟩ ?_
  rintro W ⟨c0, hb⟩
  have HB := Lib.hid hb
  clear hb HC
  cases s
  · go_wp2_with fail
    go_ret
    exact ⟨rfl, HB.out⟩
  · go_wp2_with fail
    go_ret
    exact ⟨rfl, HB.out⟩
end Tri
end Go.Proofs.Ytcpfchfhcfdcpaa
