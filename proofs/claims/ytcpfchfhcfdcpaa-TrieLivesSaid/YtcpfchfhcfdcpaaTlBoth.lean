/- A trie and its row side by side: what each call tells. -/
import Derived.Test.YtcpfchfhcfdcpaaTlModel
import Derived.Test.YtcpfchfhcfdcpaaTrAs
namespace Go.Proofs.Ytcpfchfhcfdcpaa
namespace Tri
open Go.ChangeShapes Go.WideShapes Go.ChangeAt Go.RowKit
open Num Mem Words Chacha Aead Poly Quiet Ops Adr RowS

structure Ct (T : Tm) (n : Nat) (AL PG : List Value) (r : Rt) (C : List Value) (TH : Bool) (go : Int) (gb : Bool) : Prop where
  fT : ∀ X q, TrW X T q → Calls Try.prog 10 #[ptrV q, .agg AL.toArray] X fun e w' => e = .returned (.tuple #[.agg C.toArray, .bool TH]) ∧ Below X.heap.size X w'
  fR : ∀ X A c, RowQ X A c T.L → Calls Try.prog 11 #[.slice A n c, .agg AL.toArray] X fun e w' => e = .returned (.tuple #[.agg C.toArray, .bool TH]) ∧ Below X.heap.size X w'
  gT : ∀ X q, TrW X T q → Calls Try.prog 12 #[ptrV q, .agg PG.toArray] X fun e w' => e = .returned (.tuple #[.int .i64 go, .bool gb]) ∧ Below X.heap.size X w'
  gR : ∀ X A c, RowQ X A c T.L → Calls Try.prog 13 #[.slice A n c, .agg PG.toArray] X fun e w' => e = .returned (.tuple #[.int .i64 go, .bool gb]) ∧ Below X.heap.size X w'
  fit : (r.p.length : Int) ≤ digitsI r.s
  cel : r.cells = C
structure Ct2 (T : Tm) (n : Nat) : Prop where
  cn : ∀ X q, TrW X T q → Calls Try.prog 14 #[ptrV q] X fun e w' => e = .returned (.int .i64 (n : Nat)) ∧ Below X.heap.size X w'
  ro : ∀ X q, TrW X T q → Calls Try.prog 17 #[ptrV q] X fun e w' => ∃ R, e = .returned (.slice R n n) ∧ RdQ w' R T.L ∧ Below X.heap.size X w'
  asR : ∀ X A c, RdQ X A T.L → Calls Try.prog 16 #[.slice A n c] X fun e w' => ∃ A' c', e = .returned (.slice A' n c') ∧ RdQ w' A' T.L ∧ Below X.heap.size X w'
  sa : ∀ X A A2 c c2, RdQ X A T.L → RdQ X A2 T.L → Calls Try.prog 15 #[.slice A n c, .slice A2 n c2] X fun e w' => e = .returned (.bool true) ∧ Below X.heap.size X w'
theorem noRt_fit : (noRt.p.length : Int) ≤ digitsI noRt.s := by show ((0 : Nat) : Int) ≤ 32; decide
theorem last_fit {t : Tm} (h : t.Fit) (s : Bool) (f : Nat → Nat) : ((lastR (holdR s f t.a t.b)).p.length : Int) ≤ digitsI (lastR (holdR s f t.a t.b)).s := by
  unfold lastR
  cases hl : (holdR s f t.a t.b).getLast? with
  | none => rw [List.getLastD_eq_getLast?, hl]; exact noRt_fit
  | some x =>
    rw [List.getLastD_eq_getLast?, hl]
    have hm := List.mem_of_getLast? hl
    obtain ⟨_, hs, hk⟩ := mem_holdR hm
    exact (h.own x (mem_routes2.2 (by rw [hs]; exact (hold_len (ok_pick h.oka h.okb) hk).2))).1
theorem ct_any {T : Tm} (h : T.Fit) {x : Opm} (hx : x.Ok) : ∃ r C TH go gb, Ct T T.L.length (addrL x.s2 x.g2) (prefL x.s x.g x.z) r C TH go gb := by
  have hb := best_find h (s := x.s2) hx.g2
  have hg := get_same h (s := x.s) hx.g x.z
  refine ⟨lastR (holdR x.s2 x.g2 T.a T.b), _, decide ((lastR (holdR x.s2 x.g2 T.a T.b)).o ≠ 0), getO (holdR x.s x.g T.a T.b) x.s x.g x.z, getB (holdR x.s x.g T.a T.b) x.s x.g x.z, ⟨fun _ _ k => find_any k h.oka h.okb x.s2 x.g2 hx.g2, fun _ _ c k => ?_, fun _ _ k => get_any k h.oka h.okb x.s x.g hx.g x.z, fun _ _ c k => ?_, last_fit h _ _, rfl⟩⟩
  · have := rFind_any c k.rd (len_thousand h) (fit_fits h) x.s2 x.g2 hx.g2
    rw [hb.1, hb.2] at this
    exact this
  · have := rGet_any c k.rd (len_thousand h) x.s x.g hx.g x.z
    rw [hg.1, hg.2] at this
    exact this
theorem ct2_any {T : Tm} (h : T.Fit) : Ct2 T T.L.length :=
  ⟨fun _ _ k => count_any k (len_thousand h), fun _ _ k => (routes_any k (len_thousand h)).mono fun _ _ ⟨R, h1, h2, h3⟩ => ⟨R, h1, rdQ_of h2, h3⟩, fun _ _ c k => as_any c k (len_thousand h), fun _ _ _ c c2 k k2 => same_any c c2 k k2 (len_thousand h) (len_thousand h) (fit_fits h) (fit_fits h) true ⟨fun _ => rfl, fun _ => rfl⟩⟩
theorem eq_selfR (r : Rt) (w : World) : (Op.equalIn 10000 29 (.agg (prefL r.s (byt r.p) (r.p.length : Int)).toArray) (.agg (prefL r.s (byt r.p) (r.p.length : Int)).toArray)).run Try.prog w = .ok true w :=
  eqin_pref 9996 r.s r.s (byt r.p) (byt r.p) _ _ (byt_lt _) (byt_lt _) true ⟨fun _ => ⟨⟨rfl, fun _ _ => rfl⟩, rfl⟩, fun _ => rfl⟩ w
theorem zero_op' : ∃ Z : Array Value, Z.size = 37 ∧ ∀ w : World, (zeroValue 31).run Try.prog w = .ok (.agg Z) w := ⟨_, (by decide : (Array.mk (Value.int .i64 0 :: (prefL false nought 0 ++ (Value.int .i64 0 :: addrL false nought)))).size = 37), fun w => by kernel_rfl⟩
/-- the world of a round -/
structure PyW (w : World) (M : Nat) (C : List Value) (T : Tm) (q : Option Nat) (A : Option Addr) (c : Nat) (L : List Rt) (X : World) : Prop where
  op : Whole X M 31 C.toArray
  t : TrW X T q
  r : RowQ X A c L
  bel : Below w.heap.size w X
theorem PyW.below {w : World} {M : Nat} {C : List Value} {T : Tm} {q : Option Nat} {A : Option Addr} {c : Nat} {L : List Rt} {X Y : World} (h : PyW w M C T q A c L X) (hb : Below X.heap.size X Y) : PyW w M C T q A c L Y :=
  ⟨h.op.below hb h.op.lt, h.t.below hb, h.r.below hb (Nat.le_refl _), h.bel.trans (hb.mono h.bel.size)⟩
structure PzW (w : World) (M M1 : Nat) (C C1 : List Value) (T : Tm) (q : Option Nat) (A : Option Addr) (c : Nat) (L : List Rt) (X : World) : Prop where
  y : PyW w M C T q A c L X
  a : Whole X M1 38 C1.toArray
theorem PzW.below {w : World} {M M1 : Nat} {C C1 : List Value} {T : Tm} {q : Option Nat} {A : Option Addr} {c : Nat} {L : List Rt} {X Y : World} (h : PzW w M M1 C C1 T q A c L X) (hb : Below X.heap.size X Y) : PzW w M M1 C C1 T q A c L Y :=
  ⟨h.y.below hb, h.a.below hb h.a.lt⟩
structure PxW (w : World) (M M1 M2 : Nat) (C C1 : List Value) (T : Tm) (q : Option Nat) (A : Option Addr) (c : Nat) (L : List Rt) (X : World) : Prop where
  z : PzW w M M1 C C1 T q A c L X
  b : Whole X M2 41 C1.toArray
theorem PxW.below {w : World} {M M1 M2 : Nat} {C C1 : List Value} {T : Tm} {q : Option Nat} {A : Option Addr} {c : Nat} {L : List Rt} {X Y : World} (h : PxW w M M1 M2 C C1 T q A c L X) (hb : Below X.heap.size X Y) : PxW w M M1 M2 C C1 T q A c L Y :=
  ⟨h.z.below hb, h.b.below hb h.b.lt⟩
end Tri
end Go.Proofs.Ytcpfchfhcfdcpaa
