/- Package wheel: Set. -/
import Derived.Test.YtgbahkkccpcadaaWhClear
import Derived.Deep.DeepCutAuto
namespace Go.Proofs.Ytgbahkkccpcadaa
namespace Wh
open Go.ChangeShapes Go.WideShapes Go.ChangeAt Go.RowKit Go.Maps
open Num Mem Words Chacha Aead Poly Quiet RowV RowS Ops EqLits Stamp

/-- what a timer set comes to -/
def setT (now : Int) (T : List Tm) (o k t : Int) : Int × List Tm :=
  if ¬ right t ∨ t < now ∨ o < 0 ∨ k < 0 then (1, T) else if findT o k T = none ∧ 64 ≤ T.length then (5, T) else (0, ins ⟨o, k, t⟩ (rem o k T))
theorem own_tight {w : World} {b n : Nat} {D : DataW Unit} {k : TypeId} (h : w.ownsMap Try.prog k i64R b n D) : w.ownsMap Try.prog k i64R b (Maps.size D) D := by
  obtain ⟨es, clock, hb, F, hs, rfl⟩ := h
  exact ⟨es, clock, hb, F, by rw [Maps.size_eq, length_sorted]; simp, rfl⟩
theorem slot_ins_other {T : List Tm} (hS : Srt T) {x : Tm} {q : Nat} (h : q ≠ sl x.t) : slotL q (ins x T) = slotL q T := by
  unfold slotL
  exact filter_ins_neg hS (Bool.eq_false_iff.2 fun c => h (sl_slot.1 c))
theorem slot_ins {T : List Tm} (hS : Srt T) (x : Tm) : (slotL (sl x.t) T).take (pos x (slotL (sl x.t) T)) ++ x :: (slotL (sl x.t) T).drop (pos x (slotL (sl x.t) T)) = slotL (sl x.t) (ins x T) := by
  unfold slotL
  rw [ins_pos (hS.filter _) x, filter_ins_pos (sl_slot.2 rfl)]
theorem fold3 (x : Tm) (zs : Array Value) (h : zs.size = 3) : List.foldl (fun (cs : Array Value) (x : Value × Nat) => cs.setIfInBounds x.2 x.1) zs (tmL x).zipIdx = (tmL x).toArray := fold_whole _ _ (by rw [h]; rfl)

set_option maxRecDepth 100000 in
theorem set_bad {w : World} {F : Nat → Prop} {g : Nat} {now : Int} {T : List Tm} (h : WW w F g now T) (o k t : Int) (hbad : ¬ right t ∨ t < now ∨ o < 0 ∨ k < 0) :
    Calls Try.prog 17 #[.pointer (some ⟨g, 0, none⟩), .int .i64 o, .int .i64 k, .int .i64 t] w fun e w' => e = .returned (.int .i64 1) ∧ w = w' := by
  have hrn : right now := ⟨h.good.nn, h.good.nm⟩
  obtain ⟨b, s, D, cs, h1, h2⟩ := h
  have HN := Lib.hid (none_some g s _ _ w h1.obj)
  have c0 : w.cell? ⟨g, 0, none⟩ = some (.int .i64 now) := h1.obj.cell 0
  have HSP := Lib.hid (span_any now t w)
  clear h1 h2
  have hE : spanE now t = 0 ∧ (o < 0 ∨ k < 0) ∨ spanE now t = 1 := by
    unfold spanE
    split
    · rename_i hr
      refine .inl ⟨rfl, ?_⟩
      rcases hbad with h | h | h | h
      · exact absurd hr.2.1 h
      · omega
      · exact .inl h
      · exact .inr h
    · exact .inr rfl
  generalize spanV now t = v at HSP
  generalize spanE now t = e0 at HSP hE
  go_enter Try.func17, Try.ntmps17
  go_wp2_with fail
  refine HN.out.mono ?_
  rintro e w1 ⟨rfl, rfl⟩
  go_wp2_with fail
  refine HSP.out.mono ?_
  rintro e w1 ⟨rfl, rfl⟩
  rcases hE with ⟨rfl, hE⟩ | rfl
  · by_cases ho : o < 0
    · have d1 : decide (o < 0) = true := decide_eq_true ho
      go_wp2_with fail
      go_ret
      exact ⟨rfl, rfl⟩
    · have d1 : decide (o < 0) = false := decide_eq_false ho
      have d2 : decide (k < 0) = true := decide_eq_true (by omega)
      go_wp2_with fail
      go_ret
      exact ⟨rfl, rfl⟩
  · go_wp2_with fail
    go_ret
    exact ⟨rfl, rfl⟩

set_option maxRecDepth 100000 in
theorem set_full {w : World} {F : Nat → Prop} {g : Nat} {now : Int} {T : List Tm} (h : WW w F g now T) (o k t : Int) (ho : 0 ≤ o) (hk : 0 ≤ k) (hio : okI o) (hik : okI k) (ht : right t) (htn : now ≤ t) (hf : findT o k T = none) (hl : 64 ≤ T.length) :
    Calls Try.prog 17 #[.pointer (some ⟨g, 0, none⟩), .int .i64 o, .int .i64 k, .int .i64 t] w fun e w' => e = .returned (.int .i64 5) ∧ w = w' := by
  have hrn : right now := ⟨h.good.nn, h.good.nm⟩
  obtain ⟨b, s, D, cs, h1, h2⟩ := h
  have HN := Lib.hid (none_some g s _ _ w h1.obj)
  have c0 : w.cell? ⟨g, 0, none⟩ = some (.int .i64 now) := h1.obj.cell 0
  have c1 : w.cell? ⟨g, 1, none⟩ = some (.map (some b)) := h1.obj.cell 1
  have hln := (still_k b).len h2
  rw [h1.ag.sz] at hln
  generalize T.length = n at hln hl
  have HC := Lib.hid (show Calls Try.prog 18 #[.pointer (some ⟨g, 0, none⟩), .int .i64 o, .int .i64 k] w fun e w' => e = .returned (.bool false) ∧ w = w' from (clear_gen (still_k b) h1 h2 o k hio hik).mono (by
    rintro e w' (⟨_, rfl, rfl⟩ | ⟨x, hx, _⟩)
    · exact ⟨rfl, rfl⟩
    · rw [hf] at hx; cases hx))
  have HSP := Lib.hid (show Calls Try.prog 29 #[.int .i64 now, .int .i64 t] w fun e w' => e = .returned (.tuple #[.int .i64 (spanV now t), .int .i64 0]) ∧ w = w' from (span_any now t w).mono (by
    rintro e w' ⟨rfl, rfl⟩
    unfold spanE
    rw [if_pos ⟨hrn, ht, htn⟩]
    exact ⟨rfl, rfl⟩))
  generalize spanV now t = v at HSP
  have d1 : decide (o < 0) = false := decide_eq_false (by omega)
  have d2 : decide (k < 0) = false := decide_eq_false (by omega)
  clear h1 h2 hf ht hrn hio hik
  go_enter Try.func17, Try.ntmps17
  go_wp2_with fail
  refine HN.out.mono ?_
  rintro e w1 ⟨rfl, rfl⟩
  go_wp2_with fail
  refine HSP.out.mono ?_
  rintro e w1 ⟨rfl, rfl⟩
  go_wp2_with fail
  refine HC.out.mono ?_
  rintro e w1 ⟨rfl, rfl⟩
  go_wp2_with fail
  go_ret
  exact ⟨rfl, rfl⟩
end Wh
end Go.Proofs.Ytgbahkkccpcadaa
