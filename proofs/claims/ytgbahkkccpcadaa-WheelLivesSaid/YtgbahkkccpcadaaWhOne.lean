/- Package wheel: New, Now, Count, Get, slotOf. -/
import Derived.Test.YtgbahkkccpcadaaWhMem
namespace Go.Proofs.Ytgbahkkccpcadaa
namespace Wh
open Go.ChangeShapes Go.WideShapes Go.ChangeAt Go.RowKit Go.Maps
open Num Mem Words Chacha Aead Poly Quiet RowV RowS Ops EqLits Stamp

theorem sl_built0 : Try.prog.built 63 [] = some (List.replicate 64 (Value.slice none 0 0)).toArray := by kernel_rfl
theorem blk_nil (q : Nat) : blk (List.replicate 64 (Value.slice none 0 0)) q = none := by
  unfold blk
  rw [List.getElem?_replicate]
  split <;> rfl
set_option maxRecDepth 100000 in
theorem new_bad (t : Int) (ht : ¬ right t) (w : World) : Calls Try.prog 7 #[.int .i64 t] w fun e w' => e = .returned (.tuple #[.pointer none, .int .i64 1]) ∧ w = w' := by
  have HC := Lib.hid (right_any t false ⟨fun h => (by cases h), fun h => absurd h ht⟩ w)
  clear ht
  go_enter Try.func7, Try.ntmps7
  go_wp2_with fail
  refine HC.out.mono ?_
  rintro e w1 ⟨rfl, rfl⟩
  go_wp2_with fail
  go_ret2
  exact ⟨rfl, rfl⟩
theorem new_ww (w : World) (t : Int) (ht : right t) : WW (((w.alloc (.map #[] 0)).alloc (.cells (List.replicate 64 (Value.slice none 0 0)).toArray 63)).alloc (.cells #[.int .i64 t, .map (some w.heap.size), .pointer (some ⟨w.heap.size + 1, 0, none⟩)] 50)) (fun i => w.heap.size ≤ i) (w.heap.size + 1 + 1) t [] := by
  refine ⟨w.heap.size, w.heap.size + 1, .map [], List.replicate 64 (Value.slice none 0 0), ⟨whole_new _ _ (by simp), mag_new, Whole.alloc (whole_new _ _ (by simp)) _, List.length_replicate, fun q hq => ⟨none, 0, ?_, rfl, .inl ⟨rfl, rfl⟩⟩, fun q q' j e => ?_, by show _ ≤ _; omega, Nat.le_refl _, Nat.le_succ _, fun q j e => ?_, ⟨List.Pairwise.nil, fun x hx => (by cases hx), ht.1, ht.2, fun x hx => (by cases hx), Nat.zero_le _⟩⟩, 0, by omega, ?_⟩
  · rw [List.getElem?_replicate, if_pos hq]; rfl
  · rw [blk_nil] at e; cases e
  · rw [blk_nil] at e; cases e
  · exact ((World.ownsMap_made w Try.prog 67 i64R).alloc _).alloc _
set_option maxRecDepth 100000 in
theorem new_any (t : Int) (ht : right t) (w : World) : Calls Try.prog 7 #[.int .i64 t] w fun e w' => ∃ g, e = .returned (.tuple #[.pointer (some ⟨g, 0, none⟩), .int .i64 0]) ∧ Below w.heap.size w w' ∧ WW w' (fun i => w.heap.size ≤ i) g t [] := by
  have HC := Lib.hid (right_any t true ⟨fun _ => ht, fun _ => rfl⟩ w)
  have HT := Lib.hid ht
  clear ht
  have hmm := @run_makeMap Try.prog
  go_enter Try.func7, Try.ntmps7
  go_wp2_with fail
  refine HC.out.mono ?_
  rintro e w1 ⟨rfl, rfl⟩
  have HNW := Lib.hid (new_ww w t HT.out)
  go_wp2_with fail
  go_ret2
  exact ⟨_, rfl, below_alloc (below_alloc (below_alloc (Below.refl _ _) _) _) _, HNW.out⟩
set_option maxRecDepth 100000 in
theorem now_any {w : World} {F : Nat → Prop} {g : Nat} {now : Int} {T : List Tm} (h : WW w F g now T) : Calls Try.prog 14 #[.pointer (some ⟨g, 0, none⟩)] w fun e w' => e = .returned (.int .i64 now) ∧ w = w' := by
  obtain ⟨b, s, D, cs, h1, h2⟩ := h
  have HN := Lib.hid (none_some g s _ _ w h1.obj)
  have c0 : w.cell? ⟨g, 0, none⟩ = some (.int .i64 now) := h1.obj.cell 0
  clear h1 h2
  go_enter Try.func14, Try.ntmps14
  go_wp2_with fail
  refine HN.out.mono ?_
  rintro e w1 ⟨rfl, rfl⟩
  go_wp2_with fail
  go_ret
  exact ⟨rfl, rfl⟩
theorem MapK.len {b : Nat} {Φ : World → DataW Unit → Prop} (hk : MapK b Φ) {w : World} {D : DataW Unit} (h : Φ w D) (ty : TypeId) : (Builtin.len_ #[47] ty #[.map (some b)]).run Try.prog w = .ok (.int .i64 (Maps.size D)) w := by
  obtain ⟨n, _, h⟩ := hk.own w D h
  exact h.len Try.underlying47 ty
theorem MapK.look {b : Nat} {Φ : World → DataW Unit → Prop} (hk : MapK b Φ) {w : World} {D : DataW Unit} {T : List Tm} {now : Int} (h : Φ w D) (ha : MAg D T) (hG : Good now T) {o k : Int} (ho : okI o) (hk2 : okI k) :
    (Instr.lookup 47 (.map (some b)) (nmV o k) true).run Try.prog w = .ok (.tuple #[.int .i64 (getV (findT o k T)), .bool (findT o k T).isSome]) w := by
  obtain ⟨n, _, h⟩ := hk.own w D h
  obtain ⟨v, ps, hr, hv⟩ := h.look_ok keyedN Try.underlying47 (zero_i64 w) (show i64R (.int .i64 0) = some (.lit (.int .i64 0), []) from rfl) (key_name ho hk2)
  obtain ⟨a, rfl, hq⟩ := i64R_inv hv
  cases hf : findT o k T with
  | none =>
    have hno := ha.no hG ho hk2 (find_none hf)
    rw [atKey_of_not_has hno] at hq
    injection hq with hq
    injection hq with hq
    injection hq with _ hq
    rw [hr, hno, ← hq]
    rfl
  | some x =>
    obtain ⟨hx, rfl, rfl⟩ := find_some hf
    rw [ha.at_ x hx] at hq
    injection hq with hq
    injection hq with hq
    injection hq with _ hq
    rw [hr, (ha.hs _).2 ⟨x, hx, rfl⟩, ← hq]
    rfl
set_option maxRecDepth 100000 in
theorem count_gen {b : Nat} {Φ : World → DataW Unit → Prop} (hk : MapK b Φ) {w : World} {F : Nat → Prop} {g s : Nat} {now : Int} {T : List Tm} {D : DataW Unit} {cs : List Value} (h1 : WM w F g b s now T D cs) (h2 : Φ w D) : Calls Try.prog 13 #[.pointer (some ⟨g, 0, none⟩)] w fun e w' => e = .returned (.int .i64 (T.length : Nat)) ∧ w = w' := by
  have HN := Lib.hid (none_some g s _ _ w h1.obj)
  have c1 : w.cell? ⟨g, 1, none⟩ = some (.map (some b)) := h1.obj.cell 1
  have hl := hk.len h2
  rw [h1.ag.sz] at hl
  generalize T.length = n at hl ⊢
  clear h1 h2 hk
  go_enter Try.func13, Try.ntmps13
  go_wp2_with fail
  refine HN.out.mono ?_
  rintro e w1 ⟨rfl, rfl⟩
  go_wp2_with (at_builtin; refine Lib.wpList_len_run _ rfl _ _ _ rfl _ rfl _ _ (hl _) ?_)
  go_ret
  exact ⟨rfl, rfl⟩
theorem count_any {w : World} {F : Nat → Prop} {g : Nat} {now : Int} {T : List Tm} (h : WW w F g now T) : Calls Try.prog 13 #[.pointer (some ⟨g, 0, none⟩)] w fun e w' => e = .returned (.int .i64 (T.length : Nat)) ∧ w = w' := by
  obtain ⟨b, s, D, cs, h1, h2⟩ := h
  exact count_gen (still_k b) h1 h2
set_option maxRecDepth 100000 in
theorem get_gen {b : Nat} {Φ : World → DataW Unit → Prop} (hk : MapK b Φ) {w : World} {F : Nat → Prop} {g s : Nat} {now : Int} {T : List Tm} {D : DataW Unit} {cs : List Value} (h1 : WM w F g b s now T D cs) (h2 : Φ w D) (o k : Int) (ho : okI o) (hk2 : okI k) :
    Calls Try.prog 10 #[.pointer (some ⟨g, 0, none⟩), .int .i64 o, .int .i64 k] w fun e w' => e = .returned (.tuple #[.int .i64 (getV (findT o k T)), .bool (findT o k T).isSome]) ∧ w = w' := by
  have HN := Lib.hid (none_some g s _ _ w h1.obj)
  have c1 : w.cell? ⟨g, 1, none⟩ = some (.map (some b)) := h1.obj.cell 1
  have hl := hk.look h2 h1.ag h1.good ho hk2
  unfold nmV at hl
  generalize getV (findT o k T) = a at hl ⊢
  generalize (findT o k T).isSome = e at hl ⊢
  clear h1 h2 hk ho hk2
  go_enter Try.func10, Try.ntmps10
  go_wp2_with fail
  refine HN.out.mono ?_
  rintro e w1 ⟨rfl, rfl⟩
  go_wp2_with fail
  go_ret2
  exact ⟨rfl, rfl⟩
theorem get_any {w : World} {F : Nat → Prop} {g : Nat} {now : Int} {T : List Tm} (h : WW w F g now T) (o k : Int) (ho : okI o) (hk2 : okI k) :
    Calls Try.prog 10 #[.pointer (some ⟨g, 0, none⟩), .int .i64 o, .int .i64 k] w fun e w' => e = .returned (.tuple #[.int .i64 (getV (findT o k T)), .bool (findT o k T).isSome]) ∧ w = w' := by
  obtain ⟨b, s, D, cs, h1, h2⟩ := h
  exact get_gen (still_k b) h1 h2 o k ho hk2
/-- a time's slot -/
def sl (t : Int) : Nat := (t / 256 % 64).toNat
theorem sl_lt (t : Int) : sl t < 64 := by unfold sl; omega
theorem sl_slot {x : Tm} {q : Nat} : slotB (q : Int) x = true ↔ q = sl x.t := by
  rw [slot_iff]
  unfold sl
  omega
theorem sl_eq {t : Int} (h : 0 ≤ t) : (t.tdiv 256).tmod 64 = (sl t : Nat) := by
  rw [Int.tdiv_eq_ediv_of_nonneg h, Int.tmod_eq_emod_of_nonneg (by omega)]
  unfold sl
  omega
set_option maxRecDepth 100000 in
theorem slot_any (g s : Nat) (x y : Value) (t : Int) (h0 : 0 ≤ t) (h1 : t ≤ 1099511627776) (w : World) (h : Whole w g 50 #[x, y, .pointer (some ⟨s, 0, none⟩)]) :
    Calls Try.prog 30 #[.pointer (some ⟨g, 0, none⟩), .int .i64 t] w fun e w' => e = .returned (.pointer (some ⟨s, sl t, none⟩)) ∧ w = w' := by
  have c2 : w.cell? ⟨g, 2, none⟩ = some (.pointer (some ⟨s, 0, none⟩)) := h.cell 2
  clear h
  go_enter Try.func30, Try.ntmps30
  go_wp2_with fail
  go_ret
  exact ⟨rfl, rfl⟩
end Wh
end Go.Proofs.Ytgbahkkccpcadaa
