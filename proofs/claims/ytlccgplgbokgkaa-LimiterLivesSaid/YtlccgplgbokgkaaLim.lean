/- Package limiter: a bucket's calls, and what a limiter is in memory. -/
import Derived.Test.YtlccgplgbokgkaaLimKey
import Derived.Test.YtlccgplgbokgkaaMask
import Derived.Test.YtlccgplgbokgkaaSpan
import Derived.StillTailTactics
namespace Go.Proofs.Ytlccgplgbokgkaa
namespace Lim
open Go.ChangeShapes Go.WideShapes Go.ChangeAt Go.RowKit
open Num Mem Words Chacha Aead Poly Adr Ops Quiet Stamp

def bkV (v : Int × Int) : Value := .agg #[.int .i64 v.1, .int .i64 v.2]
/-- how a bucket reads -/
def pairR : Value → Option (DataW Unit × List MemPlace)
  | .agg cs => match cs.toList with
    | [.int .i64 a, .int .i64 b] => some (pairD (a, b), [])
    | _ => none
  | _ => none
theorem pairR_mk (v : Int × Int) : pairR (bkV v) = some (pairD v, []) := rfl
theorem pairR_inv {x : Value} {y : DataW Unit × List MemPlace} (h : pairR x = some y) : ∃ c : Int × Int, x = bkV c ∧ y = (pairD c, []) := by
  unfold pairR at h
  split at h
  · rename_i cs
    split at h
    · rename_i a b e
      refine ⟨(a, b), ?_, (Option.some.inj h).symm⟩
      unfold bkV
      congr 1
      apply Array.ext'
      exact e
    · cases h
  · cases h
theorem zero_bk (w : World) : (zeroValue 64).run Try.prog w = .ok (bkV (0, 0)) w := by kernel_rfl

/-- a key's cells -/
theorem key_cells {key : Value} {kl : Lit} (h : keyOf Try.prog 57 key = some kl) : ∃ x : { cs : Array Value // cs.size = 18 ∧ cs.all (·.oneCell') = true }, key = .agg x.1 := by
  obtain ⟨xs, L, rfl, h1, _⟩ := keyOf_top (by kernel_rfl) h
  have ht : Try.prog.tiled 4 57 = true := by kernel_rfl
  have c1 := cells_of_lits 4 57 ht _ _ _ h1
  have hf : (Value.agg xs).formed Try.prog 57 = true := by
    unfold keyOf at h
    simp only [Try.underlying57] at h
    split at h
    · rename_i hf; exact (Bool.and_eq_true_iff.1 hf).2
    · cases h
  refine ⟨⟨xs, ?_, ?_⟩, rfl⟩
  · simp only [Value.formed, Try.underlying57, cells_pref, beq_iff_eq] at hf
    exact hf
  · rw [← Array.toArray_toList (xs := xs), List.all_toArray, c1, List.all_eq_true]
    intro v hv
    obtain ⟨l, _, rfl⟩ := List.mem_map.1 hv
    cases l <;> rfl

set_option maxRecDepth 100000 in
theorem since_any (v : Int × Int) (t : Int) (w : World) : Calls Try.prog 28 #[bkV v, .int .i64 t] w fun e w' => e = .returned (.int .i64 (spanV v.2 t)) ∧ Below w.heap.size w w' := by
  obtain ⟨x, y⟩ := v
  have C := Lib.hid (span_any y t)
  unfold bkV
  dsimp only
  generalize spanV y t = r at *
  generalize spanE y t = e0 at *
  go_enter Try.func28, Try.ntmps28
  go_upto_region 1 with fail
  refine cut_world (fun X => X.cell? ⟨w.heap.size, 1, none⟩ = some (.int .i64 y) ∧ Below w.heap.size w X) ⟨by rw [(Whole.new _ _ _).cell]; rfl, below_alloc (Below.refl _ _) _⟩ ?_
  rintro W ⟨p1, pb⟩
  have PB := Lib.hid pb
  clear pb
  go_wp2_with fail
  refine (C.out _).mono ?_
  rintro e w1 ⟨rfl, rfl⟩
  go_wp2_with fail
  go_ret
  exact ⟨rfl, PB.out⟩

theorem lev_span {v : Int × Int} {t : Int} (hv : okT v.2) (ht : okT t) : min (v.1 + spanV v.2 t) 250 = lev v t := by
  unfold lev spanV right okT at *
  split <;> omega

set_option maxRecDepth 100000 in
theorem level_any (v : Int × Int) (t : Int) (h0 : 0 ≤ v.1) (h1 : v.1 ≤ 250) (hv : okT v.2) (ht : okT t) (w : World) : Calls Try.prog 21 #[bkV v, .int .i64 t] w fun e w' => e = .returned (.int .i64 (lev v t)) ∧ Below w.heap.size w w' := by
  have HL := Lib.hid (lev_span hv ht)
  have hs : 0 ≤ spanV v.2 t ∧ spanV v.2 t ≤ 1099511627776 := by unfold spanV right okT at *; split <;> omega
  have C := Lib.hid (since_any v t)
  obtain ⟨x, y⟩ := v
  dsimp only at *
  obtain ⟨r, hr⟩ : ∃ r, spanV y t = r := ⟨_, rfl⟩
  rw [hr] at hs C HL
  clear hr hv ht
  obtain ⟨h2, h3⟩ := hs
  rw [← HL.out]
  obtain ⟨V, hV⟩ : ∃ V, bkV (x, y) = V := ⟨_, rfl⟩
  have hVe : V = .agg #[.int .i64 x, .int .i64 y] := hV.symm
  rw [hV] at C
  rw [hV]
  subst hVe
  clear hV
  have hmin : (if (250 : Int) < x + r then 250 else x + r) = min (x + r) 250 := by split <;> omega
  have HMIN := Lib.hid hmin
  clear hmin
  go_enter Try.func21, Try.ntmps21
  go_upto_region 1 with fail
  refine cut_world (fun X => Whole X w.heap.size 64 #[.int .i64 x, .int .i64 y] ∧ Below w.heap.size w X) ⟨Whole.new _ _ _, below_alloc (Below.refl _ _) _⟩ ?_
  rintro W ⟨p1, pb⟩
  have P1 := Lib.hid p1
  have PB := Lib.hid pb
  clear p1 pb
  refine q_start (by kernel_rfl) (by kernel_rfl) ?_
  refine q_take _ (by rfl) (fun X hx => by go_simp; try with_reducible rfl) ?_
  try simp only [Act.put, List.setIfInBounds_toArray, List.set_cons_zero, List.set_cons_succ]
  refine q_take (.int .i64 x) (by rfl) (fun X hx => by have c := (P1.out.below hx P1.out.lt).cell 0; go_simp; try with_reducible rfl) ?_
  try simp only [Act.put, List.setIfInBounds_toArray, List.set_cons_zero, List.set_cons_succ]
  refine q_take _ (by rfl) (fun X hx => run_load_in 64 (.tmp 2) rfl w.heap.size rfl #[.int .i64 x, .int .i64 y] 2 rfl (P1.out.below hx P1.out.lt) rfl rfl (by kernel_rfl)) ?_
  try simp only [Act.put, List.setIfInBounds_toArray, List.set_cons_zero, List.set_cons_succ]
  refine q_take _ (by rfl) (fun X hx => by go_simp; try with_reducible rfl) ?_
  try simp only [Act.put, List.setIfInBounds_toArray, List.set_cons_zero, List.set_cons_succ]
  refine q_call (.int .i64 r) 28 #[.agg #[.int .i64 x, .int .i64 y], .int .i64 t] (by rfl) (by intro w; go_simp; try with_reducible rfl) (fun X hx => (C.out X).mono (fun e w' ⟨h1, h2⟩ => ⟨h1, below_trans hx h2⟩)) ?_
  try simp only [Act.put, List.setIfInBounds_toArray, List.set_cons_zero, List.set_cons_succ]
  refine q_take (.int .i64 (x + r)) (by rfl) (fun X hx => by have hw : IntKind.i64.wrap (x + r) = x + r := by (rw [IntKind.wrap_i64]; omega)
                                                             go_simp; try with_reducible rfl) ?_
  try simp only [Act.put, List.setIfInBounds_toArray, List.set_cons_zero, List.set_cons_succ]
  refine q_take (.int .i64 (min (x + r) 250)) (by rfl) (fun X hx => by rw [← HMIN.out]; go_simp; try with_reducible rfl) ?_
  try simp only [Act.put, List.setIfInBounds_toArray, List.set_cons_zero, List.set_cons_succ]
  refine q_take _ (by rfl) (fun X hx => by go_simp; try with_reducible rfl) ?_
  try simp only [Act.put, List.setIfInBounds_toArray, List.set_cons_zero, List.set_cons_succ]
  refine wpQuiet_nil ?_
  intro w2 hb2
  have PB2 := Lib.hid (below_trans PB.out hb2)
  clear P1 PB hb2
  go_wp2_with fail
  go_ret
  exact ⟨rfl, PB2.out⟩

theorem still_take {P : Program} {ops : Array Oper} {w : World} {Q : Act → Prop} {a : Act} {o : Oper} {rest : List Oper} (v : Value) (hw : Region.wanted o (yielded ops a.tmps) = true) (hr : (execOp a.eval o).run P w = .ok (.value v) w)
    (h : wpStill P ops w Q rest (a.put o.dst v)) : wpStill P ops w Q (o :: rest) a := by
  unfold wpStill
  rw [if_pos hw]
  unfold Oper.still
  rw [hr, Oper.stillUpon_value]
  exact h
/-- a limiter in memory: its block g, its map's block b, which reads as D -/
structure LW (w : World) (g b : Nat) (L : List Bk) (last : Int) (D : DataW Unit) : Prop where
  obj : Whole w g 44 #[.map (some b), .int .i64 last]
  own : w.ownsMap Try.prog 57 pairR b 1000000 D
  ag : Ag D L
  good : Good L last
end Lim
end Go.Proofs.Ytlccgplgbokgkaa
