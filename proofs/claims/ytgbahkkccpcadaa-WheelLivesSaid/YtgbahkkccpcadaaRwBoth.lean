/- A wheel and the document's own, side by side. -/
import Derived.Test.YtgbahkkccpcadaaRwSet
namespace Go.Proofs.Ytgbahkkccpcadaa
namespace Wh
open Go.ChangeShapes Go.WideShapes Go.ChangeAt Go.RowKit Go.Maps
open Num Mem Words Chacha Aead Poly Quiet RowV RowS Ops EqLits Stamp
open WheelSteps (bel_fk)

structure LW (B : Nat) (w : World) (g x : Nat) (n1 : Int) (T1 : List Tm) (n2 : Int) (T2 : List Tm) (F G : Nat → Prop) (X : World) : Prop where
  wb : WB B X F g n1 T1
  re : RE X G x n2 T2
  rb : ∀ i, G i → B ≤ i ∧ i < X.heap.size
  ap : ∀ i, F i → ¬ G i
  bel : Below B w X
  hB : B ≤ w.heap.size
section
variable {B g x : Nat} {w X Y : World} {n1 n2 n' : Int} {T1 T2 T' : List Tm} {F G : Nat → Prop}
theorem LW.below (h : LW B w g x n1 T1 n2 T2 F G X) (hb : Below X.heap.size X Y) : LW B w g x n1 T1 n2 T2 F G Y :=
  ⟨⟨h.wb.1.below hb, fun i hi => ⟨(h.wb.2 i hi).1, Nat.lt_of_lt_of_le (h.wb.2 i hi).2 hb.size⟩⟩, h.re.below hb, fun i hi => ⟨(h.rb i hi).1, Nat.lt_of_lt_of_le (h.rb i hi).2 hb.size⟩, h.ap, h.bel.trans (hb.mono (Nat.le_trans h.hB h.bel.size)), h.hB⟩
theorem LW.wheel (h : LW B w g x n1 T1 n2 T2 F G X) (hY : WW Y (ext F X) g n' T') (hk : Fk F X Y) : ∃ F', LW B w g x n' T' n2 T2 F' G Y := by
  obtain ⟨F2, h1, h2, _⟩ := WB.turn (B := B) hY (fun _ h => h) hk h.wb.2 (Nat.le_trans h.hB h.bel.size)
  exact ⟨F2, h1, h.re.fk hk (fun i hg hf => h.ap i hf hg), fun i hi => ⟨(h.rb i hi).1, Nat.lt_of_lt_of_le (h.rb i hi).2 hk.size⟩, fun i hf hg => h.ap i (h2 i (h.rb i hg).2 hf) hg, h.bel.trans ⟨hk.os, hk.tape, hk.output, hk.size, fun i hi => hk.block i (Nat.lt_of_lt_of_le hi (Nat.le_trans h.hB h.bel.size)) (fun c => by have := (h.wb.2 i c).1; omega)⟩, h.hB⟩
theorem LW.ref (h : LW B w g x n1 T1 n2 T2 F G X) (hY : RE Y (ext G X) x n' T') (hk : Fk G X Y) : ∃ G', LW B w g x n1 T1 n' T' F G' Y := by
  refine ⟨fun i => ext G X i ∧ i < Y.heap.size, ⟨h.wb.1.fk hk h.ap, fun i hi => ⟨(h.wb.2 i hi).1, Nat.lt_of_lt_of_le (h.wb.2 i hi).2 hk.size⟩⟩, hY.mono (fun i h1 h2 => ⟨h2, h1⟩), fun i hi => ⟨?_, hi.2⟩, fun i hf hg => ?_, h.bel.trans ⟨hk.os, hk.tape, hk.output, hk.size, fun i hi => hk.block i (Nat.lt_of_lt_of_le hi (Nat.le_trans h.hB h.bel.size)) (fun c => by have := (h.rb i c).1; omega)⟩, h.hB⟩
  · rcases hi.1 with c | c
    · exact (h.rb i c).1
    · exact Nat.le_trans (Nat.le_trans h.hB h.bel.size) c
  · rcases hg.1 with c | c
    · exact h.ap i hf c
    · have := (h.wb.2 i hf).2; omega
end
/-- both tell the same -/
def LE (B : Nat) (w : World) (g x : Nat) (X : World) : Prop := ∃ n T F G, LW B w g x n T n T F G X
def OneW (t : Nat) (q : OpV) (V : World) : Prop := Whole V t 34 #[.int .i64 q.c, .int .i64 q.o, .int .i64 q.k, .int .i64 q.t]
theorem clear_any {w : World} {F : Nat → Prop} {g : Nat} {now : Int} {T : List Tm} (h : WW w F g now T) (o k : Int) (hio : okI o) (hik : okI k) :
    Calls Try.prog 18 #[.pointer (some ⟨g, 0, none⟩), .int .i64 o, .int .i64 k] w fun e w' => e = .returned (.bool (findT o k T).isSome) ∧ WW w' (ext F w) g now (rem o k T) ∧ Fk F w w' := by
  obtain ⟨b, s, D, cs, h1, h2⟩ := h
  refine (clear_gen (still_k b) h1 h2 o k hio hik).mono ?_
  rintro e w' (⟨hf, rfl, rfl⟩ | ⟨y, hf, rfl, hk2, cs2, hw2, hr2⟩)
  · rw [hf, rem_none (find_none hf)]
    exact ⟨rfl, WW.mono ⟨b, s, D, cs, h1, h2⟩ (fun _ _ h => .inl h), Fk.refl _ _⟩
  · rw [hf]
    exact ⟨rfl, WW.mono ⟨b, s, _, cs2, hw2, hr2⟩ (fun _ _ h => .inl h), hk2⟩
set_option maxRecDepth 100000 in
set_option maxHeartbeats 4000000 in
theorem one_any {B g x : Nat} {w X : World} (q : OpV) (hq : OkV q) (h : LE B w g x X) :
    Calls Try.prog 9 #[.pointer (some ⟨g, 0, none⟩), .pointer (some ⟨x, 0, none⟩), .agg (opL q).toArray] X fun e Y => e = .returned (.bool true) ∧ LE B w g x Y := by
  obtain ⟨n, T, F, G, h⟩ := h
  obtain ⟨qc, qo, qk, qt⟩ := q
  have HOK := Lib.hid hq
  have HLW := Lib.hid h
  unfold opL
  dsimp only
  clear h hq
  go_enter Try.func9, Try.ntmps9
  go_upto_region 1 with fail
  obtain ⟨t0, ht0⟩ : ∃ t0, X.heap.size = t0 := ⟨_, rfl⟩
  refine cut_world (fun Y => LW B w g x n T n T F G Y ∧ OneW t0 ⟨qc, qo, qk, qt⟩ Y ∧ ¬ F t0 ∧ ¬ G t0 ∧ t0 < Y.heap.size) ?_ ?_
  · have hl := HLW.out
    have hb := below_alloc (Below.refl X.heap.size X) (.cells #[.int .i64 qc, .int .i64 qo, .int .i64 qk, .int .i64 qt] 34)
    exact ⟨hl.below hb, whole_new _ _ ht0, fun c => by have := (hl.wb.2 _ c).2; omega, fun c => by have := (hl.rb _ c).2; omega, by simp; omega⟩
  rw [ht0]
  rintro Y ⟨hl, ho, hf, hg, hlt⟩
  clear HLW
  have HLD := Lib.hid (hl.below (Below.drew (Below.refl _ _)))
  have HLW := Lib.hid hl
  have HO := Lib.hid ho
  have HF := Lib.hid hf
  have HG := Lib.hid hg
  have hgood := hl.wb.1.good
  have HSR := Lib.hid hgood.srt
  have HUN := Lib.hid hgood.unq
  have HLN := Lib.hid (show T.length ≤ 1000 from Nat.le_trans hgood.room (by omega))
  have HK1 := Lib.hid (show ∀ V, OneW t0 ⟨qc, qo, qk, qt⟩ V → V.cell? ⟨t0, 1, none⟩ = some (.int .i64 qo) from fun V h => h.cell 1)
  have HK2 := Lib.hid (show ∀ V, OneW t0 ⟨qc, qo, qk, qt⟩ V → V.cell? ⟨t0, 2, none⟩ = some (.int .i64 qk) from fun V h => h.cell 2)
  have HK3 := Lib.hid (show ∀ V, OneW t0 ⟨qc, qo, qk, qt⟩ V → V.cell? ⟨t0, 3, none⟩ = some (.int .i64 qt) from fun V h => h.cell 3)
  have ck : Y.cell? ⟨t0, 0, none⟩ = some (.int .i64 qc) := ho.cell 0
  clear hl ho hf hg hlt hgood
  by_cases h0 : qc = 0
  · subst h0
    have HC1 := Lib.hid (set_any HLD.out.wb.1 qo qk qt HOK.out.o HOK.out.k)
    go_upto_region 3 with fail
    refine region_drew (fun V => OneW t0 ⟨0, qo, qk, qt⟩ V) (by kernel_rfl) (Whole.drew HO.out) (fun hS => ?_)
    refine take 0 _ rfl (by kernel_rfl) (by kernel_rfl) (by kernel_rfl) (fun _ _ _ h => h) (by rfl) hS (by intro w _; go_simp; with_reducible rfl) ?_
    try simp only [Act.put, List.setIfInBounds_toArray, List.set_cons_zero, List.set_cons_succ]
    refine take 1 _ rfl (by kernel_rfl) (by kernel_rfl) (by kernel_rfl) (fun _ _ _ h => h) (by rfl) hS (by intro w _; go_simp; with_reducible rfl) ?_
    try simp only [Act.put, List.setIfInBounds_toArray, List.set_cons_zero, List.set_cons_succ]
    refine take 3 _ rfl (by kernel_rfl) (by kernel_rfl) (by kernel_rfl) (fun _ _ _ h => h) (by rfl) hS (by intro w _; go_simp; with_reducible rfl) ?_
    try simp only [Act.put, List.setIfInBounds_toArray, List.set_cons_zero, List.set_cons_succ]
    refine take 5 _ rfl (by kernel_rfl) (by kernel_rfl) (by kernel_rfl) (fun _ _ _ h => h) (by rfl) hS (by intro w _; go_simp; with_reducible rfl) ?_
    try simp only [Act.put, List.setIfInBounds_toArray, List.set_cons_zero, List.set_cons_succ]
    refine take 8 _ rfl (by kernel_rfl) (by kernel_rfl) (by kernel_rfl) (fun _ _ _ h => h) (by rfl) hS (by intro w _; go_simp; with_reducible rfl) ?_
    try simp only [Act.put, List.setIfInBounds_toArray, List.set_cons_zero, List.set_cons_succ]
    refine take 9 _ rfl (by kernel_rfl) (by kernel_rfl) (by kernel_rfl) (fun _ _ _ h => h) (by rfl) hS (by intro w _; go_simp; with_reducible rfl) ?_
    try simp only [Act.put, List.setIfInBounds_toArray, List.set_cons_zero, List.set_cons_succ]
    refine take 11 _ rfl (by kernel_rfl) (by kernel_rfl) (by kernel_rfl) (fun _ _ _ h => h) (by rfl) hS (by intro w _; go_simp; with_reducible rfl) ?_
    try simp only [Act.put, List.setIfInBounds_toArray, List.set_cons_zero, List.set_cons_succ]
    refine take 13 _ rfl (by kernel_rfl) (by kernel_rfl) (by kernel_rfl) (fun _ _ _ h => h) (by rfl) hS (by intro w _; go_simp; with_reducible rfl) ?_
    try simp only [Act.put, List.setIfInBounds_toArray, List.set_cons_zero, List.set_cons_succ]
    refine take 2 _ rfl (by kernel_rfl) (by kernel_rfl) (by kernel_rfl) (fun _ _ _ h => h) (by rfl) hS (by intro w hw; have hcl := HK1.out w hw; go_simp; with_reducible rfl) ?_
    try simp only [Act.put, List.setIfInBounds_toArray, List.set_cons_zero, List.set_cons_succ]
    refine take 4 _ rfl (by kernel_rfl) (by kernel_rfl) (by kernel_rfl) (fun _ _ _ h => h) (by rfl) hS (by intro w hw; have hcl := HK2.out w hw; go_simp; with_reducible rfl) ?_
    try simp only [Act.put, List.setIfInBounds_toArray, List.set_cons_zero, List.set_cons_succ]
    refine take 6 _ rfl (by kernel_rfl) (by kernel_rfl) (by kernel_rfl) (fun _ _ _ h => h) (by rfl) hS (by intro w hw; have hcl := HK3.out w hw; go_simp; with_reducible rfl) ?_
    try simp only [Act.put, List.setIfInBounds_toArray, List.set_cons_zero, List.set_cons_succ]
    refine take 10 _ rfl (by kernel_rfl) (by kernel_rfl) (by kernel_rfl) (fun _ _ _ h => h) (by rfl) hS (by intro w hw; have hcl := HK1.out w hw; go_simp; with_reducible rfl) ?_
    try simp only [Act.put, List.setIfInBounds_toArray, List.set_cons_zero, List.set_cons_succ]
    refine take 12 _ rfl (by kernel_rfl) (by kernel_rfl) (by kernel_rfl) (fun _ _ _ h => h) (by rfl) hS (by intro w hw; have hcl := HK2.out w hw; go_simp; with_reducible rfl) ?_
    try simp only [Act.put, List.setIfInBounds_toArray, List.set_cons_zero, List.set_cons_succ]
    refine take 14 _ rfl (by kernel_rfl) (by kernel_rfl) (by kernel_rfl) (fun _ _ _ h => h) (by rfl) hS (by intro w hw; have hcl := HK3.out w hw; go_simp; with_reducible rfl) ?_
    try simp only [Act.put, List.setIfInBounds_toArray, List.set_cons_zero, List.set_cons_succ]
    refine alone 7 rfl (by kernel_rfl) (by rfl) ?_
    intro K hK
    go_simp
    refine HC1.out.mono ?_
    rintro e Y1 ⟨rfl, hY1, hk1⟩
    obtain ⟨F1, hl1⟩ := HLD.out.wheel hY1 hk1
    have ho1 : OneW t0 ⟨0, qo, qk, qt⟩ Y1 := hk1.whole (Whole.drew HO.out) HF.out
    have HC2 := Lib.hid (rset_any hl1.re HSR.out HUN.out HLN.out qo qk qt)
    have HL1 := Lib.hid hl1
    have HO1 := Lib.hid ho1
    go_simp
    refine hK.out _ _ HO1.out ?_
    clear hK K hS hl1 ho1 hY1 hk1
    have hS := HO1.out
    try simp only [Act.put, List.setIfInBounds_toArray, List.set_cons_zero, List.set_cons_succ]
    skip
    refine alone 15 rfl (by kernel_rfl) (by rfl) ?_
    intro K hK
    go_simp
    refine HC2.out.mono ?_
    rintro e Y2 ⟨rfl, hY2, hk2⟩
    obtain ⟨G2, hl2⟩ := HL1.out.ref hY2 hk2
    have HO2 := Lib.hid (show OneW t0 ⟨0, qo, qk, qt⟩ Y2 from hk2.whole HO1.out HG.out)
    have HL2 := Lib.hid hl2
    go_simp
    refine hK.out _ _ HO2.out ?_
    clear hK K hS hl2 hY2 hk2
    have hS := HO2.out
    try simp only [Act.put, List.setIfInBounds_toArray, List.set_cons_zero, List.set_cons_succ]
    refine take 16 _ rfl (by kernel_rfl) (by kernel_rfl) (by kernel_rfl) (fun _ _ _ h => h) (by rfl) hS (by intro w _; go_simp; with_reducible rfl) ?_
    try simp only [Act.put, List.setIfInBounds_toArray, List.set_cons_zero, List.set_cons_succ]
    refine take 17 _ rfl (by kernel_rfl) (by kernel_rfl) (by kernel_rfl) (fun _ _ _ h => h) (by rfl) hS (by intro w _; go_simp; with_reducible rfl) ?_
    try simp only [Act.put, List.setIfInBounds_toArray, List.set_cons_zero, List.set_cons_succ]
    refine region_end (by kernel_rfl) ?_
    go_wp2_with fail
    go_ret
    exact ⟨rfl, _, _, _, _, HL2.out⟩
  by_cases h1 : qc = 1
  · subst h1
    clear h0
    have HC1 := Lib.hid (clear_any HLD.out.wb.1 qo qk HOK.out.o HOK.out.k)
    go_upto_region 5 with fail
    refine region_drew (fun V => OneW t0 ⟨1, qo, qk, qt⟩ V) (by kernel_rfl) (Whole.drew HO.out) (fun hS => ?_)
    refine take 0 _ rfl (by kernel_rfl) (by kernel_rfl) (by kernel_rfl) (fun _ _ _ h => h) (by rfl) hS (by intro w _; go_simp; with_reducible rfl) ?_
    try simp only [Act.put, List.setIfInBounds_toArray, List.set_cons_zero, List.set_cons_succ]
    refine take 1 _ rfl (by kernel_rfl) (by kernel_rfl) (by kernel_rfl) (fun _ _ _ h => h) (by rfl) hS (by intro w _; go_simp; with_reducible rfl) ?_
    try simp only [Act.put, List.setIfInBounds_toArray, List.set_cons_zero, List.set_cons_succ]
    refine take 3 _ rfl (by kernel_rfl) (by kernel_rfl) (by kernel_rfl) (fun _ _ _ h => h) (by rfl) hS (by intro w _; go_simp; with_reducible rfl) ?_
    try simp only [Act.put, List.setIfInBounds_toArray, List.set_cons_zero, List.set_cons_succ]
    refine take 6 _ rfl (by kernel_rfl) (by kernel_rfl) (by kernel_rfl) (fun _ _ _ h => h) (by rfl) hS (by intro w _; go_simp; with_reducible rfl) ?_
    try simp only [Act.put, List.setIfInBounds_toArray, List.set_cons_zero, List.set_cons_succ]
    refine take 7 _ rfl (by kernel_rfl) (by kernel_rfl) (by kernel_rfl) (fun _ _ _ h => h) (by rfl) hS (by intro w _; go_simp; with_reducible rfl) ?_
    try simp only [Act.put, List.setIfInBounds_toArray, List.set_cons_zero, List.set_cons_succ]
    refine take 9 _ rfl (by kernel_rfl) (by kernel_rfl) (by kernel_rfl) (fun _ _ _ h => h) (by rfl) hS (by intro w _; go_simp; with_reducible rfl) ?_
    try simp only [Act.put, List.setIfInBounds_toArray, List.set_cons_zero, List.set_cons_succ]
    refine take 2 _ rfl (by kernel_rfl) (by kernel_rfl) (by kernel_rfl) (fun _ _ _ h => h) (by rfl) hS (by intro w hw; have hcl := HK1.out w hw; go_simp; with_reducible rfl) ?_
    try simp only [Act.put, List.setIfInBounds_toArray, List.set_cons_zero, List.set_cons_succ]
    refine take 4 _ rfl (by kernel_rfl) (by kernel_rfl) (by kernel_rfl) (fun _ _ _ h => h) (by rfl) hS (by intro w hw; have hcl := HK2.out w hw; go_simp; with_reducible rfl) ?_
    try simp only [Act.put, List.setIfInBounds_toArray, List.set_cons_zero, List.set_cons_succ]
    refine take 8 _ rfl (by kernel_rfl) (by kernel_rfl) (by kernel_rfl) (fun _ _ _ h => h) (by rfl) hS (by intro w hw; have hcl := HK1.out w hw; go_simp; with_reducible rfl) ?_
    try simp only [Act.put, List.setIfInBounds_toArray, List.set_cons_zero, List.set_cons_succ]
    refine take 10 _ rfl (by kernel_rfl) (by kernel_rfl) (by kernel_rfl) (fun _ _ _ h => h) (by rfl) hS (by intro w hw; have hcl := HK2.out w hw; go_simp; with_reducible rfl) ?_
    try simp only [Act.put, List.setIfInBounds_toArray, List.set_cons_zero, List.set_cons_succ]
    skip
    skip
    refine alone 5 rfl (by kernel_rfl) (by rfl) ?_
    intro K hK
    go_simp
    refine HC1.out.mono ?_
    rintro e Y1 ⟨rfl, hY1, hk1⟩
    obtain ⟨F1, hl1⟩ := HLD.out.wheel hY1 hk1
    have ho1 : OneW t0 ⟨1, qo, qk, qt⟩ Y1 := hk1.whole (Whole.drew HO.out) HF.out
    have HC2 := Lib.hid (rclear_any hl1.re HSR.out HUN.out HLN.out qo qk)
    have HL1 := Lib.hid hl1
    have HO1 := Lib.hid ho1
    go_simp
    refine hK.out _ _ HO1.out ?_
    clear hK K hS hl1 ho1 hY1 hk1
    have hS := HO1.out
    try simp only [Act.put, List.setIfInBounds_toArray, List.set_cons_zero, List.set_cons_succ]
    skip
    refine alone 11 rfl (by kernel_rfl) (by rfl) ?_
    intro K hK
    go_simp
    refine HC2.out.mono ?_
    rintro e Y2 ⟨rfl, hY2, hk2⟩
    obtain ⟨G2, hl2⟩ := HL1.out.ref hY2 hk2
    have HO2 := Lib.hid (show OneW t0 ⟨1, qo, qk, qt⟩ Y2 from hk2.whole HO1.out HG.out)
    have HL2 := Lib.hid hl2
    go_simp
    refine hK.out _ _ HO2.out ?_
    clear hK K hS hl2 hY2 hk2
    have hS := HO2.out
    try simp only [Act.put, List.setIfInBounds_toArray, List.set_cons_zero, List.set_cons_succ]
    refine take 12 _ rfl (by kernel_rfl) (by kernel_rfl) (by kernel_rfl) (fun _ _ _ h => h) (by rfl) hS (by intro w _; go_simp; with_reducible rfl) ?_
    try simp only [Act.put, List.setIfInBounds_toArray, List.set_cons_zero, List.set_cons_succ]
    refine take 13 _ rfl (by kernel_rfl) (by kernel_rfl) (by kernel_rfl) (fun _ _ _ h => h) (by rfl) hS (by intro w _; go_simp; with_reducible rfl) ?_
    try simp only [Act.put, List.setIfInBounds_toArray, List.set_cons_zero, List.set_cons_succ]
    refine region_end (by kernel_rfl) ?_
    go_wp2_with fail
    go_ret
    exact ⟨rfl, _, _, _, _, HL2.out⟩
  by_cases h2 : qc = 2
  · subst h2
    clear h0 h1
    have HC1 := Lib.hid (clearAll_any HLD.out.wb.1 (fun i hi => (HLD.out.wb.2 i hi).2) qo)
    go_upto_region 7 with fail
    refine region_drew (fun V => OneW t0 ⟨2, qo, qk, qt⟩ V) (by kernel_rfl) (Whole.drew HO.out) (fun hS => ?_)
    refine take 0 _ rfl (by kernel_rfl) (by kernel_rfl) (by kernel_rfl) (fun _ _ _ h => h) (by rfl) hS (by intro w _; go_simp; with_reducible rfl) ?_
    try simp only [Act.put, List.setIfInBounds_toArray, List.set_cons_zero, List.set_cons_succ]
    refine take 1 _ rfl (by kernel_rfl) (by kernel_rfl) (by kernel_rfl) (fun _ _ _ h => h) (by rfl) hS (by intro w _; go_simp; with_reducible rfl) ?_
    try simp only [Act.put, List.setIfInBounds_toArray, List.set_cons_zero, List.set_cons_succ]
    refine take 4 _ rfl (by kernel_rfl) (by kernel_rfl) (by kernel_rfl) (fun _ _ _ h => h) (by rfl) hS (by intro w _; go_simp; with_reducible rfl) ?_
    try simp only [Act.put, List.setIfInBounds_toArray, List.set_cons_zero, List.set_cons_succ]
    refine take 5 _ rfl (by kernel_rfl) (by kernel_rfl) (by kernel_rfl) (fun _ _ _ h => h) (by rfl) hS (by intro w _; go_simp; with_reducible rfl) ?_
    try simp only [Act.put, List.setIfInBounds_toArray, List.set_cons_zero, List.set_cons_succ]
    refine take 2 _ rfl (by kernel_rfl) (by kernel_rfl) (by kernel_rfl) (fun _ _ _ h => h) (by rfl) hS (by intro w hw; have hcl := HK1.out w hw; go_simp; with_reducible rfl) ?_
    try simp only [Act.put, List.setIfInBounds_toArray, List.set_cons_zero, List.set_cons_succ]
    refine take 6 _ rfl (by kernel_rfl) (by kernel_rfl) (by kernel_rfl) (fun _ _ _ h => h) (by rfl) hS (by intro w hw; have hcl := HK1.out w hw; go_simp; with_reducible rfl) ?_
    try simp only [Act.put, List.setIfInBounds_toArray, List.set_cons_zero, List.set_cons_succ]
    skip
    skip
    skip
    skip
    refine alone 3 rfl (by kernel_rfl) (by rfl) ?_
    intro K hK
    go_simp
    refine HC1.out.mono ?_
    rintro e Y1 ⟨rfl, hY1, hk1⟩
    obtain ⟨F1, hl1⟩ := HLD.out.wheel (hY1.mono (fun _ _ h => .inl h)) hk1
    have ho1 : OneW t0 ⟨2, qo, qk, qt⟩ Y1 := hk1.whole (Whole.drew HO.out) HF.out
    have HC2 := Lib.hid (rclearAll_any hl1.re HLN.out qo)
    have HL1 := Lib.hid hl1
    have HO1 := Lib.hid ho1
    go_simp
    refine hK.out _ _ HO1.out ?_
    clear hK K hS hl1 ho1 hY1 hk1
    have hS := HO1.out
    try simp only [Act.put, List.setIfInBounds_toArray, List.set_cons_zero, List.set_cons_succ]
    skip
    refine alone 7 rfl (by kernel_rfl) (by rfl) ?_
    intro K hK
    go_simp
    refine HC2.out.mono ?_
    rintro e Y2 ⟨rfl, hY2, hk2⟩
    obtain ⟨G2, hl2⟩ := HL1.out.ref hY2 hk2
    have HO2 := Lib.hid (show OneW t0 ⟨2, qo, qk, qt⟩ Y2 from hk2.whole HO1.out HG.out)
    have HL2 := Lib.hid hl2
    go_simp
    refine hK.out _ _ HO2.out ?_
    clear hK K hS hl2 hY2 hk2
    have hS := HO2.out
    try simp only [Act.put, List.setIfInBounds_toArray, List.set_cons_zero, List.set_cons_succ]
    refine take 8 _ rfl (by kernel_rfl) (by kernel_rfl) (by kernel_rfl) (fun _ _ _ h => h) (by rfl) hS (by intro w _; go_simp; with_reducible rfl) ?_
    try simp only [Act.put, List.setIfInBounds_toArray, List.set_cons_zero, List.set_cons_succ]
    refine take 9 _ rfl (by kernel_rfl) (by kernel_rfl) (by kernel_rfl) (fun _ _ _ h => h) (by rfl) hS (by intro w _; go_simp; with_reducible rfl) ?_
    try simp only [Act.put, List.setIfInBounds_toArray, List.set_cons_zero, List.set_cons_succ]
    refine region_end (by kernel_rfl) ?_
    go_wp2_with fail
    go_ret
    exact ⟨rfl, _, _, _, _, HL2.out⟩
  by_cases h3 : qc = 3
  · subst h3
    clear h0 h1 h2
    have c3 : Y.cell? ⟨t0, 3, none⟩ = some (.int .i64 qt) := HO.out.cell 3
    by_cases hbad : ¬ right qt ∨ qt < n
    · have HC1 := Lib.hid (advance_bad HLW.out.wb.1 qt hbad)
      have HC2 := Lib.hid (radvance_bad HLW.out.re qt hbad)
      have HC3 := Lib.hid (as_any (w := Y) (A := none) (L := []) 0 (fun k x hx => by cases hx) (by decide))
      clear hbad
      go_wp2_with fail
      refine HC1.out.mono ?_
      rintro e Y1 ⟨rfl, rfl⟩
      go_wp2_with fail
      refine HC2.out.mono ?_
      rintro e Y1 ⟨rfl, rfl⟩
      go_wp2_with fail
      refine HC3.out.mono ?_
      rintro e Y3 ⟨A3, cc3, rfl, hr3, hb3⟩
      have HC4 := (same_any (w := Y3) (L := []) (M := []) (A := A3) (A2 := none) cc3 0 (fun k x hx => by cases hx) (fun k x hx => by cases hx) (by decide) (by decide))
      rw [decide_eq_true rfl] at HC4
      have HC4 := Lib.hid HC4
      have HL3 := Lib.hid (HLW.out.below hb3)
      clear hr3 hb3
      go_wp2_with fail
      refine HC4.out.mono ?_
      rintro e Y4 ⟨rfl, hb4⟩
      have HL4 := Lib.hid (HL3.out.below hb4)
      clear hb4
      go_wp2_with fail
      go_ret
      exact ⟨rfl, _, _, _, _, HL4.out⟩
    · have hr : right qt := Decidable.not_not.1 (fun c => hbad (.inl c))
      have hn : n ≤ qt := by omega
      have HRT := Lib.hid hr
      have HC1 := Lib.hid (advance_any HLW.out.wb.1 (fun i hi => (HLW.out.wb.2 i hi).2) qt hr hn)
      clear hbad hr
      go_wp2_with fail
      refine HC1.out.mono ?_
      rintro e Y1 ⟨E, R, A1, cc1, rfl, hER, hle, hgt, hro, hY1, hk1, _⟩
      have hEL : E.length ≤ 1000 := by have := HLN.out; rw [hER, List.length_append] at this; omega
      obtain ⟨F1, hl1⟩ := HLW.out.wheel (hY1.mono (fun _ _ h => .inl h)) hk1
      have ho1 : OneW t0 ⟨3, qo, qk, qt⟩ Y1 := hk1.whole HO.out HF.out
      have c4 : Y1.cell? ⟨t0, 3, none⟩ = some (.int .i64 qt) := ho1.cell 3
      have HL1 := Lib.hid hl1
      have HRO := Lib.hid hro
      have HC2 := Lib.hid (radvance_any hl1.re HLN.out qt HRT.out hn hER hle hgt)
      have HYS := Lib.hid hk1.size
      have HEL := Lib.hid hEL
      obtain ⟨m, hm⟩ : ∃ m, E.length = m := ⟨_, rfl⟩
      rw [hm] at HC2 ⊢
      have HM := Lib.hid hm
      clear hER hle hgt hro hY1 hk1 hl1 ho1 hEL hm HC1 c3
      go_wp2_with fail
      refine HC2.out.mono ?_
      rintro e Y2 ⟨A2, cc2, rfl, hro2, hY2, hk2⟩
      obtain ⟨G2, hl2⟩ := HL1.out.ref hY2 hk2
      have hro1 := own_fk' HRO.out hk2 (fun j e c => by
        have h1 := (own_lt' HRO.out j e).1
        have h2 := (HLW.out.rb j c).2
        omega)
      have HC3 := as_any (w := Y2) (A := A1) (L := E) cc1 (RdT.own hro1) HEL.out
      rw [HM.out] at HC3
      have HC3 := Lib.hid HC3
      have HL2 := Lib.hid hl2
      have HRO2 := Lib.hid hro2
      clear hro2 hY2 hk2 hl2 hro1 HC2 HL1 HRO c4
      go_wp2_with fail
      refine HC3.out.mono ?_
      rintro e Y3 ⟨A3, cc3, rfl, hr3, hb3⟩
      have hR2 : RdT Y3 A2 E := (RdT.own (c := cc2) (by rw [HM.out]; exact HRO2.out)).below hb3
      have hR3 : RdT Y3 A3 E := RdT.own (c := cc3) (by rw [HM.out]; exact hr3)
      have HC4 := same_any cc3 cc2 hR3 hR2 HEL.out HEL.out
      rw [decide_eq_true rfl, HM.out] at HC4
      have HC4 := Lib.hid HC4
      have HL3 := Lib.hid (HL2.out.below hb3)
      clear hr3 hb3 hR2 hR3 HC3
      go_wp2_with fail
      refine HC4.out.mono ?_
      rintro e Y4 ⟨rfl, hb4⟩
      have HL4 := Lib.hid (HL3.out.below hb4)
      clear hb4
      go_wp2_with fail
      go_ret
      exact ⟨rfl, _, _, _, _, HL4.out⟩
  · have d0 : (qc == 0) = false := by simp [h0]
    have d1 : (qc == 1) = false := by simp [h1]
    have d2 : (qc == 2) = false := by simp [h2]
    have d3 : (qc == 3) = false := by simp [h3]
    clear h0 h1 h2 h3
    go_wp2_with fail
    go_ret
    exact ⟨rfl, _, _, _, _, HLW.out⟩
end Wh
end Go.Proofs.Ytgbahkkccpcadaa
