/- gauge.Sort: the measures in a row of its own, sorted. -/
import Derived.Test.YteombmahglbeeaaGgNum
import Derived.Test.YteombmahglbeeaaGgLays
import Derived.Test.YteombmahglbeeaaGaugeAlive
import Derived.Test.YteombmahglbeeaaRowA
import Derived.Deep.QuietTactic
import Derived.Shelf.GgSortFunc.Tiny
namespace Go.Proofs.Yteombmahglbeeaa
namespace GgSort
open Go.ChangeShapes Go.WideShapes Go.ChangeAt Go.RowKit Go.Shelf Go.Sort
open Num Mem Words Chacha Aead Poly Quiet Fl Gauge RowV RowA

/-- cells of measures -/
def F (v : Nat) : Value := .float .f64 v
def fc (l : List Nat) : List Value := l.map F
theorem fc_length (l : List Nat) : (fc l).length = l.length := List.length_map ..
theorem fc_get {l : List Nat} {i : Nat} (h : i < l.length) : (fc l)[i]? = some (F l[i]) := by
  unfold fc
  rw [List.getElem?_map, List.getElem?_eq_getElem h]
  rfl
theorem fc_one (l : List Nat) : ∀ v ∈ fc l, v.oneCell' = true := by
  intro v hv
  obtain ⟨x, _, rfl⟩ := List.mem_map.1 hv
  rfl
theorem ordI_neg (x y : Nat) : decide (ordI x y < 0) = decide (place x < place y) := by
  rcases ordI_cases x y with ⟨h, e⟩ | ⟨h, e⟩ | ⟨h, e⟩
  · rw [e, decide_eq_true h]; rfl
  · rw [e]; exact (decide_eq_false (by omega)).symm
  · rw [e]; exact (decide_eq_false (by omega)).symm
noncomputable def siT : TypeInfo := (Try.prog.info? 22).get (by kernel_rfl)
noncomputable def siE : TypeInfo := (Try.prog.info? 25).get (by kernel_rfl)
theorem siK (n : Nat) (h2 : 2 ≤ n) : Lib.swapperK n siE 14 = 5 := by
  have a : siE.hasPointers = false := by kernel_rfl
  have b : siE.bytes = 8 := by kernel_rfl
  have c : (n == 0) = false := by simp; omega
  have d : (n == 1) = false := by simp; omega
  simp [Lib.swapperK, a, b, c, d]
set_option maxRecDepth 100000 in
theorem less_any (B C n : Nat) (G : Nat → Nat) (W : World) (hs : W.cell? ⟨C, 0, none⟩ = some (.slice (some ⟨B, 0, none⟩) n n))
    (hc : ∀ t, t < n → W.cell? ⟨B, 0 + t, none⟩ = some (.float .f64 (G t))) (hb : ∀ t, t < n → G t < 18446744073709551616) (i j : Nat) (hi : i < n) (hj : j < n) (_hsz : n < 4611686018427387904) :
    Calls Try.prog 21 #[.int .i64 i, .int .i64 j, .pointer (some ⟨C, 0, none⟩)] W fun e w' => e = .returned (.bool (decide (place (G i) < place (G j)))) ∧ ∃ q, w' = W.drewN q := by
  have ci := hc i hi
  have cj := hc j hj
  have C1 := Lib.hid (order_any (G i) (G j) (hb i hi) (hb j hj))
  rw [← ordI_neg]
  generalize ordI (G i) (G j) = v at *
  generalize G i = x at *
  generalize G j = y at *
  clear hb hc
  simp only [Nat.zero_add] at ci cj
  go_enter Try.func21, Try.ntmps21
  go_wp2
  go_quiet ((go_at_call 14; refine Calls.quiet_of_same (Calls.mono (C1.out _) (fun e w' h => ⟨h.1, h.2.symm⟩))))
  go_wp2
  go_ret
  exact ⟨rfl, nq, rfl⟩
/-- a row of measures, put anew -/
theorem whole_putRow {w : World} {B n : Nat} {t : TypeId} {L : List Value} (hw : Whole w B t L.toArray) (d : Array D64) (hn : L.length = n) (hd : d.size = n) : Whole (putRow (fun x : D64 => F x.val) w B 0 d) B t (fc (d.toList.map (·.val))).toArray := by
  unfold Whole at hw ⊢
  unfold putRow mapBlock
  rw [Array.getElem?_modify, if_pos rfl, hw]
  show some (Obj.cells _ _ _) = some (Obj.cells _ _ _)
  congr 2
  unfold putCells fc
  apply Array.ext
  · simp; omega
  · intro i h1 h2
    simp at h1
    have hi : i < d.size := by omega
    simp [hi]
theorem below_putRow {w : World} {B C : Nat} (d : Array D64) (h : C ≤ B) : Below C w (putRow (fun x : D64 => F x.val) w B 0 d) := by
  refine ⟨rfl, rfl, rfl, by simp [putRow, mapBlock], fun k hk => ?_⟩
  unfold putRow mapBlock
  rw [Array.getElem?_modify, if_neg (by omega)]
theorem whole_growS {w : World} {B : Nat} {t : TypeId} {cs : Array Value} (h : Whole w B t cs) (os : Array Obj) : Whole (Sort.grow w os) B t cs := by
  have hl := h.lt
  unfold Whole at h ⊢
  rw [heap_grow_old w os hl]
  exact h
theorem below_growS {w : World} {B : Nat} (hB : B ≤ w.heap.size) (os : Array Obj) : Below B w (Sort.grow w os) :=
  ⟨rfl, rfl, rfl, by rw [size_grow]; omega, fun k hk => heap_grow_old w os (by omega)⟩
theorem below_ahead (w : World) (B n : Nat) : Below B w (Sort.ahead w n) := ⟨rfl, rfl, rfl, Nat.le_refl _, fun _ _ => rfl⟩
set_option maxRecDepth 100000 in
set_option maxHeartbeats 2000000 in
theorem slice_any (B C n : Nat) (l : List Nat) (hl : Wd l) (hn : l.length = n) (hsz : n ≤ 200) (hBC : B < C) (W : World) (hW : Whole W B 25 (fc l).toArray) (hC : C < W.heap.size) (hs : W.cell? ⟨C, 0, none⟩ = some (.slice (some ⟨B, 0, none⟩) n n)) :
    Calls Try.prog 20 #[.iface 22 (.slice (some ⟨B, 0, none⟩) n n), .func (.func 21) #[] #[.pointer (some ⟨C, 0, none⟩)]] W fun e w' =>
      e = .returned (.tuple #[]) ∧ ∃ t, Srt l t ∧ Whole w' B 25 (fc t).toArray ∧ w'.cell? ⟨C, 0, none⟩ = some (.slice (some ⟨B, 0, none⟩) n n) ∧ Below B W w' := by
  by_cases h1 : n ≤ 1
  · have hS := Any.sort_Slice_tiny GgLays.l6 22 25 siT siE (by kernel_rfl) (by kernel_rfl) (by kernel_rfl) (by kernel_rfl) 14 (fun _ => by kernel_rfl) (some ⟨B, 0, none⟩) n n h1
      (bif Nat.beq n 0 then 43 else 44) (by
        rcases n with _ | _ | n
        · kernel_rfl
        · kernel_rfl
        · omega) (.func 21) #[] #[.pointer (some ⟨C, 0, none⟩)] W
    change Calls Try.prog 20 _ _ _ at hS
    refine hS.mono ?_
    rintro e w' ⟨rfl, os, rfl⟩
    refine ⟨rfl, l, ⟨List.Perm.refl _, ?_⟩, whole_growS hW os, ?_, below_growS (Nat.le_of_lt hW.lt) os⟩
    · rcases l with _ | ⟨a, _ | ⟨b, l⟩⟩
      · exact List.Pairwise.nil
      · exact List.pairwise_singleton _ _
      · simp at hn; omega
    · rw [cell?_grow _ _ _ hC]; exact hs
  · have h2 : 2 ≤ n := by omega
    have hdn : (toD l).size = n := by rw [toD_size, hn]
    have hB := hW.lt
    have hH : Holds (fun x : D64 => F x.val) W B 0 (toD l) := by
      intro j hj
      have hj2 : j < l.length := by rw [hn, ← hdn]; exact hj
      rw [Nat.zero_add]
      refine ⟨?_, hW.free j⟩
      rw [hW.cell, List.getElem?_toArray, fc_get hj2]
      show some (F _) = some (F _)
      rw [toD_get hl hj2]
    have hless : LessReads Try.prog 21 #[.pointer (some ⟨C, 0, none⟩)] (fun x : D64 => F x.val) lessD B 0 (toD l).size W := by
      intro m os dk hs2 i j hi hj
      have e : sortWorld (fun x : D64 => F x.val) W B 0 m dk os = putRow (fun x : D64 => F x.val) (Sort.grow (Sort.ahead W m) os) B 0 dk := by
        unfold sortWorld; rw [putRow_grow _ (Sort.ahead W m) _ B 0 _ hB]
      have hHg : Holds (fun x : D64 => F x.val) (Sort.grow (Sort.ahead W m) os) B 0 (toD l) := holds_grow _ _ _ B 0 _ hB (holds_ahead _ _ _ _ _ _ hH)
      refine less_any B C n (fun t => (dk[t]!).val) _ ?_ (fun t ht => ?_) (fun t _ => (dk[t]!).isLt) i j (by omega) (by omega) (by omega)
      · rw [e, cell?_putRow_other _ _ B 0 dk _ (Or.inl (by show C ≠ B; omega)), cell?_grow _ _ _ (by show C < W.heap.size; exact hC)]
        exact hs
      · rw [e]; exact cell?_putRow _ _ B 0 (toD l) dk hHg hs2 t (by omega)
    have hS := Any.sort_Slice_sorted GgLays.l6 22 25 siT siE (by kernel_rfl) (by kernel_rfl) (by kernel_rfl) (by kernel_rfl) 14 (fun _ => by kernel_rfl) (by kernel_rfl) (fun _ => by kernel_rfl) (fun x : D64 => F x.val) (fun _ => rfl) lessD swo_lessD 21 _
      (enters_of Try.func21 (by kernel_rfl) rfl) B 0 n (toD l) (by omega) (by omega) 47 (by rw [siK _ (by omega)]; kernel_rfl) true
      (fun args W => run_callFunc_extern Try.func47 (by kernel_rfl) (by kernel_rfl) (by kernel_rfl) (e := Extern.ReflectliteSwapper.swap true) (by kernel_rfl) args W) _ hless hH hB
    rw [hdn] at hS
    change Calls Try.prog 20 _ _ _ at hS
    refine hS.mono ?_
    rintro e w' ⟨rfl, d, m, os, hP, hSo, rfl⟩
    rw [← hdn] at hP hSo
    have hds : d.size = n := by rw [hP.1, hdn]
    have hW2 : Whole (Sort.ahead W m) B 25 (fc l).toArray := hW
    refine ⟨rfl, _, srt_of hl hP hSo, whole_growS (whole_putRow hW2 d (by rw [fc_length, hn]) hds) os, ?_, ?_⟩
    · rw [cell?_grow _ _ _ (by simpa [putRow, mapBlock] using hC), cell?_putRow_other _ _ B 0 d _ (Or.inl (by show C ≠ B; omega))]
      exact hs
    · exact ((below_ahead W B m).trans (below_putRow d (Nat.le_refl _))).trans (below_growS (by simp [putRow, mapBlock]; exact Nat.le_of_lt hB) os)
/-- what a row of n measures is made as -/
theorem made_flts (n : Nat) (hn : n ≤ 140737488355) (w : World) :
    (Instr.makeSlice 22 (.int .i64 n) (.int .i64 n)).run Try.prog w = .ok (.slice (some ⟨w.heap.size, 0, none⟩) n n) (w.alloc (.cells (fc (List.replicate n 0)).toArray 25)) := by
  obtain ⟨i0, hi, hz0, hz1, hz2⟩ := info_parts (show (Try.prog.info? 25).map (fun i => (i.zero, i.size, i.bytes)) = some (some (.float .f64 0), 1, 8) by kernel_rfl)
  rw [run_make w 22 25 i0 (.float .f64 0) Try.underlying22 hi hz0 .i64 .i64 n n (by omega) (by omega) (by rw [hz2]; omega) (by omega)]
  have e : madeCells (Value.float .f64 0).cells (((n : Int)).toNat * i0.size) = (fc (List.replicate n 0)).toArray := by
    rw [hz1]
    apply Array.ext_getElem?
    intro i
    by_cases hi : i < n <;> simp [madeCells, Value.cells, fc, F, hi, Nat.mod_one]
  rw [e]
  rfl
theorem rdv_copy {w : World} {A : Option Addr} {l : List Nat} (h : RdV w A (fc l)) (h0 : 0 < l.length) : ∃ ad, A = some ad ∧ ∀ j v, (fc l)[j]? = some v → w.cell? (ad.add j) = some v := by
  rcases h with h | ⟨b, off, e, hb, hx⟩
  · have := congrArg List.length h
    rw [fc_length, List.length_nil] at this
    omega
  · refine ⟨_, e, fun j v hv => ?_⟩
    have hadd : (⟨b, off, none⟩ : Addr).add j = ⟨b, off + j, none⟩ := by unfold Addr.add; split <;> simp_all
    rw [hadd]
    exact hx j v hv
theorem splice_all (L cs : List Value) (h : L.length = cs.length) : splice L 0 cs = cs := by
  unfold splice
  rw [List.take_zero, List.nil_append, Nat.zero_add, ← h, List.drop_length, List.append_nil]

/-- what is copied over, the row it lies in alone turned -/
theorem copy_grown {P : Program} {w : World} {ops : Array Oper} {rest : List Oper} {o : Oper} {a : Act} {Q : Exit → Act → World → Prop} (hgd : o.guard = none) (d s : Operand) (dT sT : TypeId)
    (ho : o.op = .call { callee := .builtin .copy, args := #[d, s], argTypes := #[dT, sT] }) (elem : TypeId) (hu : P.underlying dT = some (.slice elem)) (hsz : (P.info? elem).map (·.size) = some 1)
    (g dCap n sCap : Nat) (sp : Option Addr) (hd : a.eval d = .slice (some ⟨g, 0, none⟩) n dCap) (hs : a.eval s = .slice sp n sCap)
    (cur cs : List Value) (t : TypeId) (hg : w.heap[g]? = some (.cells cur.toArray t (0, 0))) (hn : cs.length = n) (hc : cur.length = n)
    (hpos : 0 < cs.length → ∃ ad, sp = some ad ∧ ∀ j v, cs[j]? = some v → w.cell? (ad.add j) = some v) (h1 : ∀ v ∈ cs, v.oneCell' = true)
    (h : ∀ w', Whole w' g t cs.toArray → w.grownBy w' (some g) → wpList P ops Q rest (a.put o.dst (goInt cs.length)) w') : wpList P ops Q (o :: rest) a w := by
  by_cases h0 : cs.length = 0
  · obtain rfl : cs = [] := List.eq_nil_of_length_eq_zero h0
    obtain rfl : n = 0 := hn.symm
    obtain rfl : cur = [] := List.eq_nil_of_length_eq_zero hc
    exact wpList_copy_nothing hgd d s dT sT ho elem hu hsz _ sp 0 dCap 0 sCap hd hs rfl (h w hg ⟨rfl, rfl, rfl, Nat.le_refl _, fun _ _ _ => rfl⟩)
  · obtain ⟨ad, rfl, hsrc⟩ := hpos (by omega)
    refine wpList_copy_own hgd d s dT sT ho elem hu hsz g 0 n dCap ad n sCap hd hs cur.toArray t hg cs (by rw [hn]; exact (Nat.min_self n).symm) hsrc (by simp; omega) h1 ?_
    refine h _ ?_ (grown_setRow w g _)
    have e : (cur.toArray.toList.take 0 ++ (cs ++ cur.toArray.toList.drop (0 + cs.length))).toArray = cs.toArray := by
      rw [List.take_zero, List.nil_append, Nat.zero_add, hn, ← hc, List.drop_length, List.append_nil]
    rw [e]
    exact setRow_heap w g _ _ t _ hg

set_option maxRecDepth 100000 in
set_option maxHeartbeats 2000000 in
theorem sort_any (A : Option Addr) (n c : Nat) (l : List Nat) (hl : Wd l) (hn : l.length = n) (hsz : n ≤ 200) (w : World) (hr : RdV w A (fc l)) :
    Calls Try.prog 6 #[.slice A n c] w fun e w' => ∃ g t, e = .returned (.slice (some ⟨g, 0, none⟩) n n) ∧ Srt l t ∧ w.heap.size ≤ g ∧ Whole w' g 25 (fc t).toArray ∧ Below w.heap.size w w' := by
  have HM := Lib.hid (fun W => made_flts n (by omega) W)
  have hm := HM.out w
  have HR := Lib.hid hr
  have HL := Lib.hid hl
  have HN := Lib.hid hn
  have HC := Lib.hid (fun h => slice_any w.heap.size (w.heap.size + 1) n l hl hn hsz h)
  clear hr hl hn
  go_enter Try.func6, Try.ntmps6
  go_upto_region 2 with fail
  clear hm
  refine cut_world (fun W => Whole W w.heap.size 25 (fc (List.replicate n 0)).toArray ∧ Whole W (w.heap.size + 1) 22 #[.slice (some ⟨w.heap.size, 0, none⟩) n n] ∧ Below w.heap.size w W) ⟨Whole.alloc (whole_new _ _ rfl) _, whole_new _ _ (by simp), below_alloc (below_alloc (Below.refl _ _) _) _⟩ ?_
  obtain ⟨B, hB⟩ : ∃ B, w.heap.size = B := ⟨_, rfl⟩
  rintro W ⟨h1, h2, h3⟩
  have HR2 := Lib.hid (HR.out.below h3 (Nat.le_refl _))
  rw [hB] at HC h1 h2 h3 ⊢
  have HB := Lib.hid hB
  clear hB HR HM
  have K1 := Lib.hid h1
  have K2 := Lib.hid h2
  have KB := Lib.hid h3
  have hc := h2.cell 0
  have hc2 : W.cell? ⟨B + 1, 0, none⟩ = some (.slice (some ⟨B, 0, none⟩) n n) := hc
  clear hc h1 h2 h3
  go_upto_region 3 with (refine copy_grown rfl (.tmp 7) (.tmp 8) 22 22 rfl 25 rfl (by kernel_rfl) B n n c A rfl rfl (fc (List.replicate n 0)) (fc l) 25 K1.out (by rw [fc_length, HN.out]) (by rw [fc_length, List.length_replicate]) (fun h0 => rdv_copy HR2.out (by rw [← fc_length]; exact h0)) (fc_one _) ?_; intro w2 hg2 hb2)
  replace K2 := Lib.hid (whole_grown K2.out hb2 (by omega))
  replace K1 := Lib.hid hg2
  replace KB := Lib.hid (below_grown KB.out hb2 (Nat.le_refl _) (Nat.le_trans (Nat.le_of_eq HB.out.symm) KB.out.size))
  clear hg2 hb2 hc2
  simp only [Act.put, List.setIfInBounds_toArray, List.set_cons_zero, List.set_cons_succ]
  have hc := K2.out.cell 0
  have hc2 : w2.cell? ⟨B + 1, 0, none⟩ = some (.slice (some ⟨B, 0, none⟩) n n) := hc
  clear hc
  go_wp2_with (refine (HC.out (Nat.lt_succ_self _) w2 K1.out K2.out.lt hc2).mono ?_; rintro e w3 ⟨rfl, t, h1, h2, h3, h4⟩; clear hc2)
  go_ret
  exact ⟨_, _, rfl, h1, Nat.le_of_eq HB.out, h2, (KB.out.trans h4).mono (Nat.le_of_eq HB.out)⟩
end GgSort
end Go.Proofs.Yteombmahglbeeaa
