/- The document's own feed: New rows; Watch; push. -/
import Derived.Test.YtlbfjdpcnnplnaaRfRef
namespace Go.Proofs.Ytlbfjdpcnnplnaa
namespace Fee
open Go.ChangeShapes Go.WideShapes Go.ChangeAt Go.RowKit Go.Maps
open Num Mem Words Chacha Aead Poly Quiet RowV RowS

section
variable {P : Program} {o : Oper} {a : Act} {w : World} {B k c : Nat} {A : Option Addr} {xs : List Value}
theorem run_catG (us : List Value) (size m : Nat) (t ty e : TypeId) (z : Value) (by_ : Nat)
    (ht : P.underlying t = some (.slice e)) (hinfo : (P.info? e).map (fun i => (i.zero, i.size, i.bytes)) = some (some z, size, by_)) (hz : z.cells.size = size) (h0 : 0 < size)
    (own : w.ownsRow B e size (.slice A k c) k xs) (hB : B ≤ w.heap.size) (ad : Addr) (cx : Nat)
    (hl : us.length = m * size) (hc : ∀ j u, us[j]? = some u → w.cell? (ad.add j) = some u) (h1 : ∀ u ∈ us, u.oneCell' = true) (hk : (k + m) * by_ ≤ 140737488355328) (hk2 : k + m ≤ 140737488355328) :
    ∃ A' c' w', (Builtin.append_ #[t, t] ty #[.slice A k c, .slice (some ad) m cx]).run P w = .ok (.slice A' (k + m) c') w' ∧ w'.ownsRow B e size (.slice A' (k + m) c') (k + m) (xs ++ us) ∧ w.grownBy w' (ownA A) ∧ (ownA A' = ownA A ∨ ownA A' = some w.heap.size) := by
  obtain ⟨i0, hi, hz0, hz1, hz2⟩ := info_parts hinfo
  obtain ⟨v', w', hr, h2, h3, _, h5⟩ := run_append_own_at (P := P) w B t ty e i0 z size by_ ht hi hz0 hz1 hz2 hz h0 (.slice A k c) k xs own ad m cx us hl hc h1 (by simp only [maxLen]; omega) hk hB
  rw [own_b] at h3 h5
  rcases h2.2 with ⟨rfl, h0⟩ | ⟨g, cap, cur, rfl, r⟩
  · rw [h0] at h2
    exact ⟨none, 0, w', by rw [h0]; exact hr, by rw [h0]; exact h2, h3, by rw [show ownA none = none from rfl]; exact h5⟩
  · exact ⟨some ⟨g, 0, none⟩, cap, w', hr, h2, h3, h5⟩
theorem wp_catG {K : Act → World → Prop} {Q : Exit → Act → World → Prop} (us : List Value) (size m : Nat) (s x : Operand) (t e : TypeId) (z : Value) (by_ : Nat)
    (ht : P.underlying t = some (.slice e)) (hinfo : (P.info? e).map (fun i => (i.zero, i.size, i.bytes)) = some (some z, size, by_)) (hz : z.cells.size = size) (h0 : 0 < size)
    (ho : o.op = .call { callee := .builtin .append, args := #[s, x], argTypes := #[t, t] })
    (hs : a.eval s = .slice A k c) (ad : Addr) (cx : Nat) (hx : a.eval x = .slice (some ad) m cx) (own : w.ownsRow B e size (.slice A k c) k xs) (hB : B ≤ w.heap.size)
    (hl : us.length = m * size) (hc : ∀ j u, us[j]? = some u → w.cell? (ad.add j) = some u) (h1 : ∀ u ∈ us, u.oneCell' = true) (hk : (k + m) * by_ ≤ 140737488355328) (hk2 : k + m ≤ 140737488355328)
    (h : ∀ A' c' w', w'.ownsRow B e size (.slice A' (k + m) c') (k + m) (xs ++ us) → w.grownBy w' (ownA A) → (ownA A' = ownA A ∨ ownA A' = some w.heap.size) → K (a.put o.dst (.slice A' (k + m) c')) w') : o.wp P a w K Q := by
  obtain ⟨A', c', w', hr, h2, h3, h4⟩ := run_catG (P := P) us size m t o.type e z by_ ht hinfo hz h0 own hB ad cx hl hc h1 hk hk2
  unfold Oper.wp execOp
  simp only [ho, resolve, invoke, builtin, Sem.run_bind, Sem.run_pure, Result.andThen_ok, List.map_toArray, List.map_cons, List.map_nil, hs, hx, hr]
  exact h A' c' w' h2 h3 h4
theorem wpList_catG {ops : Array Oper} {rest : List Oper} {Q : Exit → Act → World → Prop} (hgd : o.guard = none) (us : List Value) (size m : Nat) (s x : Operand) (t e : TypeId) (z : Value) (by_ : Nat)
    (ht : P.underlying t = some (.slice e)) (hinfo : (P.info? e).map (fun i => (i.zero, i.size, i.bytes)) = some (some z, size, by_)) (hz : z.cells.size = size) (h0 : 0 < size)
    (ho : o.op = .call { callee := .builtin .append, args := #[s, x], argTypes := #[t, t] })
    (hs : a.eval s = .slice A k c) (ad : Addr) (cx : Nat) (hx : a.eval x = .slice (some ad) m cx) (own : w.ownsRow B e size (.slice A k c) k xs) (hB : B ≤ w.heap.size)
    (hl : us.length = m * size) (hc : ∀ j u, us[j]? = some u → w.cell? (ad.add j) = some u) (h1 : ∀ u ∈ us, u.oneCell' = true) (hk : (k + m) * by_ ≤ 140737488355328) (hk2 : k + m ≤ 140737488355328)
    (h : ∀ A' c' w', w'.ownsRow B e size (.slice A' (k + m) c') (k + m) (xs ++ us) → w.grownBy w' (ownA A) → (ownA A' = ownA A ∨ ownA A' = some w.heap.size) → wpList P ops Q rest (a.put o.dst (.slice A' (k + m) c')) w') : wpList P ops Q (o :: rest) a w :=
  wpList_plain hgd fun _ hK => wp_catG us size m s x t e z by_ ht hinfo hz h0 ho hs ad cx hx own hB hl hc h1 hk hk2 (fun A' c' w' h2 h3 h4 => hK _ _ (h A' c' w' h2 h3 h4))
end
theorem info_row : (Try.prog.info? 58).map (fun i => (i.zero, i.size, i.bytes)) = some (some (.agg #[.int .u64 0, .slice none 0 0, .int .u64 0]), 3, 40) := by kernel_rfl
theorem info_ritem : (Try.prog.info? 81).map (fun i => (i.zero, i.size, i.bytes)) = some (some (.agg (itL ⟨noEv, 0⟩).toArray), 35, 56) := by kernel_rfl
theorem row_built (id : Nat) : Try.prog.built 58 [(0, .int .u64 (id : Nat))] = some #[.int .u64 (id : Nat), .slice none 0 0, .int .u64 0] := by kernel_rfl
theorem row_row (id : Nat) : Try.prog.builtSlice 58 1 [(0, .agg #[.int .u64 (id : Nat), .slice none 0 0, .int .u64 0])] = some #[.int .u64 (id : Nat), .slice none 0 0, .int .u64 0] := by kernel_rfl
theorem wp_rowOne {P : Program} {o : Oper} {a : Act} {w : World} {K : Act → World → Prop} {Q : Exit → Act → World → Prop} (t e : TypeId) (x : Operand) (ho : o.op = .buildSlice t 1 #[(0, x)])
    (v : Value) (hx : a.eval x = v) (hu : P.underlying t = some (.slice e)) (cells : Array Value) (hb : P.builtSlice e 1 [(0, v)] = some cells)
    (h : K (a.put o.dst (.slice (some ⟨w.heap.size, 0, none⟩) 1 1)) (w.alloc (.cells cells e))) : o.wp P a w K Q := by
  have e1 : P.builtSlice e 1 ((#[(0, x)] : Array (Nat × Operand)).map fun (i, x) => (i, a.eval x)).toList = some cells := by simpa [hx] using hb
  exact wp_buildSliceTo t e 1 _ ho hu cells e1 h
theorem lat {R : List RR} : R.length = (stR R).length := (stR_length R).symm
set_option maxRecDepth 100000 in
theorem rwatch_full {w : World} {B : Nat} {G : Nat → Prop} {x last : Nat} {S : St} (h : RF w B G x S last) (hS : 8 ≤ S.length) (hS2 : S.length ≤ 1000) : Calls Try.prog 10 #[.pointer (some ⟨x, 0, none⟩)] w fun e w' => e = .returned (.tuple #[.int .u64 0, .int .i64 5]) ∧ w = w' := by
  obtain ⟨R, A, c, h1, rfl, _⟩ := h
  rw [stR_length] at hS hS2
  have c0 : w.cell? ⟨x, 0, none⟩ = some (.slice A R.length c) := h1.obj.cell 0
  generalize R.length = n at *
  have hd : (8 : Int) ≤ (n : Int) := by omega
  clear h1
  go_enter Try.func10, Try.ntmps10
  go_wp2_with fail
  go_ret2
  exact ⟨rfl, rfl⟩
/-- what a call may leave of the document's feed -/
def RFk (w w' : World) (B : Nat) (G : Nat → Prop) (x : Nat) (S : St) (last : Nat) : Prop := ∃ G', RF w' B G' x S last ∧ (∀ i, i < w.heap.size → G' i → G i) ∧ Fk G w w'
theorem Fk.grownA {F : Nat → Prop} {w w' : World} {A : Option Addr} {B e size n c : Nat} {xs : List Value} (h : w.grownBy w' (ownA A)) (hown : w.ownsRow B e size (.slice A n c) n xs) (he : e ≠ 66) (hF : ∀ j, ownA A = some j → F j) : Fk F w w' := by
  cases hA : ownA A with
  | none =>
    rw [hA] at h
    exact Fk.of_below ⟨h.os, h.tape, h.output, h.size, fun i hi => h.block i hi (by simp)⟩
  | some g =>
    rw [hA] at h
    obtain ⟨cs, hw⟩ := own_type hown (j := g) (by rw [own_b]; exact hA)
    exact Fk.grown h hw (hF g hA) he
theorem RW.row_ne {w : World} {B : Nat} {G : Nat → Prop} {x last c : Nat} {R : List RR} {A : Option Addr} (h : RW w B G x R A c last) {r : RR} (hr : r ∈ R) {j : Nat} (hj : ownA r.A = some j) : ownA A ≠ some j ∧ j ≠ x := by
  obtain ⟨cs, hw⟩ := own_type (h.its r hr) (j := j) (by rw [own_b]; exact hj)
  refine ⟨fun e => ?_, fun e => ?_⟩
  · obtain ⟨ds, hd⟩ := own_type h.row (j := j) (by rw [own_b]; exact e)
    exact absurd (whole_type hw hd) (by decide)
  · subst e
    exact absurd (whole_type hw h.obj) (by decide)
theorem RW.own_ne {w : World} {B : Nat} {G : Nat → Prop} {x last c : Nat} {R : List RR} {A : Option Addr} (h : RW w B G x R A c last) : ownA A ≠ some x := fun e => by
  obtain ⟨ds, hd⟩ := own_type h.row (j := x) (by rw [own_b]; exact e)
  exact absurd (whole_type hd h.obj) (by decide)
set_option maxRecDepth 100000 in
set_option maxHeartbeats 1000000 in
theorem rwatch_ok {w : World} {B : Nat} {G : Nat → Prop} {x last : Nat} {S : St} (h : RF w B G x S last) (hS : S.length < 8) (hl : last ≤ 1000000000) : Calls Try.prog 10 #[.pointer (some ⟨x, 0, none⟩)] w fun e w' => e = .returned (.tuple #[.int .u64 (last + 1 : Nat), .int .i64 0]) ∧ RFk w w' B G x (S ++ [(last + 1, ⟨[], 0⟩)]) (last + 1) := by
  obtain ⟨R, A, c, h1, rfl, hG⟩ := h
  rw [stR_length] at hS
  have c0 : w.cell? ⟨x, 0, none⟩ = some (.slice A R.length c) := h1.obj.cell 0
  have c1 : w.cell? ⟨x, 1, none⟩ = some (.int .u64 (last : Nat)) := h1.obj.cell 1
  have f1 : w.frozen? ⟨x, 1, none⟩ = false := h1.obj.free 1
  have H := Lib.hid h1
  have HG := Lib.hid hG
  obtain ⟨n, hn⟩ : ∃ n, R.length = n := ⟨_, rfl⟩
  rw [hn] at c0 hS
  have HN := Lib.hid hn
  have hd : ¬ (8 : Int) ≤ (n : Int) := by omega
  have hw1 : IntKind.u64.wrap ((last : Int) + 1) = (last : Int) + 1 := by rw [IntKind.wrap_u64]; omega
  obtain ⟨k, hk⟩ : ∃ k, last + 1 = k := ⟨_, rfl⟩
  have hk2 : (last : Int) + 1 = (k : Int) := by omega
  rw [hk]
  have HK := Lib.hid hk
  clear h1 hG hn hk
  go_enter Try.func10, Try.ntmps10
  go_upto_region 4 with fail
  try rw [hk2]
  have hg1 := grown_cell1 w x 1 (.int .u64 (k : Nat))
  obtain ⟨W, hW⟩ : ∃ W, w.setCell ⟨x, 1, none⟩ (.int .u64 (k : Nat)) = W := ⟨_, rfl⟩
  rw [hW] at hg1 ⊢
  have hob := H.out.obj.put 1 (.int .u64 (k : Nat))
  rw [hW] at hob
  have HR := Lib.hid (show RW W B G x R A c k from
    { H.out with
      obj := by rw [HN.out] at hob ⊢; exact hob
      row := own_keep2 H.out.row fun j cs e hw => (hg1.block j hw.lt (fun e2 => by injection e2 with e2; subst e2; exact H.out.own_ne (by rw [← own_b A R.length c]; exact e))).trans hw
      its := fun r hr => own_keep2 (H.out.its r hr) fun j cs e hw => (hg1.block j hw.lt (fun e2 => (H.out.row_ne hr (by rw [← own_b r.A r.x.L.length r.c]; exact e)).2 (by injection e2 with e2))).trans hw })
  have HG1 := Lib.hid hg1
  have HSZ := Lib.hid (show W.heap.size = w.heap.size by rw [← hW]; simp)
  have c0 : W.cell? ⟨x, 0, none⟩ = some (.slice A n c) := by rw [← HN.out]; exact HR.out.obj.cell 0
  have c1 : W.cell? ⟨x, 1, none⟩ = some (.int .u64 (k : Nat)) := HR.out.obj.cell 1
  have HB := Lib.hid (row_built k)
  have HBR := Lib.hid (row_row k)
  clear hob hg1 hW hw1 hk2 f1
  go_cut [] (fun Z => ∃ A' c' Y, Y.ownsRow B 58 3 (.slice A' (n + 1) c') (n + 1) (flatR R ++ rrL ⟨k, none, 0, ⟨[], 0⟩⟩) ∧ (W.drew.alloc (.cells #[.int .u64 (k : Nat), .slice none 0 0, .int .u64 0] 58)).grownBy Y (ownA A) ∧ (ownA A' = ownA A ∨ ownA A' = some (W.heap.size + 1)) ∧ Z = Y.setCell ⟨x, 0, none⟩ (.slice A' (n + 1) c'))
  case first =>
    refine region_drew (fun V => V.cell? ⟨x, 1, none⟩ = some (.int .u64 (k : Nat))) (by kernel_rfl) c1 (fun hS => ?_)
    refine take 0 _ rfl (by kernel_rfl) (by kernel_rfl) (by kernel_rfl) (fun _ _ _ h => h) (by rfl) hS (by intro w _; go_simp; with_reducible rfl) ?_
    try simp only [Act.put, List.setIfInBounds_toArray, List.set_cons_zero, List.set_cons_succ]
    refine take 1 _ rfl (by kernel_rfl) (by kernel_rfl) (by kernel_rfl) (fun _ _ _ h => h) (by rfl) hS (by intro w _; go_simp; with_reducible rfl) ?_
    try simp only [Act.put, List.setIfInBounds_toArray, List.set_cons_zero, List.set_cons_succ]
    refine take 2 _ rfl (by kernel_rfl) (by kernel_rfl) (by kernel_rfl) (fun _ _ _ h => h) (by rfl) hS (by intro w _; go_simp; with_reducible rfl) ?_
    try simp only [Act.put, List.setIfInBounds_toArray, List.set_cons_zero, List.set_cons_succ]
    refine take 3 _ rfl (by kernel_rfl) (by kernel_rfl) (by kernel_rfl) (fun _ _ _ h => h) (by rfl) hS (by intro w _; go_simp; with_reducible rfl) ?_
    try simp only [Act.put, List.setIfInBounds_toArray, List.set_cons_zero, List.set_cons_succ]
    refine take 5 _ rfl (by kernel_rfl) (by kernel_rfl) (by kernel_rfl) (fun _ _ _ h => h) (by rfl) hS (by intro w _; go_simp; with_reducible rfl) ?_
    try simp only [Act.put, List.setIfInBounds_toArray, List.set_cons_zero, List.set_cons_succ]
    refine take 6 _ rfl (by kernel_rfl) (by kernel_rfl) (by kernel_rfl) (fun _ _ _ h => h) (by rfl) hS (by intro w _; go_simp; with_reducible rfl) ?_
    try simp only [Act.put, List.setIfInBounds_toArray, List.set_cons_zero, List.set_cons_succ]
    refine take 7 _ rfl (by kernel_rfl) (by kernel_rfl) (by kernel_rfl) (fun _ _ _ h => h) (by rfl) hS (by intro w _; go_simp; with_reducible rfl) ?_
    try simp only [Act.put, List.setIfInBounds_toArray, List.set_cons_zero, List.set_cons_succ]
    refine take 8 _ rfl (by kernel_rfl) (by kernel_rfl) (by kernel_rfl) (fun _ _ _ h => h) (by rfl) hS (by intro w hw; have hcl := hw; go_simp; with_reducible rfl) ?_
    try simp only [Act.put, List.setIfInBounds_toArray, List.set_cons_zero, List.set_cons_succ]
    refine take 9 (.agg #[.int .u64 (k : Nat), .slice none 0 0, .int .u64 0]) rfl (by kernel_rfl) (by kernel_rfl) (by kernel_rfl) (fun _ _ _ h => h) (by rfl) hS (fun w hw => run_built1 58 0 (.tmp 26) rfl (.int .u64 (k : Nat)) rfl _ HB.out) ?_
    try simp only [Act.put, List.setIfInBounds_toArray, List.set_cons_zero, List.set_cons_succ]
    refine ready_two 4 10 rfl rfl (by kernel_rfl) (by rfl) (by rfl) ?_ ?_
    · intro K hK
      go_simp
      refine hK.out _ _ hS ?_
      clear hK K
      try simp only [Act.put, List.setIfInBounds_toArray, List.set_cons_zero, List.set_cons_succ]
      refine alone 10 rfl (by kernel_rfl) (by rfl) ?_
      intro K hK
      refine wp_rowOne 27 58 (.tmp 27) rfl (.agg #[.int .u64 (k : Nat), .slice none 0 0, .int .u64 0]) rfl Try.underlying27 _ HBR.out ?_
      have hS1 : (W.drew.alloc (.cells #[.int .u64 (k : Nat), .slice none 0 0, .int .u64 0] 58)).cell? ⟨x, 1, none⟩ = some (.int .u64 (k : Nat)) := (HR.out.obj.alloc _).cell 1
      refine hK.out _ _ hS1 ?_
      clear hK K
      try simp only [Act.put, List.setIfInBounds_toArray, List.set_cons_zero, List.set_cons_succ]
      have hrow : (W.drew.alloc (.cells #[.int .u64 (k : Nat), .slice none 0 0, .int .u64 0] 58)).ownsRow B 58 3 (.slice A n c) n (flatR R) := by
        have := HR.out.row
        rw [HN.out] at this
        exact World.ownsRow.alloc (w := W.drew) this _
      refine alone 11 rfl (by kernel_rfl) (by rfl) ?_
      intro K hK
      refine wp_catG (rrL ⟨k, none, 0, ⟨[], 0⟩⟩) 3 1 (.tmp 22) (.tmp 28) 27 58 _ 40 Try.underlying27 info_row rfl (by decide) rfl rfl ⟨W.heap.size, 0, none⟩ 1 rfl hrow (Nat.le_trans HR.out.bx (Nat.le_trans (Nat.le_of_lt HR.out.obj.lt) (by simp))) rfl (news_new W.drew (rrL ⟨k, none, 0, ⟨[], 0⟩⟩) _) (rrL_each _) (by omega) (by omega) ?_
      intro A' c' Y hown hgr hat
      have hat' : ownA A' = ownA A ∨ ownA A' = some (W.heap.size + 1) := by simpa using hat
      have hxY : Whole Y x 29 #[.slice A n c, .int .u64 (k : Nat)] := by
        have h0 := HR.out.obj.alloc (.cells #[.int .u64 (k : Nat), .slice none 0 0, .int .u64 0] 58)
        rw [HN.out] at h0
        exact (hgr.block x h0.lt (fun e => HR.out.own_ne e.symm)).trans h0
      have HXY := Lib.hid hxY
      have HE := Lib.hid (show Y.ownsRow B 58 3 (.slice A' (n + 1) c') (n + 1) (flatR R ++ rrL ⟨k, none, 0, ⟨[], 0⟩⟩) ∧ (W.drew.alloc (.cells #[.int .u64 (k : Nat), .slice none 0 0, .int .u64 0] 58)).grownBy Y (ownA A) ∧ (ownA A' = ownA A ∨ ownA A' = some (W.heap.size + 1)) from ⟨hown, hgr, hat'⟩)
      have hS2 : Y.cell? ⟨x, 1, none⟩ = some (.int .u64 (k : Nat)) := HXY.out.cell 1
      have c0 : Y.cell? ⟨x, 0, none⟩ = some (.slice A n c) := HXY.out.cell 0
      have f0 : Y.frozen? ⟨x, 0, none⟩ = false := HXY.out.free 0
      clear hown hgr hat hat' hxY hrow
      refine hK.out _ _ hS2 ?_
      clear hK K
      try simp only [Act.put, List.setIfInBounds_toArray, List.set_cons_zero, List.set_cons_succ]
      refine alone_run 12 _ rfl (by kernel_rfl) (by rfl) hS2 (by go_simp; try with_reducible rfl) ?_
      try simp only [Act.put, List.setIfInBounds_toArray, List.set_cons_zero, List.set_cons_succ]
      refine alone_run 13 _ rfl (by kernel_rfl) (by rfl) hS2 (by go_simp; try with_reducible rfl) ?_
      try simp only [Act.put, List.setIfInBounds_toArray, List.set_cons_zero, List.set_cons_succ]
      refine alone 14 rfl (by kernel_rfl) (by rfl) ?_
      intro K hK
      go_simp
      refine hK.out _ _ ((HXY.out.put 0 _).cell 1) ?_
      clear hK K
      try simp only [Act.put]
      refine region_end (by kernel_rfl) ?_
      go_wp2_with fail
      go_meet
      exact ⟨A', c', Y, HE.out.1, HE.out.2.1, HE.out.2.2, rfl⟩
    · intro K hK
      refine wp_rowOne 27 58 (.tmp 27) rfl (.agg #[.int .u64 (k : Nat), .slice none 0 0, .int .u64 0]) rfl Try.underlying27 _ HBR.out ?_
      have hS1 : (W.drew.alloc (.cells #[.int .u64 (k : Nat), .slice none 0 0, .int .u64 0] 58)).cell? ⟨x, 1, none⟩ = some (.int .u64 (k : Nat)) := (HR.out.obj.alloc _).cell 1
      refine hK.out _ _ hS1 ?_
      clear hK K
      try simp only [Act.put, List.setIfInBounds_toArray, List.set_cons_zero, List.set_cons_succ]
      have c0 : (W.drew.alloc (.cells #[.int .u64 (k : Nat), .slice none 0 0, .int .u64 0] 58)).cell? ⟨x, 0, none⟩ = some (.slice A n c) := by rw [← HN.out]; exact (HR.out.obj.alloc _).cell 0
      have c0' : (W.alloc (.cells #[.int .u64 (k : Nat), .slice none 0 0, .int .u64 0] 58)).cell? ⟨x, 0, none⟩ = some (.slice A n c) := c0
      refine alone 4 rfl (by kernel_rfl) (by rfl) ?_
      intro K hK
      go_simp
      refine hK.out _ _ hS1 ?_
      clear hK K c0 c0'
      try simp only [Act.put, List.setIfInBounds_toArray, List.set_cons_zero, List.set_cons_succ]
      have hrow : (W.drew.alloc (.cells #[.int .u64 (k : Nat), .slice none 0 0, .int .u64 0] 58)).ownsRow B 58 3 (.slice A n c) n (flatR R) := by
        have := HR.out.row
        rw [HN.out] at this
        exact World.ownsRow.alloc (w := W.drew) this _
      refine alone 11 rfl (by kernel_rfl) (by rfl) ?_
      intro K hK
      refine wp_catG (rrL ⟨k, none, 0, ⟨[], 0⟩⟩) 3 1 (.tmp 22) (.tmp 28) 27 58 _ 40 Try.underlying27 info_row rfl (by decide) rfl rfl ⟨W.heap.size, 0, none⟩ 1 rfl hrow (Nat.le_trans HR.out.bx (Nat.le_trans (Nat.le_of_lt HR.out.obj.lt) (by simp))) rfl (news_new W.drew (rrL ⟨k, none, 0, ⟨[], 0⟩⟩) _) (rrL_each _) (by omega) (by omega) ?_
      intro A' c' Y hown hgr hat
      have hat' : ownA A' = ownA A ∨ ownA A' = some (W.heap.size + 1) := by simpa using hat
      have hxY : Whole Y x 29 #[.slice A n c, .int .u64 (k : Nat)] := by
        have h0 := HR.out.obj.alloc (.cells #[.int .u64 (k : Nat), .slice none 0 0, .int .u64 0] 58)
        rw [HN.out] at h0
        exact (hgr.block x h0.lt (fun e => HR.out.own_ne e.symm)).trans h0
      have HXY := Lib.hid hxY
      have HE := Lib.hid (show Y.ownsRow B 58 3 (.slice A' (n + 1) c') (n + 1) (flatR R ++ rrL ⟨k, none, 0, ⟨[], 0⟩⟩) ∧ (W.drew.alloc (.cells #[.int .u64 (k : Nat), .slice none 0 0, .int .u64 0] 58)).grownBy Y (ownA A) ∧ (ownA A' = ownA A ∨ ownA A' = some (W.heap.size + 1)) from ⟨hown, hgr, hat'⟩)
      have hS2 : Y.cell? ⟨x, 1, none⟩ = some (.int .u64 (k : Nat)) := HXY.out.cell 1
      have c0 : Y.cell? ⟨x, 0, none⟩ = some (.slice A n c) := HXY.out.cell 0
      have f0 : Y.frozen? ⟨x, 0, none⟩ = false := HXY.out.free 0
      clear hown hgr hat hat' hxY hrow
      refine hK.out _ _ hS2 ?_
      clear hK K
      try simp only [Act.put, List.setIfInBounds_toArray, List.set_cons_zero, List.set_cons_succ]
      refine alone_run 12 _ rfl (by kernel_rfl) (by rfl) hS2 (by go_simp; try with_reducible rfl) ?_
      try simp only [Act.put, List.setIfInBounds_toArray, List.set_cons_zero, List.set_cons_succ]
      refine alone_run 13 _ rfl (by kernel_rfl) (by rfl) hS2 (by go_simp; try with_reducible rfl) ?_
      try simp only [Act.put, List.setIfInBounds_toArray, List.set_cons_zero, List.set_cons_succ]
      refine alone 14 rfl (by kernel_rfl) (by rfl) ?_
      intro K hK
      go_simp
      refine hK.out _ _ ((HXY.out.put 0 _).cell 1) ?_
      clear hK K
      try simp only [Act.put]
      refine region_end (by kernel_rfl) ?_
      go_wp2_with fail
      go_meet
      exact ⟨A', c', Y, HE.out.1, HE.out.2.1, HE.out.2.2, rfl⟩
  case rest =>
    obtain ⟨A', c', Y, hown, hgr, hat, rfl⟩ := hcut
    have hnew : Below W.heap.size W (W.drew.alloc (.cells #[.int .u64 (k : Nat), .slice none 0 0, .int .u64 0] 58)) := below_alloc (Below.drew (Below.refl _ _)) _
    have hWY : ∀ j t cs, ownA A ≠ some j → Whole W j t cs → Whole Y j t cs := fun j t cs hne hw => (hgr.block j (hw.below hnew hw.lt).lt (fun e => hne e.symm)).trans (hw.below hnew hw.lt)
    have hxY : Whole Y x 29 #[.slice A n c, .int .u64 (k : Nat)] := by
      have h0 := HR.out.obj
      rw [HN.out] at h0
      exact hWY _ _ _ HR.out.own_ne h0
    have hsz : W.heap.size + 1 ≤ Y.heap.size := by have := hgr.size; simp at this; exact this
    have hg2 := grown_cell1 Y x 0 (.slice A' (n + 1) c')
    obtain ⟨Z, hZ⟩ : ∃ Z, Y.setCell ⟨x, 0, none⟩ (.slice A' (n + 1) c') = Z := ⟨_, rfl⟩
    have hxZ := hxY.put 0 (.slice A' (n + 1) c')
    rw [hZ] at hg2 hxZ ⊢
    have hxZ : Whole Z x 29 #[.slice A' (n + 1) c', .int .u64 (k : Nat)] := hxZ
    have hxl := HR.out.obj.lt
    have hrz : ∀ j t cs, Whole Y j t cs → j ≠ x → Whole Z j t cs := fun j t cs hw ne => (hg2.block j hw.lt (fun e => ne (by injection e with e))).trans hw
    have hrt : ∀ {j : Nat} {cs : Array Value}, Whole Y j 58 cs → Whole Z j 58 cs := fun hw => hrz _ _ _ hw (fun e => by subst e; exact absurd (whole_type hw hxY) (by decide))
    have hGB := fun i (hi : G i) => HG.out i hi
    have HE := Lib.hid (show RFk w Z B G x (stR R ++ [(k, ⟨[], 0⟩)]) k from by
      refine ⟨fun i => (G i ∨ w.heap.size ≤ i) ∧ i < Z.heap.size, ⟨R ++ [⟨k, none, 0, ⟨[], 0⟩⟩], A', c', ⟨?_, ?_, fun r hr => ?_, ?_, ⟨.inl H.out.gx, hxZ.lt⟩, fun j hj => ?_, fun r hr j hj => ?_, H.out.bx⟩, by unfold stR; rw [List.map_append]; rfl, fun i hi => ⟨?_, hi.2⟩⟩, fun i hi h2 => ?_, ?_⟩
      · rw [List.length_append, HN.out]; exact hxZ
      · have e : flatR (R ++ [⟨k, none, 0, ⟨[], 0⟩⟩]) = flatR R ++ rrL ⟨k, none, 0, ⟨[], 0⟩⟩ := by rw [flatR_append]; rfl
        rw [List.length_append, HN.out, e]
        exact own_keep2 hown fun j cs _ hw => hrt hw
      · rcases List.mem_append.1 hr with hr | hr
        · exact own_keep2 (HR.out.its r hr) fun j cs e hw => by
            have hj : ownA r.A = some j := by rw [← own_b r.A r.x.L.length r.c]; exact e
            exact hrz _ _ _ (hWY _ _ _ (HR.out.row_ne hr hj).1 hw) (HR.out.row_ne hr hj).2
        · rw [List.mem_singleton] at hr
          subst hr
          exact ⟨rfl, .inl ⟨rfl, rfl⟩⟩
      · rw [List.pairwise_append]
        refine ⟨HR.out.apart, List.pairwise_singleton _ _, fun r hr s hs j hj => ?_⟩
        rw [List.mem_singleton] at hs
        subst hs
        simp [ownA, Value.ownBlock]
      · obtain ⟨cs, hw⟩ := own_type hown (j := j) (by rw [own_b]; exact hj)
        refine ⟨?_, (hrt hw).lt⟩
        rcases hat with e | e
        · exact .inl (H.out.gr j (e ▸ hj))
        · rw [hj] at e
          injection e with e
          exact .inr (by have := HSZ.out; omega)
      · rcases List.mem_append.1 hr with hr | hr
        · obtain ⟨cs, hw⟩ := own_type (HR.out.its r hr) (j := j) (by rw [own_b]; exact hj)
          exact ⟨.inl (H.out.gi r hr j hj), (hrz _ _ _ (hWY _ _ _ (HR.out.row_ne hr hj).1 hw) (HR.out.row_ne hr hj).2).lt⟩
        · rw [List.mem_singleton] at hr
          subst hr
          cases hj
      · rcases hi.1 with h | h
        · exact (hGB i h).1
        · exact Nat.le_trans H.out.bx (Nat.le_trans (Nat.le_of_lt H.out.obj.lt) h)
      · rcases h2.1 with h | h
        · exact h
        · omega
      · have k1 : Fk G w W := Fk.grown HG1.out H.out.obj H.out.gx (by decide)
        have k2 : Fk G W (W.drew.alloc (.cells #[.int .u64 (k : Nat), .slice none 0 0, .int .u64 0] 58)) := Fk.of_below hnew
        have hrow : (W.drew.alloc (.cells #[.int .u64 (k : Nat), .slice none 0 0, .int .u64 0] 58)).ownsRow B 58 3 (.slice A n c) n (flatR R) := by
          have := HR.out.row
          rw [HN.out] at this
          exact World.ownsRow.alloc (w := W.drew) this _
        have k3 : Fk G (W.drew.alloc (.cells #[.int .u64 (k : Nat), .slice none 0 0, .int .u64 0] 58)) Y := Fk.grownA hgr hrow (by decide) H.out.gr
        have k4 : Fk G Y Z := Fk.grown hg2 hxY H.out.gx (by decide)
        exact ((k1.trans k2 (fun _ _ h => h)).trans k3 (fun _ _ h => h)).trans k4 (fun _ _ h => h))
    have c1 : Z.cell? ⟨x, 1, none⟩ = some (.int .u64 (k : Nat)) := hxZ.cell 1
    clear hown hgr hat hnew hWY hxY hsz hg2 hZ hxZ hxl hrz hrt hGB H HR HG HG1 HSZ HB HBR
    go_wp2_with fail
    go_ret2
    exact ⟨rfl, HE.out⟩
end Fee
end Go.Proofs.Ytlbfjdpcnnplnaa
