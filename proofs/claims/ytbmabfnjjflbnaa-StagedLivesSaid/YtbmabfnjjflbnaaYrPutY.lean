/- The document's own yard: Put, walked. -/
import Derived.Test.YtbmabfnjjflbnaaYrPut
namespace Go.Proofs.Ytbmabfnjjflbnaa
namespace Yd
open Go.ChangeShapes Go.WideShapes Go.ChangeAt Go.RowKit Go.Maps
open Num Mem Words Chacha Aead Poly Quiet RowV RowS

set_option maxRecDepth 100000 in
theorem rput_low (x : Nat) (o : Int) (A : Option Addr) (n c : Nat) (w : World) (ho : o < 1 ∨ 16 < o) : Calls Try.prog 19 #[.pointer (some ⟨x, 0, none⟩), .int .i64 o, .slice A n c] w fun e w' => e = .returned (.tuple #[.int .u64 0, .bool false, .int .i64 1]) ∧ w = w' := by
  rcases ho with ho | ho
  · go_enter Try.func19, Try.ntmps19
    go_wp2_with fail
    go_ret3
    exact ⟨rfl, rfl⟩
  · have h1 : decide (o < 1) = false := decide_eq_false (by omega)
    have h2 : decide (16 < o) = true := decide_eq_true ho
    go_enter Try.func19, Try.ntmps19
    go_wp2_with fail
    go_ret3
    exact ⟨rfl, rfl⟩
set_option maxRecDepth 100000 in
theorem rput_long (x : Nat) (o : Int) (A : Option Addr) (n c : Nat) (w : World) (ho : 1 ≤ o) (ho2 : o ≤ 16) (hn : 1500 < n) : Calls Try.prog 19 #[.pointer (some ⟨x, 0, none⟩), .int .i64 o, .slice A n c] w fun e w' => e = .returned (.tuple #[.int .u64 0, .bool false, .int .i64 2]) ∧ w = w' := by
  have h1 : decide (o < 1) = false := decide_eq_false (by omega)
  have h2 : decide (16 < o) = false := decide_eq_false (by omega)
  have h3 : decide (1500 < (n : Int)) = true := decide_eq_true (by omega)
  go_enter Try.func19, Try.ntmps19
  go_wp2_with fail
  go_ret3
  exact ⟨rfl, rfl⟩

/-- what a Put leaves -/
def PutR (o : Int) (R : List RPk) (p : RPk) (R' : List RPk) : Prop :=
  (wt o (R ++ [p]) ≤ 8 ∧ R' = R ++ [p]) ∨ (8 < wt o (R ++ [p]) ∧ ∃ i q, (R ++ [p])[i]? = some q ∧ q.o = o ∧ (∀ q' ∈ (R ++ [p]).take i, q'.o ≠ o) ∧ R' = (R ++ [p]).take i ++ (R ++ [p]).drop (i + 1))

theorem builtR (o : Int) (k : Nat) (A : Option Addr) (n c : Nat) : Try.prog.built 59 [(0, .int .i64 o), (1, .int .u64 (k : Nat)), (2, .slice A n c)] = some #[.int .i64 o, .int .u64 (k : Nat), .slice A n c] := by kernel_rfl

theorem run_built3 {P : Program} {o : Oper} {a : Act} {w : World} (t : TypeId) (k m l : Nat) (x y z : Operand) (ho : o.op = .build t #[(k, x), (m, y), (l, z)])
    (v u s : Value) (hx : a.eval x = v) (hy : a.eval y = u) (hz : a.eval z = s) (vs : Array Value) (hb : P.built t [(k, v), (m, u), (l, s)] = some vs) : (execOp a.eval o).run P w = .ok (.value (.agg vs)) w := by
  have e : P.built t ((#[(k, x), (m, y), (l, z)] : Array (Nat × Operand)).map fun (i, x) => (i, a.eval x)).toList = some vs := by simpa [hx, hy, hz] using hb
  unfold execOp
  simp only [ho, Sem.run_bind, run_build w t _ vs e, Result.andThen_ok, Sem.run_pure]
set_option maxRecDepth 100000 in
set_option maxHeartbeats 4000000 in
theorem rput_ok {w : World} {B x next thrown : Nat} {R : List RPk} (h : RY w B x R next thrown) (hR : R.length ≤ 900) (o : Int) (ho : 1 ≤ o) (ho2 : o ≤ 16) (A : Option Addr) (n c : Nat) (f : Nat → Nat) (hf : ∀ i, f i < 256) (hn : n ≤ 1500) (hl : next < 1000000) (ht : thrown < 1000000)
    (hrd : Rd w A n f) (hnil : A = none → n = 0 ∧ c = 0) (hag : ∀ a, A = some a → n ≠ 0 → a.block < B) : Calls Try.prog 19 #[.pointer (some ⟨x, 0, none⟩), .int .i64 o, .slice A n c] w fun e w' =>
      ∃ p R', p.o = o ∧ p.x = ⟨next + 1, n, f, 0⟩ ∧ PutR o R p R' ∧ e = .returned (.tuple #[.int .u64 (next + 1 : Nat), .bool (decide (8 < wt o (R ++ [p]))), .int .i64 0]) ∧ RY w' B x R' (next + 1) (thrown + if 8 < wt o (R ++ [p]) then 1 else 0) ∧ Rk B w w' := by
  obtain ⟨A0, c0c, h⟩ := h
  have h1 : decide (o < 1) = false := decide_eq_false (by omega)
  have h2 : decide (16 < o) = false := decide_eq_false (by omega)
  have h3 : decide (1500 < (n : Int)) = false := decide_eq_false (by omega)
  have c1 : w.cell? ⟨x, 1, none⟩ = some (.int .u64 (next : Nat)) := h.obj.cell 1
  have f1 : w.frozen? ⟨x, 1, none⟩ = false := h.obj.free 1
  have hw1 : IntKind.u64.wrap ((next : Int) + 1) = (next : Int) + 1 := by rw [IntKind.wrap_u64]; omega
  have H := Lib.hid h
  have HRD := Lib.hid hrd
  have HNIL := Lib.hid hnil
  have HAG := Lib.hid hag
  have HF := Lib.hid hf
  clear h hrd hnil hag hf
  go_enter Try.func19, Try.ntmps19
  go_upto_region 6 with fail
  obtain ⟨k, hk⟩ : ∃ k, next + 1 = k := ⟨_, rfl⟩
  have hk2 : (next : Int) + 1 = (k : Int) := by omega
  rw [hk2]
  have HK := Lib.hid hk
  have hkl : k < 1000001 := by omega
  refine cut_world (fun X => RYC X B x R A0 c0c k thrown ∧ Rd X A n f ∧ Rk B w X) (by
    have hfar : ∀ {i : Nat} {t : TypeId} {cs : Array Value}, Whole w i t cs → t ≠ 29 → Whole (w.setCell ⟨x, 1, none⟩ (.int .u64 (k : Nat))) i t cs := fun e ht => e.far (by rintro rfl; exact ht (whole_type e H.out.obj)) _
    refine ⟨⟨H.out.obj.put 1 _, own_stays H.out.row (fun i cs e => hfar e (by decide)), fun p hp => own_stays (H.out.own p hp) (fun i cs e => hfar e (by decide)), H.out.bnd, H.out.bx⟩, ?_, Rk.of_grown (grown_set1 w x 1 _) fun i hi => ?_⟩
    · rcases HRD.out with h0 | ⟨b, off, rfl, hb, hx⟩
      · exact .inl h0
      · rcases Nat.eq_zero_or_pos n with h0 | h0
        · exact .inl h0
        · have hlt := HAG.out _ rfl (by omega)
          have hbx := H.out.bx
          exact .inr ⟨b, off, rfl, by simpa [World.setCell] using hb, fun i hi => ((Below.refl B w).setCell (p := ⟨x, 1, none⟩) hbx _).cell (p := ⟨b, off + i, none⟩) hlt |>.trans (hx i hi)⟩
    · injection hi with hi
      subst hi
      exact ⟨H.out.bx, _, _, H.out.obj, .inr rfl⟩) ?_
  rintro X ⟨x1, x2, x3⟩
  have X1 := Lib.hid x1
  have X2 := Lib.hid x2
  have X3 := Lib.hid x3
  have hS0 : X.cell? ⟨x, 1, none⟩ = some (.int .u64 (k : Nat)) := x1.obj.cell 1
  have c0 : X.cell? ⟨x, 0, none⟩ = some (.slice A0 R.length c0c) := x1.obj.cell 0
  have hBX : B ≤ X.heap.size := Nat.le_trans x1.bx (Nat.le_of_lt x1.obj.lt)
  have HC := Lib.hid (rcopy_any A n c f (by omega) HNIL.out)
  clear x1 x2 x3 c1 f1 hw1 H HRD HNIL HAG h1 h2 h3
  go_cut [] (fun Z => ∃ p, p.o = o ∧ p.x = ⟨k, n, f, 0⟩ ∧ RY Z B x (R ++ [p]) k thrown ∧ Rk B w Z)
  case first =>
    refine region_drew (fun V => V.cell? ⟨x, 1, none⟩ = some (.int .u64 (k : Nat))) (by kernel_rfl) hS0 (fun hS => ?_)
    refine take 0 _ rfl (by kernel_rfl) (by kernel_rfl) (by kernel_rfl) (fun _ _ _ h => h) (by rfl) hS (by intro w _; go_simp; with_reducible rfl) ?_
    try simp only [Act.put, List.setIfInBounds_toArray, List.set_cons_zero, List.set_cons_succ]
    refine take 1 _ rfl (by kernel_rfl) (by kernel_rfl) (by kernel_rfl) (fun _ _ _ h => h) (by rfl) hS (by intro w _; go_simp; with_reducible rfl) ?_
    try simp only [Act.put, List.setIfInBounds_toArray, List.set_cons_zero, List.set_cons_succ]
    refine take 2 _ rfl (by kernel_rfl) (by kernel_rfl) (by kernel_rfl) (fun _ _ _ h => h) (by rfl) hS (by intro w _; go_simp; with_reducible rfl) ?_
    try simp only [Act.put, List.setIfInBounds_toArray, List.set_cons_zero, List.set_cons_succ]
    refine take 3 _ rfl (by kernel_rfl) (by kernel_rfl) (by kernel_rfl) (fun _ _ _ h => h) (by rfl) hS (by intro w _; go_simp; with_reducible rfl) ?_
    try simp only [Act.put, List.setIfInBounds_toArray, List.set_cons_zero, List.set_cons_succ]
    refine take 5 _ rfl (by kernel_rfl) (by kernel_rfl) (by kernel_rfl) (fun _ _ _ h => h) (by rfl) hS (by intro w _; go_simp; with_reducible rfl) ?_
    try simp only [Act.put, List.setIfInBounds_toArray, List.set_cons_zero, List.set_cons_succ]
    refine take 6 _ rfl (by kernel_rfl) (by kernel_rfl) (by kernel_rfl) (fun _ _ _ h => h) (by rfl) hS (by intro w _; go_simp; with_reducible rfl) ?_
    try simp only [Act.put, List.setIfInBounds_toArray, List.set_cons_zero, List.set_cons_succ]
    refine take 7 _ rfl (by kernel_rfl) (by kernel_rfl) (by kernel_rfl) (fun _ _ _ h => h) (by rfl) hS (by intro w _; go_simp; with_reducible rfl) ?_
    try simp only [Act.put, List.setIfInBounds_toArray, List.set_cons_zero, List.set_cons_succ]
    refine take 8 _ rfl (by kernel_rfl) (by kernel_rfl) (by kernel_rfl) (fun _ _ _ h => h) (by rfl) hS (by intro w _; go_simp; with_reducible rfl) ?_
    try simp only [Act.put, List.setIfInBounds_toArray, List.set_cons_zero, List.set_cons_succ]
    refine take 9 _ rfl (by kernel_rfl) (by kernel_rfl) (by kernel_rfl) (fun _ _ _ h => h) (by rfl) hS (by intro w hw; have hcl := hw; go_simp; with_reducible rfl) ?_
    try simp only [Act.put, List.setIfInBounds_toArray, List.set_cons_zero, List.set_cons_succ]
    refine take 10 _ rfl (by kernel_rfl) (by kernel_rfl) (by kernel_rfl) (fun _ _ _ h => h) (by rfl) hS (by intro w _; go_simp; with_reducible rfl) ?_
    try simp only [Act.put, List.setIfInBounds_toArray, List.set_cons_zero, List.set_cons_succ]
    refine ready_two 4 11 rfl rfl (by kernel_rfl) (by rfl) (by rfl) ?_ ?_
    · intro K hK
      go_simp
      refine hK.out _ _ (by exact hS) ?_
      clear hK K
      try simp only [Act.put, List.setIfInBounds_toArray, List.set_cons_zero, List.set_cons_succ]
      refine alone 11 rfl (by kernel_rfl) (by rfl) ?_
      intro K hK
      go_simp
      refine (HC.out _ (X2.out.below (Below.drew (Below.refl _ _)) (Nat.le_refl _))).mono ?_
      rintro e W1 ⟨A', c', rfl, hcp, hb1⟩
      have hb1' : Below X.heap.size X W1 := ⟨hb1.os, hb1.tape, hb1.output, hb1.size, hb1.block⟩
      have HCP := Lib.hid hcp
      have HB1 := Lib.hid hb1'
      have HX1 := Lib.hid (X1.out.below hb1')
      clear hcp hb1 hb1'
      have hS : W1.cell? ⟨x, 1, none⟩ = some (.int .u64 (k : Nat)) := HX1.out.obj.cell 1
      go_simp
      refine hK.out _ _ hS ?_
      clear hK K
      try simp only [Act.put, List.setIfInBounds_toArray, List.set_cons_zero, List.set_cons_succ]
      refine take 12 (.agg (rpL ⟨o, ⟨k, n, f, 0⟩, A', c'⟩).toArray) rfl (by kernel_rfl) (by kernel_rfl) (by kernel_rfl) (fun _ _ _ h => h) (by rfl) hS (fun w hw => run_built3 59 0 1 2 (.tmp 31) (.tmp 35) (.tmp 37) rfl (.int .i64 o) (.int .u64 (k : Nat)) (.slice A' n c') rfl rfl rfl _ (builtR o k A' n c')) ?_
      try simp only [Act.put, List.setIfInBounds_toArray, List.set_cons_zero, List.set_cons_succ]
      refine alone 13 rfl (by kernel_rfl) (by rfl) ?_
      intro K hK
      go_simp
      refine hK.out _ _ ((HX1.out.below (below_alloc (Below.refl _ _) _)).obj.cell 1) ?_
      clear hK K
      try simp only [Act.put, List.setIfInBounds_toArray, List.set_cons_zero, List.set_cons_succ]
      refine alone 14 rfl (by kernel_rfl) (by rfl) ?_
      intro K hK
      refine wp_pushR (rpL ⟨o, ⟨k, n, f, 0⟩, A', c'⟩) (.tmp 30) (.tmp 39) rfl rfl rfl HX1.out.row (Nat.le_trans HX1.out.bx (Nat.le_of_lt HX1.out.obj.lt)) rfl (rp_one _) (by omega) ?_
      intro A2 c2 w3 hown hg
      obtain ⟨g1, g2, g3⟩ := HX1.out.pushed ⟨o, ⟨k, n, f, 0⟩, A', c'⟩ (own_more' HCP.out hBX) ⟨HF.out, hn⟩ _ hown hg
      have G1 := Lib.hid g1
      have G2 := Lib.hid g2
      have G3 := Lib.hid g3
      have hS3 : w3.cell? ⟨x, 1, none⟩ = some (.int .u64 (k : Nat)) := g1.cell 1
      have c0 : w3.cell? ⟨x, 0, none⟩ = some (.slice A0 R.length c0c) := g1.cell 0
      have f0 : w3.frozen? ⟨x, 0, none⟩ = false := g1.free 0
      clear hown hg g1 g2 g3
      refine hK.out _ _ hS3 ?_
      clear hK K
      try simp only [Act.put, List.setIfInBounds_toArray, List.set_cons_zero, List.set_cons_succ]
      refine alone_run 15 _ rfl (by kernel_rfl) (by rfl) hS3 (by go_simp; try with_reducible rfl) ?_
      try simp only [Act.put, List.setIfInBounds_toArray, List.set_cons_zero, List.set_cons_succ]
      refine alone_run 16 _ rfl (by kernel_rfl) (by rfl) hS3 (by go_simp; try with_reducible rfl) ?_
      try simp only [Act.put, List.setIfInBounds_toArray, List.set_cons_zero, List.set_cons_succ]
      refine alone 17 rfl (by kernel_rfl) (by rfl) ?_
      intro K hK
      go_simp
      refine hK.out _ _ (by exact G2.out.obj.cell 1) ?_
      clear hK K
      try simp only [Act.put]
      refine region_end (by kernel_rfl) ?_
      go_wp2_with fail
      go_meet
      exact ⟨⟨o, ⟨k, n, f, 0⟩, A', c'⟩, rfl, rfl, ⟨A2, c2, G2.out⟩, X3.out.trans ((Rk.of_below HB1.out).trans G3.out)⟩
    · intro K hK
      go_simp
      refine (HC.out _ (X2.out.below (Below.drew (Below.refl _ _)) (Nat.le_refl _))).mono ?_
      rintro e W1 ⟨A', c', rfl, hcp, hb1⟩
      have hb1' : Below X.heap.size X W1 := ⟨hb1.os, hb1.tape, hb1.output, hb1.size, hb1.block⟩
      have HCP := Lib.hid hcp
      have HB1 := Lib.hid hb1'
      have HX1 := Lib.hid (X1.out.below hb1')
      clear hcp hb1 hb1'
      have hS : W1.cell? ⟨x, 1, none⟩ = some (.int .u64 (k : Nat)) := HX1.out.obj.cell 1
      go_simp
      refine hK.out _ _ hS ?_
      clear hK K
      try simp only [Act.put, List.setIfInBounds_toArray, List.set_cons_zero, List.set_cons_succ]
      refine take 12 (.agg (rpL ⟨o, ⟨k, n, f, 0⟩, A', c'⟩).toArray) rfl (by kernel_rfl) (by kernel_rfl) (by kernel_rfl) (fun _ _ _ h => h) (by rfl) hS (fun w hw => run_built3 59 0 1 2 (.tmp 31) (.tmp 35) (.tmp 37) rfl (.int .i64 o) (.int .u64 (k : Nat)) (.slice A' n c') rfl rfl rfl _ (builtR o k A' n c')) ?_
      try simp only [Act.put, List.setIfInBounds_toArray, List.set_cons_zero, List.set_cons_succ]
      refine ready_two 4 13 rfl rfl (by kernel_rfl) (by rfl) (by rfl) ?_ ?_
      · intro K hK
        have c0 : W1.cell? ⟨x, 0, none⟩ = some (.slice A0 R.length c0c) := HX1.out.obj.cell 0
        go_simp
        refine hK.out _ _ (by exact hS) ?_
        clear hK K
        try simp only [Act.put, List.setIfInBounds_toArray, List.set_cons_zero, List.set_cons_succ]
        clear c0
        refine alone 13 rfl (by kernel_rfl) (by rfl) ?_
        intro K hK
        go_simp
        refine hK.out _ _ ((HX1.out.below (below_alloc (Below.refl _ _) _)).obj.cell 1) ?_
        clear hK K
        try simp only [Act.put, List.setIfInBounds_toArray, List.set_cons_zero, List.set_cons_succ]
        refine alone 14 rfl (by kernel_rfl) (by rfl) ?_
        intro K hK
        refine wp_pushR (rpL ⟨o, ⟨k, n, f, 0⟩, A', c'⟩) (.tmp 30) (.tmp 39) rfl rfl rfl HX1.out.row (Nat.le_trans HX1.out.bx (Nat.le_of_lt HX1.out.obj.lt)) rfl (rp_one _) (by omega) ?_
        intro A2 c2 w3 hown hg
        obtain ⟨g1, g2, g3⟩ := HX1.out.pushed ⟨o, ⟨k, n, f, 0⟩, A', c'⟩ (own_more' HCP.out hBX) ⟨HF.out, hn⟩ _ hown hg
        have G1 := Lib.hid g1
        have G2 := Lib.hid g2
        have G3 := Lib.hid g3
        have hS3 : w3.cell? ⟨x, 1, none⟩ = some (.int .u64 (k : Nat)) := g1.cell 1
        have c0 : w3.cell? ⟨x, 0, none⟩ = some (.slice A0 R.length c0c) := g1.cell 0
        have f0 : w3.frozen? ⟨x, 0, none⟩ = false := g1.free 0
        clear hown hg g1 g2 g3
        refine hK.out _ _ hS3 ?_
        clear hK K
        try simp only [Act.put, List.setIfInBounds_toArray, List.set_cons_zero, List.set_cons_succ]
        refine alone_run 15 _ rfl (by kernel_rfl) (by rfl) hS3 (by go_simp; try with_reducible rfl) ?_
        try simp only [Act.put, List.setIfInBounds_toArray, List.set_cons_zero, List.set_cons_succ]
        refine alone_run 16 _ rfl (by kernel_rfl) (by rfl) hS3 (by go_simp; try with_reducible rfl) ?_
        try simp only [Act.put, List.setIfInBounds_toArray, List.set_cons_zero, List.set_cons_succ]
        refine alone 17 rfl (by kernel_rfl) (by rfl) ?_
        intro K hK
        go_simp
        refine hK.out _ _ (by exact G2.out.obj.cell 1) ?_
        clear hK K
        try simp only [Act.put]
        refine region_end (by kernel_rfl) ?_
        go_wp2_with fail
        go_meet
        exact ⟨⟨o, ⟨k, n, f, 0⟩, A', c'⟩, rfl, rfl, ⟨A2, c2, G2.out⟩, X3.out.trans ((Rk.of_below HB1.out).trans G3.out)⟩
      · intro K hK
        go_simp
        refine hK.out _ _ ((HX1.out.below (below_alloc (Below.refl _ _) _)).obj.cell 1) ?_
        clear hK K
        try simp only [Act.put, List.setIfInBounds_toArray, List.set_cons_zero, List.set_cons_succ]
        rw [fold_whole (rpL ⟨o, ⟨k, n, f, 0⟩, A', c'⟩) #[.int .i64 0, .int .u64 0, .slice none 0 0] rfl]
        have c0 : (W1.alloc (.cells (rpL ⟨o, ⟨k, n, f, 0⟩, A', c'⟩).toArray 59)).cell? ⟨x, 0, none⟩ = some (.slice A0 R.length c0c) := (HX1.out.below (below_alloc (Below.refl _ _) _)).obj.cell 0
        have hS : (W1.alloc (.cells (rpL ⟨o, ⟨k, n, f, 0⟩, A', c'⟩).toArray 59)).cell? ⟨x, 1, none⟩ = some (.int .u64 (k : Nat)) := (HX1.out.below (below_alloc (Below.refl _ _) _)).obj.cell 1
        refine alone 4 rfl (by kernel_rfl) (by rfl) ?_
        intro K hK
        go_simp
        refine hK.out _ _ (by exact hS) ?_
        clear hK K
        try simp only [Act.put, List.setIfInBounds_toArray, List.set_cons_zero, List.set_cons_succ]
        clear c0
        refine alone 14 rfl (by kernel_rfl) (by rfl) ?_
        intro K hK
        refine wp_pushR (rpL ⟨o, ⟨k, n, f, 0⟩, A', c'⟩) (.tmp 30) (.tmp 39) rfl rfl rfl HX1.out.row (Nat.le_trans HX1.out.bx (Nat.le_of_lt HX1.out.obj.lt)) rfl (rp_one _) (by omega) ?_
        intro A2 c2 w3 hown hg
        obtain ⟨g1, g2, g3⟩ := HX1.out.pushed ⟨o, ⟨k, n, f, 0⟩, A', c'⟩ (own_more' HCP.out hBX) ⟨HF.out, hn⟩ _ hown hg
        have G1 := Lib.hid g1
        have G2 := Lib.hid g2
        have G3 := Lib.hid g3
        have hS3 : w3.cell? ⟨x, 1, none⟩ = some (.int .u64 (k : Nat)) := g1.cell 1
        have c0 : w3.cell? ⟨x, 0, none⟩ = some (.slice A0 R.length c0c) := g1.cell 0
        have f0 : w3.frozen? ⟨x, 0, none⟩ = false := g1.free 0
        clear hown hg g1 g2 g3
        refine hK.out _ _ hS3 ?_
        clear hK K
        try simp only [Act.put, List.setIfInBounds_toArray, List.set_cons_zero, List.set_cons_succ]
        refine alone_run 15 _ rfl (by kernel_rfl) (by rfl) hS3 (by go_simp; try with_reducible rfl) ?_
        try simp only [Act.put, List.setIfInBounds_toArray, List.set_cons_zero, List.set_cons_succ]
        refine alone_run 16 _ rfl (by kernel_rfl) (by rfl) hS3 (by go_simp; try with_reducible rfl) ?_
        try simp only [Act.put, List.setIfInBounds_toArray, List.set_cons_zero, List.set_cons_succ]
        refine alone 17 rfl (by kernel_rfl) (by rfl) ?_
        intro K hK
        go_simp
        refine hK.out _ _ (by exact G2.out.obj.cell 1) ?_
        clear hK K
        try simp only [Act.put]
        refine region_end (by kernel_rfl) ?_
        go_wp2_with fail
        go_meet
        exact ⟨⟨o, ⟨k, n, f, 0⟩, A', c'⟩, rfl, rfl, ⟨A2, c2, G2.out⟩, X3.out.trans ((Rk.of_below HB1.out).trans G3.out)⟩
  case rest =>
    obtain ⟨p, hpo, hpx, hry, hrk⟩ := hcut
    have Y1 := Lib.hid hry
    have Y2 := Lib.hid hrk
    have hlen : (R ++ [p]).length ≤ 901 := by rw [List.length_append]; show R.length + 1 ≤ _; omega
    have CW := Lib.hid (rwaits_any hry (by omega) o)
    have CT := Lib.hid (rtake_any hry (by omega) o)
    have HP := Lib.hid (show p.o = o ∧ p.x = ⟨k, n, f, 0⟩ from ⟨hpo, hpx⟩)
    have hwl := wt_le o (R ++ [p])
    obtain ⟨m, hm⟩ : ∃ m, wt o (R ++ [p]) = m := ⟨_, rfl⟩
    have HM := Lib.hid hm
    rw [hm] at CW hwl
    clear hry hrk hpo hpx hm
    by_cases h8 : m ≤ 8
    · have hd : decide ((m : Int) ≤ 8) = true := decide_eq_true (by omega)
      have c1 : wc.cell? ⟨x, 1, none⟩ = some (.int .u64 (k : Nat)) := by obtain ⟨_, _, h⟩ := Y1.out; exact h.obj.cell 1
      go_wp2_with fail
      refine CW.out.mono ?_
      rintro e w2 ⟨rfl, rfl⟩
      go_wp2_with fail
      go_ret3
      have hn8 : ¬ 8 < wt o (R ++ [p]) := by rw [HM.out]; omega
      rw [HK.out]
      refine ⟨p, R ++ [p], HP.out.1, HP.out.2, Or.inl ⟨by rw [HM.out]; exact h8, rfl⟩, by rw [decide_eq_false hn8]; rfl, by rw [if_neg hn8]; exact Y1.out, Y2.out⟩
    · have hd : decide ((m : Int) ≤ 8) = false := decide_eq_false (by omega)
      go_wp2_with fail
      refine CW.out.mono ?_
      rintro e w2 ⟨rfl, rfl⟩
      go_wp2_with fail
      refine CT.out.mono ?_
      rintro e w3 (⟨i, q, hq, hqo, hqn, rfl, hy, hg⟩ | ⟨hno, _⟩)
      · obtain ⟨A3, c3, hy⟩ := hy
        have Y3 := Lib.hid hy
        have Y4 := Lib.hid (Y2.out.trans (Rk.of_grown (B := B) hg fun i hi => by
          injection hi with hi
          subst hi
          obtain ⟨_, _, h⟩ := Y1.out
          exact ⟨h.bx, _, _, h.obj, .inr rfl⟩))
        have HQ := Lib.hid (show (R ++ [p])[i]? = some q ∧ q.o = o ∧ ∀ q' ∈ (R ++ [p]).take i, q'.o ≠ o from ⟨hq, hqo, hqn⟩)
        have c2 : w3.cell? ⟨x, 2, none⟩ = some (.int .u64 (thrown : Nat)) := hy.obj.cell 2
        have f2 : w3.frozen? ⟨x, 2, none⟩ = false := hy.obj.free 2
        have c1 : w3.cell? ⟨x, 1, none⟩ = some (.int .u64 (k : Nat)) := hy.obj.cell 1
        have hw2 : IntKind.u64.wrap ((thrown : Int) + 1) = (thrown : Int) + 1 := by rw [IntKind.wrap_u64]; omega
        clear hq hqo hqn hy hg CW CT Y1
        go_wp2_with fail
        go_ret3
        have h8' : 8 < wt o (R ++ [p]) := by rw [HM.out]; omega
        have hfar : ∀ {i : Nat} {t : TypeId} {cs : Array Value}, Whole w3 i t cs → t ≠ 29 → Whole (w3.setCell ⟨x, 2, none⟩ (.int .u64 ((thrown : Int) + 1))) i t cs := fun e ht => e.far (by rintro rfl; exact ht (whole_type e Y3.out.obj)) _
        rw [HK.out]
        refine ⟨p, _, HP.out.1, HP.out.2, Or.inr ⟨h8', i, q, HQ.out.1, HQ.out.2.1, HQ.out.2.2, rfl⟩, by rw [decide_eq_true h8']; rfl, by rw [if_pos h8']; exact ⟨A3, c3, Y3.out.obj.put 2 _, own_stays Y3.out.row (fun i cs e => hfar e (by decide)), fun p hp => own_stays (Y3.out.own p hp) (fun i cs e => hfar e (by decide)), Y3.out.bnd, Y3.out.bx⟩, Y4.out.trans (Rk.of_grown (grown_set1 w3 x 2 _) fun i hi => by
          injection hi with hi
          subst hi
          exact ⟨Y3.out.bx, _, _, Y3.out.obj, .inr rfl⟩)⟩
      · exfalso
        have := HM.out
        unfold wt at this
        rw [List.filter_eq_nil_iff.2 (by intro a ha; simpa using hno a ha)] at this
        simp at this
        omega
end Yd
end Go.Proofs.Ytbmabfnjjflbnaa
