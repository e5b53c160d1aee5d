/- The walk of the law WireCut. -/
import Derived.Test.YtpdgnknabjigbaaWireBackLaw
import Derived.Test.YtpdgnknabjigbaaKept
import Derived.Deep.DeepCutAuto
namespace Go.Proofs.Ytpdgnknabjigbaa
namespace WireCut
open Go.ChangeShapes Go.WideShapes Go.ChangeAt Go.RowKit
open Num Mem Words Ref Cuts Chacha Quiet Wire Kept
open WireBack (Wh store_below wpList_call_if)

theorem kp_four (w : World) (t0 t1 t2 t3 : TypeId) (a0 a1 a2 a3 : Array Value) : Kp w.heap.size ((((w.alloc (.cells a0 t0)).alloc (.cells a1 t1)).alloc (.cells a2 t2)).alloc (.cells a3 t3)) [(w.heap.size + 1 + 1 + 1, WF t3 a3), (w.heap.size + 1 + 1, WF t2 a2), (w.heap.size + 1, WF t1 a1), (w.heap.size, WF t0 a0)] :=
  ((((Kp.nil _ _).new (Nat.le_refl _) rfl _ (WF t0 a0) rfl).new (by simp) (by simp) _ (WF t1 a1) rfl).new (by simp; omega) (by simp) _ (WF t2 a2) rfl).new (by simp; omega) (by simp) _ (WF t3 a3) rfl

def CutW (w : World) (ga B3 : Nat) (t3 td : TypeId) (LA LD : Array Value) (bb nn cc : Nat → Nat) (OO : Nat → Nat → Nat) (k : Nat) (X : World) : Prop :=
  (∀ j, k ≤ j → j < 3 → Own X w.heap.size 5 (some ⟨bb j, 0, none⟩) (nn j) (cc j) (OO j)) ∧ Whole X ga t3 LA ∧ Whole X B3 td LD ∧ Below w.heap.size w X
section
variable {w X Y : World} {ga B3 k : Nat} {t3 td : TypeId} {LA LD : Array Value} {bb nn cc : Nat → Nat} {OO : Nat → Nat → Nat}
theorem CutW.next (h : CutW w ga B3 t3 td LA LD bb nn cc OO k X) : CutW w ga B3 t3 td LA LD bb nn cc OO (k + 1) X := ⟨fun j h1 h2 => h.1 j (by omega) h2, h.2⟩
theorem CutW.grown (h : CutW w ga B3 t3 td LA LD bb nn cc OO k X) (hk : k < 3) (hg : X.grownBy Y (some (bb k))) (h1 : ∀ i j, i < 3 → j < 3 → i ≠ j → bb i ≠ bb j) (h2 : ∀ j, j < 3 → bb j ≠ ga ∧ bb j ≠ B3 ∧ w.heap.size ≤ bb j) : CutW w ga B3 t3 td LA LD bb nn cc OO (k + 1) Y := by
  obtain ⟨a1, a2, a3, a4⟩ := h
  refine ⟨fun j p1 p2 => ?_, (hg.block ga a2.lt fun e => ?_).trans a2, (hg.block B3 a3.lt fun e => ?_).trans a3, below_grown a4 hg (h2 k hk).2.2 a4.size⟩
  · have hj := a1 j (by omega) p2
    refine ⟨hj.1, ?_⟩
    rcases hj.2 with e | ⟨g, cap, cur, e, q1, q2, q3⟩
    · exact .inl e
    · refine .inr ⟨g, cap, cur, e, q1, ?_, q3⟩
      injection e with e1 _ _
      injection e1 with e1
      injection e1 with e1 _ _
      rw [hg.block g (by rcases Nat.lt_or_ge g X.heap.size with z | z; exact z; rw [Array.getElem?_eq_none z] at q2; cases q2) (by rw [← e1]; intro e; injection e with e; exact h1 j k p2 hk (by omega) e)]
      exact q2
  · injection e with e
    exact (h2 k hk).1 e.symm
  · injection e with e
    exact (h2 k hk).2.1 e.symm
theorem CutW.below (h : CutW w ga B3 t3 td LA LD bb nn cc OO k X) (hb : Below X.heap.size X Y) : CutW w ga B3 t3 td LA LD bb nn cc OO k Y :=
  ⟨fun j p1 p2 => (h.1 j p1 p2).below hb (Nat.le_refl _), h.2.1.below hb h.2.1.lt, h.2.2.1.below hb h.2.2.1.lt, below_trans h.2.2.2 hb⟩
end
theorem wpList_pass_if {P : Program} {ops : Array Oper} {rest : List Oper} {o : Oper} {a : Act} {w : World} {Q : Exit → Act → World → Prop} (hw : Region.wanted o (yielded ops a.tmps) = false) (h : wpList P ops Q rest (a.put o.dst undef) w) : wpList P ops Q (o :: rest) a w :=
  wpList_step fun _ hK => by
    rw [if_neg (by rw [hw]; exact Bool.false_ne_true)]
    exact hK _ _ h
theorem kind_long {f : Nat → Nat} {q k : Nat} (hk : le f 0 4 = k) (h1 : 1 ≤ k) (h4 : k ≤ 4) (h : fitN k q = false) (hq : 4 ≤ q) : kindE f q = 3 := by
  unfold kindE
  rw [if_neg (by omega), hk, if_neg (by omega), h, if_neg Bool.false_ne_true]
theorem kind_cut {f : Nat → Nat} {q k : Nat} (hk : le f 0 4 = k) (h1 : 1 ≤ k) (h4 : k ≤ 4) (h : fitN k q = false) : kindE f q = 10 ∨ kindE f q = 3 := by
  by_cases hq : q < 4
  · left; unfold kindE; rw [if_pos hq]
  · exact .inr (kind_long hk h1 h4 h (by omega))
theorem sizes : ∃ nn : Nat → Nat, nn 0 = 148 ∧ nn 1 = 92 ∧ nn 2 = 64 ∧ ∀ j, j < 3 → 64 ≤ nn j ∧ nn j ≤ 148 ∧ ∀ N, N ≠ nn j → fitN (j + 1) N = false := by
  refine ⟨fun j => if j = 0 then 148 else if j = 1 then 92 else 64, rfl, rfl, rfl, fun j hj => ?_⟩
  have : j = 0 ∨ j = 1 ∨ j = 2 := by omega
  rcases this with rfl | rfl | rfl <;> simp [fitN]

set_option maxRecDepth 100000 in
set_option maxHeartbeats 8000000 in
theorem walk (s0 : Nat) (g0 : Nat → Nat) (s1 r1 : Nat) (g1 : Nat → Nat) (s2 : Nat) (g2 : Nat → Nat) (x y : Nat) (A : Option Addr) (n c : Nat) (zs : List Int) (ct : Int) (Am : Option Addr) (m cm : Nat) (ms : List Int) (w : World)
    (hs0 : s0 < 4294967296) (hg0 : ∀ i, g0 i < 256) (hs1 : s1 < 4294967296) (hr1 : r1 < 4294967296) (hg1 : ∀ i, g1 i < 256) (hs2 : s2 < 4294967296) (hg2 : ∀ i, g2 i < 256) (hx : x < 4294967296) (hy : y < 18446744073709551616) (hrow : IsRow .u8 w A n c zs) (hct : (Lit.int .i64 ct).wf = true) (hmore : IsRow .u8 w Am m cm ms) :
    Calls Try.prog 7 #[.agg (one s0 g0 140).toArray, .agg (two s1 r1 g1 80).toArray, .agg (one s2 g2 56).toArray, .agg #[.int .u32 (x : Nat), .int .u64 (y : Nat), .slice A n c], .int .i64 ct, .slice Am m cm] w fun e w' => e = .returned (.bool true) ∧ Below w.heap.size w w' := by
  obtain ⟨f, hf, hrd, hnc, hcm⟩ := rd_of_row hrow
  obtain ⟨fm, hfm, hrdm, hmc, hmm⟩ := rd_of_row hmore
  have HMN := Lib.hid (show Am = none → m = 0 ∧ cm = 0 from fun e => by rcases hmore with ⟨_, h4, h5, _⟩ | ⟨x, h4, _⟩; exact ⟨h4, h5⟩; rw [e] at h4; cases h4)
  have CA := Lib.hid alive_any
  have CW0 := Lib.hid (writeHello_any s0 g0 hs0 hg0)
  have CW1 := Lib.hid (writeAnswer_any s1 r1 g1 hs1 hr1 hg1)
  have CW2 := Lib.hid (writeCookie_any s2 g2 hs2 hg2)
  have HO0 := Lib.hid (And.intro (WireBack.le_out1 1 s0 (by omega) g0) (out1_lt (k := 1) (s := s0) hg0))
  have HO1 := Lib.hid (And.intro (WireBack.le_out2 2 s1 r1 (by omega) g1) (out2_lt (k := 2) (s := s1) (r := r1) hg1))
  have HO2 := Lib.hid (And.intro (WireBack.le_out1 3 s2 (by omega) g2) (out1_lt (k := 3) (s := s2) hg2))
  have HF := Lib.hid hf
  have HRD := Lib.hid hrd
  have HFM := Lib.hid hfm
  have HRM := Lib.hid hrdm
  have HX := Lib.hid hx
  have HY := Lib.hid hy
  obtain ⟨O0, hO0⟩ : ∃ O, out1 1 s0 g0 = O := ⟨_, rfl⟩
  obtain ⟨O1, hO1⟩ : ∃ O, out2 2 s1 r1 g1 = O := ⟨_, rfl⟩
  obtain ⟨O2, hO2⟩ : ∃ O, out1 3 s2 g2 = O := ⟨_, rfl⟩
  rw [hO0] at CW0 HO0
  rw [hO1] at CW1 HO1
  rw [hO2] at CW2 HO2
  obtain ⟨L0, hL0⟩ : ∃ L, one s0 g0 140 = L := ⟨_, rfl⟩
  have H0Z := Lib.hid (show L0.toArray.size = 141 by rw [← hL0, List.size_toArray, one_length])
  rw [hL0] at CW0 ⊢
  obtain ⟨L1, hL1⟩ : ∃ L, two s1 r1 g1 80 = L := ⟨_, rfl⟩
  have H1Z := Lib.hid (show L1.toArray.size = 82 by rw [← hL1, List.size_toArray, two_length])
  rw [hL1] at CW1 ⊢
  obtain ⟨L2, hL2⟩ : ∃ L, one s2 g2 56 = L := ⟨_, rfl⟩
  have H2Z := Lib.hid (show L2.toArray.size = 57 by rw [← hL2, List.size_toArray, one_length])
  rw [hL2] at CW2 ⊢
  clear hO0 hO1 hO2 hL0 hL1 hL2 hs0 hg0 hs1 hr1 hg1 hs2 hg2 hx hy hf hrd hrow hfm hrdm hmore
  obtain ⟨A0, hA0⟩ : ∃ A0, L0.toArray = A0 := ⟨_, rfl⟩
  obtain ⟨A1, hA1⟩ : ∃ A1, L1.toArray = A1 := ⟨_, rfl⟩
  obtain ⟨A2, hA2⟩ : ∃ A2, L2.toArray = A2 := ⟨_, rfl⟩
  rw [hA0] at H0Z CW0
  rw [hA1] at H1Z CW1
  rw [hA2] at H2Z CW2
  rw [hA0, hA1, hA2]
  clear hA0 hA1 hA2 L0 L1 L2
  go_enter Try.func7, Try.ntmps7
  go_upto_region 1 with fail
  refine cut_world (fun X => Kp w.heap.size X [(w.heap.size + 1 + 1 + 1, WF 38 #[.int .u32 (x : Nat), .int .u64 (y : Nat), .slice A n c]), (w.heap.size + 1 + 1, WF 34 A2), (w.heap.size + 1, WF 31 A1), (w.heap.size, WF 29 A0)] ∧ Below w.heap.size w X) ⟨kp_four w _ _ _ _ _ _ _ _, ?_⟩ ?_
  · exact below_alloc' (below_alloc' (below_alloc' (below_alloc (Below.refl _ _) _) (by simp) _) (by simp; omega) _) (by simp; omega) _
  rintro W ⟨kw, kb⟩
  have KB := Lib.hid kb
  generalize w.heap.size + 1 + 1 + 1 = B3 at kw ⊢
  generalize w.heap.size + 1 + 1 = B2 at kw ⊢
  generalize w.heap.size + 1 = B1 at kw ⊢
  obtain ⟨B0, hB0⟩ : ∃ B0, w.heap.size = B0 := ⟨_, rfl⟩
  have HB0 := Lib.hid hB0
  have kw2 : Kp w.heap.size W [(B3, WF 38 #[.int .u32 (x : Nat), .int .u64 (y : Nat), .slice A n c]), (B2, WF 34 A2), (B1, WF 31 A1), (B0, WF 29 A0)] := by rw [← hB0]; exact kw
  rw [hB0]
  clear hB0 kw
  have hc2 : W.cell? ⟨B3, 2, none⟩ = some (.slice A n c) := (kw2.whole (by kmem)).cell 2
  have KP := Lib.hid kw2
  clear kw2 kb
  by_cases h1 : 1600 < n
  · have d1 : decide ((1600 : Int) < (n : Int)) = true := decide_eq_true (by omega)
    go_wp2_with (go_at_call 9; refine (CA.out _).mono ?_; rintro e w1 ⟨rfl, hb⟩)
    go_ret
    exact ⟨rfl, below_trans KB.out hb⟩
  have d1 : decide ((1600 : Int) < (n : Int)) = false := decide_eq_false (by omega)
  by_cases h2 : 200 < m
  · have d2 : decide ((200 : Int) < (m : Int)) = true := decide_eq_true (by omega)
    go_wp2_with (go_at_call 9; refine (CA.out _).mono ?_; rintro e w1 ⟨rfl, hb⟩)
    go_ret
    exact ⟨rfl, below_trans KB.out hb⟩
  have d2 : decide ((200 : Int) < (m : Int)) = false := decide_eq_false (by omega)
  go_upto_region 3 with fail
  go_cut [13] (fun s13 X => ∃ b0 c0 b1 c1 b2 c2 ga : Nat, s13 = .pointer (some ⟨ga, 0, none⟩) ∧ Hid (Kp w.heap.size X [(ga, WF 67 #[.slice (some ⟨b0, 0, none⟩) 148 c0, .slice (some ⟨b1, 0, none⟩) 92 c1, .slice (some ⟨b2, 0, none⟩) 64 c2]), (b0, OF 5 148 c0 O0), (b1, OF 5 92 c1 O1), (b2, OF 5 64 c2 O2), (B3, WF 38 #[.int .u32 (x : Nat), .int .u64 (y : Nat), .slice A n c])]) ∧ Hid (Below w.heap.size w X))
  case first =>
    refine region_drew (fun X => Kp w.heap.size X [(B3, WF 38 #[.int .u32 (x : Nat), .int .u64 (y : Nat), .slice A n c]), (B2, WF 34 A2), (B1, WF 31 A1), (B0, WF 29 A0)]) (by kernel_rfl) KP.out ?_
    intro hS
    refine take 0 (.agg A0) rfl (by kernel_rfl) (by kernel_rfl) (by kernel_rfl) (fun _ _ _ h => h) (by rfl) hS (fun X hX => run_load_in 29 (.tmp 6) rfl B0 rfl A0 141 H0Z.out (hX.whole (by kmem)) rfl rfl (by kernel_rfl)) ?_
    try simp only [Act.put, List.setIfInBounds_toArray, List.set_cons_zero, List.set_cons_succ]
    refine take 2 (.agg A1) rfl (by kernel_rfl) (by kernel_rfl) (by kernel_rfl) (fun _ _ _ h => h) (by rfl) hS (fun X hX => run_load_in 31 (.tmp 7) rfl B1 rfl A1 82 H1Z.out (hX.whole (by kmem)) rfl rfl (by kernel_rfl)) ?_
    try simp only [Act.put, List.setIfInBounds_toArray, List.set_cons_zero, List.set_cons_succ]
    refine take 4 (.agg A2) rfl (by kernel_rfl) (by kernel_rfl) (by kernel_rfl) (fun _ _ _ h => h) (by rfl) hS (fun X hX => run_load_in 34 (.tmp 8) rfl B2 rfl A2 57 H2Z.out (hX.whole (by kmem)) rfl rfl (by kernel_rfl)) ?_
    try simp only [Act.put, List.setIfInBounds_toArray, List.set_cons_zero, List.set_cons_succ]
    refine cut_any (fun Y => Kp w.heap.size Y [(B3, WF 38 #[.int .u32 (x : Nat), .int .u64 (y : Nat), .slice A n c]), (B2, WF 34 A2), (B1, WF 31 A1), (B0, WF 29 A0)] ∧ Below w.heap.size w Y) ⟨hS, KB.out.drew⟩ ?_
    rintro v0 ⟨q1, q2⟩
    clear hS KP KB
    have hS := q1
    have KP := Lib.hid q1
    have HB := Lib.hid q2
    clear q1 q2
    refine ready_two 1 7 rfl rfl (by kernel_rfl) (by rfl) (by rfl) ?_ ?_
    · intro K hK
      go_simp
      refine (CW0.out _).mono ?_
      rintro e v1 ⟨X1, c0, rfl, ho, hb⟩
      obtain ⟨b0, rfl, kq⟩ := KP.out.own HB.out.size hb ho (by omega)
      go_simp
      refine hK.out _ _ (kq.drop) ?_
      have q2 := below_trans HB.out hb
      clear hK K KP HB hS ho hb
      have hS := kq.drop
      have KP := Lib.hid kq
      have HB := Lib.hid q2
      clear kq q2
      try simp only [Act.put, List.setIfInBounds_toArray, List.set_cons_zero, List.set_cons_succ]
      refine ready_two 3 7 rfl rfl (by kernel_rfl) (by rfl) (by rfl) ?_ ?_
      · intro K hK
        go_simp
        refine (CW1.out _).mono ?_
        rintro e v2 ⟨X1, c1, rfl, ho, hb⟩
        obtain ⟨b1, rfl, kq⟩ := KP.out.own HB.out.size hb ho (by omega)
        go_simp
        refine hK.out _ _ (kq.drop.drop) ?_
        have q2 := below_trans HB.out hb
        clear hK K KP HB hS ho hb
        have hS := kq.drop.drop
        have KP := Lib.hid kq
        have HB := Lib.hid q2
        clear kq q2
        try simp only [Act.put, List.setIfInBounds_toArray, List.set_cons_zero, List.set_cons_succ]
        refine ready_two 5 7 rfl rfl (by kernel_rfl) (by rfl) (by rfl) ?_ ?_
        · intro K hK
          go_simp
          refine (CW2.out _).mono ?_
          rintro e v3 ⟨X1, c2, rfl, ho, hb⟩
          obtain ⟨b2, rfl, kq⟩ := KP.out.own HB.out.size hb ho (by omega)
          go_simp
          refine hK.out _ _ (kq.drop.drop.drop) ?_
          have q2 := below_trans HB.out hb
          clear hK K KP HB hS ho hb
          have hS := kq.drop.drop.drop
          have KP := Lib.hid kq
          have HB := Lib.hid q2
          clear kq q2
          try simp only [Act.put, List.setIfInBounds_toArray, List.set_cons_zero, List.set_cons_succ]
          refine ready_two 6 7 rfl rfl (by kernel_rfl) (by rfl) (by rfl) ?_ ?_
          · intro K hK
            go_simp
            refine hK.out _ _ hS ?_
            clear hK K
            try simp only [Act.put, List.setIfInBounds_toArray, List.set_cons_zero, List.set_cons_succ]
            refine alone 7 rfl (by kernel_rfl) (by rfl) ?_
            intro K hK
            go_simp
            have kq := KP.out.new HB.out.size rfl (.cells #[.slice none 0 0, .slice none 0 0, .slice none 0 0] 67) (WF 67 #[.slice none 0 0, .slice none 0 0, .slice none 0 0]) rfl
            refine hK.out _ _ (kq.drop.drop.drop.drop) ?_
            clear hK K kq
            try simp only [Act.put, List.setIfInBounds_toArray, List.set_cons_zero, List.set_cons_succ]
            refine cut_any (fun Y => Kp w.heap.size Y [(v3.heap.size, WF 67 #[.slice none 0 0, .slice none 0 0, .slice none 0 0]), (b2, OF 5 64 c2 O2), (b1, OF 5 92 c1 O1), (b0, OF 5 148 c0 O0), (B3, WF 38 #[.int .u32 (x : Nat), .int .u64 (y : Nat), .slice A n c]), (B2, WF 34 A2), (B1, WF 31 A1), (B0, WF 29 A0)] ∧ Below w.heap.size w Y) ⟨KP.out.new HB.out.size rfl _ _ rfl, below_alloc' HB.out HB.out.size _⟩ ?_
            rintro v5 ⟨q1, q2⟩
            generalize v3.heap.size = ga at q1 ⊢
            clear KP HB hS
            have hS := q1.drop.drop.drop.drop
            have KP := Lib.hid q1
            have HB := Lib.hid q2
            clear q1 q2
            have kpf := KP.out.of (l' := [(ga, WF 67 #[.slice none 0 0, .slice none 0 0, .slice none 0 0]), (b0, OF 5 148 c0 O0), (b1, OF 5 92 c1 O1), (b2, OF 5 64 c2 O2), (B3, WF 38 #[.int .u32 (x : Nat), .int .u64 (y : Nat), .slice A n c])]) (by have h := KP.out.1; simp only [List.map_cons, List.map_nil, List.nodup_cons, List.mem_cons, List.not_mem_nil, or_false, not_or] at h ⊢; (repeat' apply And.intro) <;> first | trivial | exact List.nodup_nil | (intro e; subst e; simp at h)) (by intro p hp; simp only [List.mem_cons, List.not_mem_nil, or_false] at hp; rcases hp with rfl | rfl | rfl | rfl | rfl <;> kmem)
            have hba := (kpf.lt List.mem_cons_self).1
            refine alone 8 rfl (by kernel_rfl) (by rfl) ?_
            intro K hK
            refine wp_store_row 67 (.tmp 13) (.tmp 39) rfl ga #[.slice (some ⟨b0, 0, none⟩) 148 c0, .slice (some ⟨b1, 0, none⟩) 92 c1, .slice (some ⟨b2, 0, none⟩) 64 c2] (by rfl) (by rfl) 67 _ (kpf.whole List.mem_cons_self) (by kernel_rfl) rfl (by simp [Value.oneCell']) ?_
            have hS2 := (KP.out.of (l' := [(ga, WF 67 #[.slice none 0 0, .slice none 0 0, .slice none 0 0]), (B3, WF 38 #[.int .u32 (x : Nat), .int .u64 (y : Nat), .slice A n c]), (B2, WF 34 A2), (B1, WF 31 A1), (B0, WF 29 A0)]) (by have h := KP.out.1; simp only [List.map_cons, List.map_nil, List.nodup_cons, List.mem_cons, List.not_mem_nil, or_false, not_or] at h ⊢; (repeat' apply And.intro) <;> first | trivial | exact List.nodup_nil | (intro e; subst e; simp at h)) (by intro p hp; simp only [List.mem_cons, List.not_mem_nil, or_false] at hp; rcases hp with rfl | rfl | rfl | rfl | rfl <;> kmem)).set #[.slice (some ⟨b0, 0, none⟩) 148 c0, .slice (some ⟨b1, 0, none⟩) 92 c1, .slice (some ⟨b2, 0, none⟩) 64 c2]
            refine hK.out _ _ hS2.drop ?_
            clear hK K hS2 hS
            try simp only [Act.put]
            refine region_end (by kernel_rfl) ?_
            refine cut_post (F := Exit.then _ _) (fun X => Kp w.heap.size X [(ga, WF 67 #[.slice (some ⟨b0, 0, none⟩) 148 c0, .slice (some ⟨b1, 0, none⟩) 92 c1, .slice (some ⟨b2, 0, none⟩) 64 c2]), (b0, OF 5 148 c0 O0), (b1, OF 5 92 c1 O1), (b2, OF 5 64 c2 O2), (B3, WF 38 #[.int .u32 (x : Nat), .int .u64 (y : Nat), .slice A n c])] ∧ Below w.heap.size w X) ⟨kpf.set _, below_setRow HB.out hba _⟩ ?_
            rintro Y ⟨z1, z2⟩
            have Z1 := Lib.hid z1
            have Z2 := Lib.hid z2
            clear z1 z2 kpf KP HB hba
            go_wp2_with fail
            go_meet
            exact ⟨b0, c0, b1, c1, b2, c2, ga, rfl, Z1, Z2⟩
          · intro K hK
            go_simp
            have kq := KP.out.new HB.out.size rfl (.cells #[.slice none 0 0, .slice none 0 0, .slice none 0 0] 67) (WF 67 #[.slice none 0 0, .slice none 0 0, .slice none 0 0]) rfl
            refine hK.out _ _ (kq.drop.drop.drop.drop) ?_
            clear hK K kq
            try simp only [Act.put, List.setIfInBounds_toArray, List.set_cons_zero, List.set_cons_succ]
            refine cut_any (fun Y => Kp w.heap.size Y [(v3.heap.size, WF 67 #[.slice none 0 0, .slice none 0 0, .slice none 0 0]), (b2, OF 5 64 c2 O2), (b1, OF 5 92 c1 O1), (b0, OF 5 148 c0 O0), (B3, WF 38 #[.int .u32 (x : Nat), .int .u64 (y : Nat), .slice A n c]), (B2, WF 34 A2), (B1, WF 31 A1), (B0, WF 29 A0)] ∧ Below w.heap.size w Y) ⟨KP.out.new HB.out.size rfl _ _ rfl, below_alloc' HB.out HB.out.size _⟩ ?_
            rintro v6 ⟨q1, q2⟩
            generalize v3.heap.size = ga at q1 ⊢
            clear KP HB hS
            have hS := q1.drop.drop.drop.drop
            have KP := Lib.hid q1
            have HB := Lib.hid q2
            clear q1 q2
            refine alone 6 rfl (by kernel_rfl) (by rfl) ?_
            intro K hK
            go_simp
            refine hK.out _ _ hS ?_
            clear hK K
            try simp only [Act.put, List.setIfInBounds_toArray, List.set_cons_zero, List.set_cons_succ]
            have kpf := KP.out.of (l' := [(ga, WF 67 #[.slice none 0 0, .slice none 0 0, .slice none 0 0]), (b0, OF 5 148 c0 O0), (b1, OF 5 92 c1 O1), (b2, OF 5 64 c2 O2), (B3, WF 38 #[.int .u32 (x : Nat), .int .u64 (y : Nat), .slice A n c])]) (by have h := KP.out.1; simp only [List.map_cons, List.map_nil, List.nodup_cons, List.mem_cons, List.not_mem_nil, or_false, not_or] at h ⊢; (repeat' apply And.intro) <;> first | trivial | exact List.nodup_nil | (intro e; subst e; simp at h)) (by intro p hp; simp only [List.mem_cons, List.not_mem_nil, or_false] at hp; rcases hp with rfl | rfl | rfl | rfl | rfl <;> kmem)
            have hba := (kpf.lt List.mem_cons_self).1
            refine alone 8 rfl (by kernel_rfl) (by rfl) ?_
            intro K hK
            refine wp_store_row 67 (.tmp 13) (.tmp 39) rfl ga #[.slice (some ⟨b0, 0, none⟩) 148 c0, .slice (some ⟨b1, 0, none⟩) 92 c1, .slice (some ⟨b2, 0, none⟩) 64 c2] (by rfl) (by rfl) 67 _ (kpf.whole List.mem_cons_self) (by kernel_rfl) rfl (by simp [Value.oneCell']) ?_
            have hS2 := (KP.out.of (l' := [(ga, WF 67 #[.slice none 0 0, .slice none 0 0, .slice none 0 0]), (B3, WF 38 #[.int .u32 (x : Nat), .int .u64 (y : Nat), .slice A n c]), (B2, WF 34 A2), (B1, WF 31 A1), (B0, WF 29 A0)]) (by have h := KP.out.1; simp only [List.map_cons, List.map_nil, List.nodup_cons, List.mem_cons, List.not_mem_nil, or_false, not_or] at h ⊢; (repeat' apply And.intro) <;> first | trivial | exact List.nodup_nil | (intro e; subst e; simp at h)) (by intro p hp; simp only [List.mem_cons, List.not_mem_nil, or_false] at hp; rcases hp with rfl | rfl | rfl | rfl | rfl <;> kmem)).set #[.slice (some ⟨b0, 0, none⟩) 148 c0, .slice (some ⟨b1, 0, none⟩) 92 c1, .slice (some ⟨b2, 0, none⟩) 64 c2]
            refine hK.out _ _ hS2.drop ?_
            clear hK K hS2 hS
            try simp only [Act.put]
            refine region_end (by kernel_rfl) ?_
            refine cut_post (F := Exit.then _ _) (fun X => Kp w.heap.size X [(ga, WF 67 #[.slice (some ⟨b0, 0, none⟩) 148 c0, .slice (some ⟨b1, 0, none⟩) 92 c1, .slice (some ⟨b2, 0, none⟩) 64 c2]), (b0, OF 5 148 c0 O0), (b1, OF 5 92 c1 O1), (b2, OF 5 64 c2 O2), (B3, WF 38 #[.int .u32 (x : Nat), .int .u64 (y : Nat), .slice A n c])] ∧ Below w.heap.size w X) ⟨kpf.set _, below_setRow HB.out hba _⟩ ?_
            rintro Y ⟨z1, z2⟩
            have Z1 := Lib.hid z1
            have Z2 := Lib.hid z2
            clear z1 z2 kpf KP HB hba
            go_wp2_with fail
            go_meet
            exact ⟨b0, c0, b1, c1, b2, c2, ga, rfl, Z1, Z2⟩
        · intro K hK
          go_simp
          have kq := KP.out.new HB.out.size rfl (.cells #[.slice none 0 0, .slice none 0 0, .slice none 0 0] 67) (WF 67 #[.slice none 0 0, .slice none 0 0, .slice none 0 0]) rfl
          refine hK.out _ _ (kq.drop.drop.drop) ?_
          clear hK K kq
          try simp only [Act.put, List.setIfInBounds_toArray, List.set_cons_zero, List.set_cons_succ]
          refine cut_any (fun Y => Kp w.heap.size Y [(v2.heap.size, WF 67 #[.slice none 0 0, .slice none 0 0, .slice none 0 0]), (b1, OF 5 92 c1 O1), (b0, OF 5 148 c0 O0), (B3, WF 38 #[.int .u32 (x : Nat), .int .u64 (y : Nat), .slice A n c]), (B2, WF 34 A2), (B1, WF 31 A1), (B0, WF 29 A0)] ∧ Below w.heap.size w Y) ⟨KP.out.new HB.out.size rfl _ _ rfl, below_alloc' HB.out HB.out.size _⟩ ?_
          rintro v8 ⟨q1, q2⟩
          generalize v2.heap.size = ga at q1 ⊢
          clear KP HB hS
          have hS := q1.drop.drop.drop
          have KP := Lib.hid q1
          have HB := Lib.hid q2
          clear q1 q2
          refine alone 5 rfl (by kernel_rfl) (by rfl) ?_
          intro K hK
          go_simp
          refine (CW2.out _).mono ?_
          rintro e v9 ⟨X1, c2, rfl, ho, hb⟩
          obtain ⟨b2, rfl, kq⟩ := KP.out.own HB.out.size hb ho (by omega)
          go_simp
          refine hK.out _ _ (kq.drop.drop.drop.drop) ?_
          have q2 := below_trans HB.out hb
          clear hK K KP HB hS ho hb
          have hS := kq.drop.drop.drop.drop
          have KP := Lib.hid kq
          have HB := Lib.hid q2
          clear kq q2
          try simp only [Act.put, List.setIfInBounds_toArray, List.set_cons_zero, List.set_cons_succ]
          refine alone 6 rfl (by kernel_rfl) (by rfl) ?_
          intro K hK
          go_simp
          refine hK.out _ _ hS ?_
          clear hK K
          try simp only [Act.put, List.setIfInBounds_toArray, List.set_cons_zero, List.set_cons_succ]
          have kpf := KP.out.of (l' := [(ga, WF 67 #[.slice none 0 0, .slice none 0 0, .slice none 0 0]), (b0, OF 5 148 c0 O0), (b1, OF 5 92 c1 O1), (b2, OF 5 64 c2 O2), (B3, WF 38 #[.int .u32 (x : Nat), .int .u64 (y : Nat), .slice A n c])]) (by have h := KP.out.1; simp only [List.map_cons, List.map_nil, List.nodup_cons, List.mem_cons, List.not_mem_nil, or_false, not_or] at h ⊢; (repeat' apply And.intro) <;> first | trivial | exact List.nodup_nil | (intro e; subst e; simp at h)) (by intro p hp; simp only [List.mem_cons, List.not_mem_nil, or_false] at hp; rcases hp with rfl | rfl | rfl | rfl | rfl <;> kmem)
          have hba := (kpf.lt List.mem_cons_self).1
          refine alone 8 rfl (by kernel_rfl) (by rfl) ?_
          intro K hK
          refine wp_store_row 67 (.tmp 13) (.tmp 39) rfl ga #[.slice (some ⟨b0, 0, none⟩) 148 c0, .slice (some ⟨b1, 0, none⟩) 92 c1, .slice (some ⟨b2, 0, none⟩) 64 c2] (by rfl) (by rfl) 67 _ (kpf.whole List.mem_cons_self) (by kernel_rfl) rfl (by simp [Value.oneCell']) ?_
          have hS2 := (KP.out.of (l' := [(ga, WF 67 #[.slice none 0 0, .slice none 0 0, .slice none 0 0]), (B3, WF 38 #[.int .u32 (x : Nat), .int .u64 (y : Nat), .slice A n c]), (B2, WF 34 A2), (B1, WF 31 A1), (B0, WF 29 A0)]) (by have h := KP.out.1; simp only [List.map_cons, List.map_nil, List.nodup_cons, List.mem_cons, List.not_mem_nil, or_false, not_or] at h ⊢; (repeat' apply And.intro) <;> first | trivial | exact List.nodup_nil | (intro e; subst e; simp at h)) (by intro p hp; simp only [List.mem_cons, List.not_mem_nil, or_false] at hp; rcases hp with rfl | rfl | rfl | rfl | rfl <;> kmem)).set #[.slice (some ⟨b0, 0, none⟩) 148 c0, .slice (some ⟨b1, 0, none⟩) 92 c1, .slice (some ⟨b2, 0, none⟩) 64 c2]
          refine hK.out _ _ hS2.drop ?_
          clear hK K hS2 hS
          try simp only [Act.put]
          refine region_end (by kernel_rfl) ?_
          refine cut_post (F := Exit.then _ _) (fun X => Kp w.heap.size X [(ga, WF 67 #[.slice (some ⟨b0, 0, none⟩) 148 c0, .slice (some ⟨b1, 0, none⟩) 92 c1, .slice (some ⟨b2, 0, none⟩) 64 c2]), (b0, OF 5 148 c0 O0), (b1, OF 5 92 c1 O1), (b2, OF 5 64 c2 O2), (B3, WF 38 #[.int .u32 (x : Nat), .int .u64 (y : Nat), .slice A n c])] ∧ Below w.heap.size w X) ⟨kpf.set _, below_setRow HB.out hba _⟩ ?_
          rintro Y ⟨z1, z2⟩
          have Z1 := Lib.hid z1
          have Z2 := Lib.hid z2
          clear z1 z2 kpf KP HB hba
          go_wp2_with fail
          go_meet
          exact ⟨b0, c0, b1, c1, b2, c2, ga, rfl, Z1, Z2⟩
      · intro K hK
        go_simp
        have kq := KP.out.new HB.out.size rfl (.cells #[.slice none 0 0, .slice none 0 0, .slice none 0 0] 67) (WF 67 #[.slice none 0 0, .slice none 0 0, .slice none 0 0]) rfl
        refine hK.out _ _ (kq.drop.drop) ?_
        clear hK K kq
        try simp only [Act.put, List.setIfInBounds_toArray, List.set_cons_zero, List.set_cons_succ]
        refine cut_any (fun Y => Kp w.heap.size Y [(v1.heap.size, WF 67 #[.slice none 0 0, .slice none 0 0, .slice none 0 0]), (b0, OF 5 148 c0 O0), (B3, WF 38 #[.int .u32 (x : Nat), .int .u64 (y : Nat), .slice A n c]), (B2, WF 34 A2), (B1, WF 31 A1), (B0, WF 29 A0)] ∧ Below w.heap.size w Y) ⟨KP.out.new HB.out.size rfl _ _ rfl, below_alloc' HB.out HB.out.size _⟩ ?_
        rintro v11 ⟨q1, q2⟩
        generalize v1.heap.size = ga at q1 ⊢
        clear KP HB hS
        have hS := q1.drop.drop
        have KP := Lib.hid q1
        have HB := Lib.hid q2
        clear q1 q2
        refine alone 3 rfl (by kernel_rfl) (by rfl) ?_
        intro K hK
        go_simp
        refine (CW1.out _).mono ?_
        rintro e v12 ⟨X1, c1, rfl, ho, hb⟩
        obtain ⟨b1, rfl, kq⟩ := KP.out.own HB.out.size hb ho (by omega)
        go_simp
        refine hK.out _ _ (kq.drop.drop.drop) ?_
        have q2 := below_trans HB.out hb
        clear hK K KP HB hS ho hb
        have hS := kq.drop.drop.drop
        have KP := Lib.hid kq
        have HB := Lib.hid q2
        clear kq q2
        try simp only [Act.put, List.setIfInBounds_toArray, List.set_cons_zero, List.set_cons_succ]
        refine alone 5 rfl (by kernel_rfl) (by rfl) ?_
        intro K hK
        go_simp
        refine (CW2.out _).mono ?_
        rintro e v13 ⟨X1, c2, rfl, ho, hb⟩
        obtain ⟨b2, rfl, kq⟩ := KP.out.own HB.out.size hb ho (by omega)
        go_simp
        refine hK.out _ _ (kq.drop.drop.drop.drop) ?_
        have q2 := below_trans HB.out hb
        clear hK K KP HB hS ho hb
        have hS := kq.drop.drop.drop.drop
        have KP := Lib.hid kq
        have HB := Lib.hid q2
        clear kq q2
        try simp only [Act.put, List.setIfInBounds_toArray, List.set_cons_zero, List.set_cons_succ]
        refine alone 6 rfl (by kernel_rfl) (by rfl) ?_
        intro K hK
        go_simp
        refine hK.out _ _ hS ?_
        clear hK K
        try simp only [Act.put, List.setIfInBounds_toArray, List.set_cons_zero, List.set_cons_succ]
        have kpf := KP.out.of (l' := [(ga, WF 67 #[.slice none 0 0, .slice none 0 0, .slice none 0 0]), (b0, OF 5 148 c0 O0), (b1, OF 5 92 c1 O1), (b2, OF 5 64 c2 O2), (B3, WF 38 #[.int .u32 (x : Nat), .int .u64 (y : Nat), .slice A n c])]) (by have h := KP.out.1; simp only [List.map_cons, List.map_nil, List.nodup_cons, List.mem_cons, List.not_mem_nil, or_false, not_or] at h ⊢; (repeat' apply And.intro) <;> first | trivial | exact List.nodup_nil | (intro e; subst e; simp at h)) (by intro p hp; simp only [List.mem_cons, List.not_mem_nil, or_false] at hp; rcases hp with rfl | rfl | rfl | rfl | rfl <;> kmem)
        have hba := (kpf.lt List.mem_cons_self).1
        refine alone 8 rfl (by kernel_rfl) (by rfl) ?_
        intro K hK
        refine wp_store_row 67 (.tmp 13) (.tmp 39) rfl ga #[.slice (some ⟨b0, 0, none⟩) 148 c0, .slice (some ⟨b1, 0, none⟩) 92 c1, .slice (some ⟨b2, 0, none⟩) 64 c2] (by rfl) (by rfl) 67 _ (kpf.whole List.mem_cons_self) (by kernel_rfl) rfl (by simp [Value.oneCell']) ?_
        have hS2 := (KP.out.of (l' := [(ga, WF 67 #[.slice none 0 0, .slice none 0 0, .slice none 0 0]), (B3, WF 38 #[.int .u32 (x : Nat), .int .u64 (y : Nat), .slice A n c]), (B2, WF 34 A2), (B1, WF 31 A1), (B0, WF 29 A0)]) (by have h := KP.out.1; simp only [List.map_cons, List.map_nil, List.nodup_cons, List.mem_cons, List.not_mem_nil, or_false, not_or] at h ⊢; (repeat' apply And.intro) <;> first | trivial | exact List.nodup_nil | (intro e; subst e; simp at h)) (by intro p hp; simp only [List.mem_cons, List.not_mem_nil, or_false] at hp; rcases hp with rfl | rfl | rfl | rfl | rfl <;> kmem)).set #[.slice (some ⟨b0, 0, none⟩) 148 c0, .slice (some ⟨b1, 0, none⟩) 92 c1, .slice (some ⟨b2, 0, none⟩) 64 c2]
        refine hK.out _ _ hS2.drop ?_
        clear hK K hS2 hS
        try simp only [Act.put]
        refine region_end (by kernel_rfl) ?_
        refine cut_post (F := Exit.then _ _) (fun X => Kp w.heap.size X [(ga, WF 67 #[.slice (some ⟨b0, 0, none⟩) 148 c0, .slice (some ⟨b1, 0, none⟩) 92 c1, .slice (some ⟨b2, 0, none⟩) 64 c2]), (b0, OF 5 148 c0 O0), (b1, OF 5 92 c1 O1), (b2, OF 5 64 c2 O2), (B3, WF 38 #[.int .u32 (x : Nat), .int .u64 (y : Nat), .slice A n c])] ∧ Below w.heap.size w X) ⟨kpf.set _, below_setRow HB.out hba _⟩ ?_
        rintro Y ⟨z1, z2⟩
        have Z1 := Lib.hid z1
        have Z2 := Lib.hid z2
        clear z1 z2 kpf KP HB hba
        go_wp2_with fail
        go_meet
        exact ⟨b0, c0, b1, c1, b2, c2, ga, rfl, Z1, Z2⟩
    · intro K hK
      go_simp
      have kq := KP.out.new HB.out.size rfl (.cells #[.slice none 0 0, .slice none 0 0, .slice none 0 0] 67) (WF 67 #[.slice none 0 0, .slice none 0 0, .slice none 0 0]) rfl
      refine hK.out _ _ (kq.drop) ?_
      clear hK K kq
      try simp only [Act.put, List.setIfInBounds_toArray, List.set_cons_zero, List.set_cons_succ]
      refine cut_any (fun Y => Kp w.heap.size Y [(v0.heap.size, WF 67 #[.slice none 0 0, .slice none 0 0, .slice none 0 0]), (B3, WF 38 #[.int .u32 (x : Nat), .int .u64 (y : Nat), .slice A n c]), (B2, WF 34 A2), (B1, WF 31 A1), (B0, WF 29 A0)] ∧ Below w.heap.size w Y) ⟨KP.out.new HB.out.size rfl _ _ rfl, below_alloc' HB.out HB.out.size _⟩ ?_
      rintro v15 ⟨q1, q2⟩
      generalize v0.heap.size = ga at q1 ⊢
      clear KP HB hS
      have hS := q1.drop
      have KP := Lib.hid q1
      have HB := Lib.hid q2
      clear q1 q2
      refine alone 1 rfl (by kernel_rfl) (by rfl) ?_
      intro K hK
      go_simp
      refine (CW0.out _).mono ?_
      rintro e v16 ⟨X1, c0, rfl, ho, hb⟩
      obtain ⟨b0, rfl, kq⟩ := KP.out.own HB.out.size hb ho (by omega)
      go_simp
      refine hK.out _ _ (kq.drop.drop) ?_
      have q2 := below_trans HB.out hb
      clear hK K KP HB hS ho hb
      have hS := kq.drop.drop
      have KP := Lib.hid kq
      have HB := Lib.hid q2
      clear kq q2
      try simp only [Act.put, List.setIfInBounds_toArray, List.set_cons_zero, List.set_cons_succ]
      refine alone 3 rfl (by kernel_rfl) (by rfl) ?_
      intro K hK
      go_simp
      refine (CW1.out _).mono ?_
      rintro e v17 ⟨X1, c1, rfl, ho, hb⟩
      obtain ⟨b1, rfl, kq⟩ := KP.out.own HB.out.size hb ho (by omega)
      go_simp
      refine hK.out _ _ (kq.drop.drop.drop) ?_
      have q2 := below_trans HB.out hb
      clear hK K KP HB hS ho hb
      have hS := kq.drop.drop.drop
      have KP := Lib.hid kq
      have HB := Lib.hid q2
      clear kq q2
      try simp only [Act.put, List.setIfInBounds_toArray, List.set_cons_zero, List.set_cons_succ]
      refine alone 5 rfl (by kernel_rfl) (by rfl) ?_
      intro K hK
      go_simp
      refine (CW2.out _).mono ?_
      rintro e v18 ⟨X1, c2, rfl, ho, hb⟩
      obtain ⟨b2, rfl, kq⟩ := KP.out.own HB.out.size hb ho (by omega)
      go_simp
      refine hK.out _ _ (kq.drop.drop.drop.drop) ?_
      have q2 := below_trans HB.out hb
      clear hK K KP HB hS ho hb
      have hS := kq.drop.drop.drop.drop
      have KP := Lib.hid kq
      have HB := Lib.hid q2
      clear kq q2
      try simp only [Act.put, List.setIfInBounds_toArray, List.set_cons_zero, List.set_cons_succ]
      refine alone 6 rfl (by kernel_rfl) (by rfl) ?_
      intro K hK
      go_simp
      refine hK.out _ _ hS ?_
      clear hK K
      try simp only [Act.put, List.setIfInBounds_toArray, List.set_cons_zero, List.set_cons_succ]
      have kpf := KP.out.of (l' := [(ga, WF 67 #[.slice none 0 0, .slice none 0 0, .slice none 0 0]), (b0, OF 5 148 c0 O0), (b1, OF 5 92 c1 O1), (b2, OF 5 64 c2 O2), (B3, WF 38 #[.int .u32 (x : Nat), .int .u64 (y : Nat), .slice A n c])]) (by have h := KP.out.1; simp only [List.map_cons, List.map_nil, List.nodup_cons, List.mem_cons, List.not_mem_nil, or_false, not_or] at h ⊢; (repeat' apply And.intro) <;> first | trivial | exact List.nodup_nil | (intro e; subst e; simp at h)) (by intro p hp; simp only [List.mem_cons, List.not_mem_nil, or_false] at hp; rcases hp with rfl | rfl | rfl | rfl | rfl <;> kmem)
      have hba := (kpf.lt List.mem_cons_self).1
      refine alone 8 rfl (by kernel_rfl) (by rfl) ?_
      intro K hK
      refine wp_store_row 67 (.tmp 13) (.tmp 39) rfl ga #[.slice (some ⟨b0, 0, none⟩) 148 c0, .slice (some ⟨b1, 0, none⟩) 92 c1, .slice (some ⟨b2, 0, none⟩) 64 c2] (by rfl) (by rfl) 67 _ (kpf.whole List.mem_cons_self) (by kernel_rfl) rfl (by simp [Value.oneCell']) ?_
      have hS2 := (KP.out.of (l' := [(ga, WF 67 #[.slice none 0 0, .slice none 0 0, .slice none 0 0]), (B3, WF 38 #[.int .u32 (x : Nat), .int .u64 (y : Nat), .slice A n c]), (B2, WF 34 A2), (B1, WF 31 A1), (B0, WF 29 A0)]) (by have h := KP.out.1; simp only [List.map_cons, List.map_nil, List.nodup_cons, List.mem_cons, List.not_mem_nil, or_false, not_or] at h ⊢; (repeat' apply And.intro) <;> first | trivial | exact List.nodup_nil | (intro e; subst e; simp at h)) (by intro p hp; simp only [List.mem_cons, List.not_mem_nil, or_false] at hp; rcases hp with rfl | rfl | rfl | rfl | rfl <;> kmem)).set #[.slice (some ⟨b0, 0, none⟩) 148 c0, .slice (some ⟨b1, 0, none⟩) 92 c1, .slice (some ⟨b2, 0, none⟩) 64 c2]
      refine hK.out _ _ hS2.drop ?_
      clear hK K hS2 hS
      try simp only [Act.put]
      refine region_end (by kernel_rfl) ?_
      refine cut_post (F := Exit.then _ _) (fun X => Kp w.heap.size X [(ga, WF 67 #[.slice (some ⟨b0, 0, none⟩) 148 c0, .slice (some ⟨b1, 0, none⟩) 92 c1, .slice (some ⟨b2, 0, none⟩) 64 c2]), (b0, OF 5 148 c0 O0), (b1, OF 5 92 c1 O1), (b2, OF 5 64 c2 O2), (B3, WF 38 #[.int .u32 (x : Nat), .int .u64 (y : Nat), .slice A n c])] ∧ Below w.heap.size w X) ⟨kpf.set _, below_setRow HB.out hba _⟩ ?_
      rintro Y ⟨z1, z2⟩
      have Z1 := Lib.hid z1
      have Z2 := Lib.hid z2
      clear z1 z2 kpf KP HB hba
      go_wp2_with fail
      go_meet
      exact ⟨b0, c0, b1, c1, b2, c2, ga, rfl, Z1, Z2⟩
  case rest =>
    obtain ⟨b0, c0, b1, c1, b2, c2, ga, rfl, kp, kb⟩ := hcut
    obtain ⟨bb, hb0, hb1, hb2⟩ : ∃ bb : Nat → Nat, bb 0 = b0 ∧ bb 1 = b1 ∧ bb 2 = b2 := ⟨fun j => if j = 0 then b0 else if j = 1 then b1 else b2, rfl, rfl, rfl⟩
    obtain ⟨cc, hc0, hc1, hcc2⟩ : ∃ cc : Nat → Nat, cc 0 = c0 ∧ cc 1 = c1 ∧ cc 2 = c2 := ⟨fun j => if j = 0 then c0 else if j = 1 then c1 else c2, rfl, rfl, rfl⟩
    obtain ⟨OO, hq0, hq1, hq2⟩ : ∃ OO : Nat → Nat → Nat, OO 0 = O0 ∧ OO 1 = O1 ∧ OO 2 = O2 := ⟨fun j => if j = 0 then O0 else if j = 1 then O1 else O2, rfl, rfl, rfl⟩
    obtain ⟨nn, hn0, hn1, hn2, hnn⟩ := sizes
    have three : ∀ {P : Nat → Prop}, P 0 → P 1 → P 2 → ∀ j, j < 3 → P j := by
      intro P p0 p1 p2 j hj
      have : j = 0 ∨ j = 1 ∨ j = 2 := by omega
      rcases this with rfl | rfl | rfl <;> assumption
    have HNN := Lib.hid hnn
    have HOO := Lib.hid (three (P := fun j => le (OO j) 0 4 = j + 1 ∧ ∀ i, OO j i < 256) (by rw [hq0]; exact HO0.out) (by rw [hq1]; exact HO1.out) (by rw [hq2]; exact HO2.out))
    have HLA := Lib.hid (three (P := fun j => (#[.slice (some ⟨b0, 0, none⟩) 148 c0, .slice (some ⟨b1, 0, none⟩) 92 c1, .slice (some ⟨b2, 0, none⟩) 64 c2] : Array Value)[j]? = some (.slice (some ⟨bb j, 0, none⟩) (nn j) (cc j))) (by rw [hb0, hn0, hc0]; rfl) (by rw [hb1, hn1, hc1]; rfl) (by rw [hb2, hn2, hcc2]; rfl))
    have HBB := Lib.hid (three (P := fun j => bb j ≠ ga ∧ bb j ≠ B3 ∧ w.heap.size ≤ bb j)
      (by rw [hb0]; have h := kp.out.1; have h2 := (kp.out.lt (p := (b0, _)) (by kmem)).1; simp only [List.map_cons, List.map_nil, List.nodup_cons, List.mem_cons, List.not_mem_nil, or_false, not_or] at h; exact ⟨fun e => h.1.1 e.symm, h.2.1.2.2, h2⟩)
      (by rw [hb1]; have h := kp.out.1; have h2 := (kp.out.lt (p := (b1, _)) (by kmem)).1; simp only [List.map_cons, List.map_nil, List.nodup_cons, List.mem_cons, List.not_mem_nil, or_false, not_or] at h; exact ⟨fun e => h.1.2.1 e.symm, h.2.2.1.2, h2⟩)
      (by rw [hb2]; have h := kp.out.1; have h2 := (kp.out.lt (p := (b2, _)) (by kmem)).1; simp only [List.map_cons, List.map_nil, List.nodup_cons, List.mem_cons, List.not_mem_nil, or_false, not_or] at h; exact ⟨fun e => h.1.2.2.1 e.symm, h.2.2.2.1, h2⟩))
    have HIN := Lib.hid (show ∀ i j, i < 3 → j < 3 → i ≠ j → bb i ≠ bb j by
      have h := kp.out.1
      simp only [List.map_cons, List.map_nil, List.nodup_cons, List.mem_cons, List.not_mem_nil, or_false, not_or] at h
      obtain ⟨_, ⟨p1, p2, _⟩, ⟨p3, _⟩, _⟩ := h
      rw [← hb0, ← hb1] at p1
      rw [← hb0, ← hb2] at p2
      rw [← hb1, ← hb2] at p3
      intro i j hi hj hij
      have hi' : i = 0 ∨ i = 1 ∨ i = 2 := by omega
      have hj' : j = 0 ∨ j = 1 ∨ j = 2 := by omega
      rcases hi' with rfl | rfl | rfl <;> rcases hj' with rfl | rfl | rfl <;> first | exact absurd rfl hij | assumption | exact Ne.symm ‹_›)
    have H0 : CutW w ga B3 67 38 #[.slice (some ⟨b0, 0, none⟩) 148 c0, .slice (some ⟨b1, 0, none⟩) 92 c1, .slice (some ⟨b2, 0, none⟩) 64 c2] #[.int .u32 (x : Nat), .int .u64 (y : Nat), .slice A n c] bb nn cc OO 0 wc := ⟨fun j _ h => three (P := fun j => Own wc w.heap.size 5 (some ⟨bb j, 0, none⟩) (nn j) (cc j) (OO j)) (by rw [hb0, hn0, hc0, hq0]; exact kp.out.isOwn (by kmem)) (by rw [hb1, hn1, hc1, hq1]; exact kp.out.isOwn (by kmem)) (by rw [hb2, hn2, hcc2, hq2]; exact kp.out.isOwn (by kmem)) j h, kp.out.whole (by kmem), kp.out.whole (by kmem), kb.out⟩
    clear kp kb KP KB hb0 hb1 hb2 hc0 hc1 hcc2 hq0 hq1 hq2 hn0 hn1 hn2 hnn three HO0 HO1 HO2 CW0 CW1 CW2 hc2 H0Z H1Z H2Z
    generalize (#[.slice (some ⟨b0, 0, none⟩) 148 c0, .slice (some ⟨b1, 0, none⟩) 92 c1, .slice (some ⟨b2, 0, none⟩) 64 c2] : Array Value) = LA at HLA H0
    have H00 := Lib.hid H0
    clear H0
    go_wp2_with fail
    go_loopw [14] (fun i X => ∃ k : Nat, i = .int .i64 k ∧ k ≤ 3 ∧ CutW w ga B3 67 38 LA #[.int .u32 (x : Nat), .int .u64 (y : Nat), .slice A n c] bb nn cc OO k X) (fun i _ => 3 - (intOf i).toNat)
    case atStart => exact ⟨0, rfl, by omega, H00.out⟩
    case round =>
      obtain ⟨k, rfl, hk, hr⟩ := hrel
      have HR := Lib.hid hr
      clear hr H00
      by_cases hlt : k < 3
      · have kl : (k : Int) < 3 := by omega
        have hown := HR.out.1 k (Nat.le_refl _) hlt
        have hcell : wr.cell? ⟨ga, k, none⟩ = some (.slice (some ⟨bb k, 0, none⟩) (nn k) (cc k)) := (HR.out.2.1.cell k).trans (HLA.out k hlt)
        obtain ⟨hN1, hN2, hfit⟩ := HNN.out k hlt
        obtain ⟨hle, hOlt⟩ := HOO.out k hlt
        obtain ⟨N, hN⟩ : ∃ N, nn k = N := ⟨_, rfl⟩
        obtain ⟨b, hbk⟩ : ∃ b, bb k = b := ⟨_, rfl⟩
        obtain ⟨cK, hcK⟩ : ∃ cK, cc k = cK := ⟨_, rfl⟩
        obtain ⟨O, hO⟩ : ∃ O, OO k = O := ⟨_, rfl⟩
        rw [hN, hbk, hcK, hO] at hown
        rw [hN, hbk, hcK] at hcell
        rw [hN] at hN1 hN2 hfit
        rw [hO] at hle hOlt
        have HBK := Lib.hid hbk
        have hNc2 : N ≤ cK ∧ cK ≤ 9223372036854775807 := by
          obtain ⟨_, _, _, _, p1, p2⟩ := WireBack.own_form hown (by omega)
          exact ⟨p1, p2⟩
        obtain ⟨hNc, hcm2⟩ := hNc2
        have hNcI : (N : Int) ≤ (cK : Int) := by omega
        have HOwn := Lib.hid hown
        have HKC := Lib.hid (fun q (h : q < N) (A' : Option Addr) (hA : A' = some ⟨b, 0, none⟩) => by subst hA; exact kind_any (some ⟨b, 0, none⟩) q cK O hOlt (by omega) wr (rd_front hown.rd q (by omega)))
        have HKE := Lib.hid (fun q (h : q < N) => kind_cut hle (by omega) (by omega) (hfit q (by omega)))
        obtain ⟨T, hT⟩ : ∃ T : Nat → Nat, ∀ i, T i = if i < N then O i else fm (i - N) := ⟨_, fun _ => rfl⟩
        have HT := Lib.hid (fun i (_ : i < N + m) => hT i)
        have HKD := Lib.hid (fun A3 c3 w3 (h : Rd w3 A3 (N + m) T) => kind_any A3 (N + m) c3 T (fun i => by rw [hT]; split; exact hOlt _; exact HFM.out _) (by omega) w3 h)
        have hleT : le T 0 4 = k + 1 := by rw [← hle]; exact le_congr 4 fun i hi => by rw [hT, if_pos (by omega)]
        have HSK := Lib.hid (src_rd (c := cm) (HRM.out.below HR.out.2.2.2 (Nat.le_refl _)) HMN.out)
        have HKM := Lib.hid (show m ≠ 0 → kindE T (N + m) = 3 from fun h => kind_long hleT (by omega) (by omega) (hfit _ (by omega)) (by omega))
        obtain ⟨kW, hkW⟩ : ∃ kW, kindV T (N + m) = kW := ⟨_, rfl⟩
        rw [hkW] at HKD
        clear hkW
        clear hown hle hOlt hfit hT hleT hN hbk hcK hO
        by_cases hc0 : 0 ≤ ct
        · obtain ⟨q, rfl⟩ : ∃ q : Nat, ct = q := ⟨ct.toNat, by omega⟩
          by_cases hq : q < N
          · have hqN : (q : Int) < (N : Int) := by omega
            have hqc : (q : Int) ≤ (cK : Int) := by omega
            have HKQ := Lib.hid (HKC.out q hq)
            have HKE2 := Lib.hid (HKE.out q hq)
            obtain ⟨kE, hkE⟩ : ∃ kE, kindE O q = kE := ⟨_, rfl⟩
            obtain ⟨kV, hkV⟩ : ∃ kV, kindV O q = kV := ⟨_, rfl⟩
            rw [hkE] at HKE2 HKQ
            rw [hkV] at HKQ
            clear hkE hkV HKC HKE
            go_upto_region 7 with fail
            apply wp_region_lit
            refine Ops.wpList_value_if (by rfl) _ (by go_simp; try with_reducible rfl) ?_
            try simp only [Act.put, List.setIfInBounds_toArray, List.set_cons_zero, List.set_cons_succ]
            refine Ops.wpList_value_if (by rfl) (.bool true) (by go_simp; try with_reducible rfl) ?_
            try simp only [Act.put, List.setIfInBounds_toArray, List.set_cons_zero, List.set_cons_succ]
            refine Ops.wpList_value_if (by rfl) _ (by go_simp; try with_reducible rfl) ?_
            try simp only [Act.put, List.setIfInBounds_toArray, List.set_cons_zero, List.set_cons_succ]
            refine Ops.wpList_value_if (by rfl) _ (by go_simp; try with_reducible rfl) ?_
            try simp only [Act.put, List.setIfInBounds_toArray, List.set_cons_zero, List.set_cons_succ]
            refine Ops.wpList_value_if (by rfl) _ (by go_simp; try with_reducible rfl) ?_
            try simp only [Act.put, List.setIfInBounds_toArray, List.set_cons_zero, List.set_cons_succ]
            refine Ops.wpList_value_if (by rfl) (.pointer (some ⟨ga, k, none⟩)) (by go_simp; try with_reducible rfl) ?_
            try simp only [Act.put, List.setIfInBounds_toArray, List.set_cons_zero, List.set_cons_succ]
            refine Ops.wpList_value_if (by rfl) (.slice (some ⟨b, 0, none⟩) N cK) (by go_simp; try with_reducible rfl) ?_
            try simp only [Act.put, List.setIfInBounds_toArray, List.set_cons_zero, List.set_cons_succ]
            refine Ops.wpList_value_if (by rfl) (.int .i64 (N : Nat)) (by go_simp; try with_reducible rfl) ?_
            try simp only [Act.put, List.setIfInBounds_toArray, List.set_cons_zero, List.set_cons_succ]
            refine Ops.wpList_value_if (by rfl) (.bool true) (by go_simp; try with_reducible rfl) ?_
            try simp only [Act.put, List.setIfInBounds_toArray, List.set_cons_zero, List.set_cons_succ]
            refine Ops.wpList_value_if (by rfl) (.bool true) (by go_simp; try with_reducible rfl) ?_
            try simp only [Act.put, List.setIfInBounds_toArray, List.set_cons_zero, List.set_cons_succ]
            go_upto_region 9 with (go_at_call 21; refine (HKQ.out _ rfl).mono ?_; rintro e w' ⟨rfl, rfl⟩)
            rcases HKE2.out with e0 | e0
            · subst e0
              go_upto_region 11 with fail
              by_cases hm0 : m = 0
              · subst hm0
                go_wp2_with fail
                refine ⟨⟨k + 1, by go_num, by omega, HR.out.next⟩, ?_⟩
                show 3 - ((k : Int) + 1).toNat < 3 - (k : Int).toNat
                omega
              · have mp : (0 : Int) < (m : Int) := by omega
                rw [HKM.out hm0] at HKD
                have mp0 : 0 < m := by omega
                go_upto_region 13 with (first
                  | (at_builtin; refine wpList_catFrom (W := w) rfl (.tmp 75) (.tmp 76) 36 5 (.int .u8 0) 1 (by kernel_rfl) (by kernel_rfl) rfl rfl rfl HOwn.out HR.out.2.2.2 HR.out.2.2.2.size m cm Am rfl HSK.out (by omega) (by omega) HT.out ?_; intro A3 c3 w3 hO3 hb3 _ hg3 _; have HK3 := Lib.hid (HKD.out A3 c3 w3 hO3.rd); have HR3 := Lib.hid (HR.out.grown hlt (by rw [HBK.out]; exact hg3) HIN.out HBB.out); clear hO3 hb3 hg3)
                  | (go_at_call 21; refine HK3.out.mono ?_; rintro e w' ⟨rfl, rfl⟩))
                go_wp2_with fail
                refine ⟨⟨k + 1, by go_num, by omega, HR3.out⟩, ?_⟩
                show 3 - ((k : Int) + 1).toNat < 3 - (k : Int).toNat
                omega
            · subst e0
              go_upto_region 11 with fail
              by_cases hm0 : m = 0
              · subst hm0
                go_wp2_with fail
                refine ⟨⟨k + 1, by go_num, by omega, HR.out.next⟩, ?_⟩
                show 3 - ((k : Int) + 1).toNat < 3 - (k : Int).toNat
                omega
              · have mp : (0 : Int) < (m : Int) := by omega
                rw [HKM.out hm0] at HKD
                have mp0 : 0 < m := by omega
                go_upto_region 13 with (first
                  | (at_builtin; refine wpList_catFrom (W := w) rfl (.tmp 75) (.tmp 76) 36 5 (.int .u8 0) 1 (by kernel_rfl) (by kernel_rfl) rfl rfl rfl HOwn.out HR.out.2.2.2 HR.out.2.2.2.size m cm Am rfl HSK.out (by omega) (by omega) HT.out ?_; intro A3 c3 w3 hO3 hb3 _ hg3 _; have HK3 := Lib.hid (HKD.out A3 c3 w3 hO3.rd); have HR3 := Lib.hid (HR.out.grown hlt (by rw [HBK.out]; exact hg3) HIN.out HBB.out); clear hO3 hb3 hg3)
                  | (go_at_call 21; refine HK3.out.mono ?_; rintro e w' ⟨rfl, rfl⟩))
                go_wp2_with fail
                refine ⟨⟨k + 1, by go_num, by omega, HR3.out⟩, ?_⟩
                show 3 - ((k : Int) + 1).toNat < 3 - (k : Int).toNat
                omega
          · have hqN : ¬ ((q : Int) < (N : Int)) := by omega
            have hqN2 : (N : Int) ≤ (q : Int) := by omega
            go_upto_region 7 with fail
            apply wp_region_lit
            refine Ops.wpList_value_if (by rfl) _ (by go_simp; try with_reducible rfl) ?_
            try simp only [Act.put, List.setIfInBounds_toArray, List.set_cons_zero, List.set_cons_succ]
            refine Ops.wpList_value_if (by rfl) (.bool true) (by go_simp; try with_reducible rfl) ?_
            try simp only [Act.put, List.setIfInBounds_toArray, List.set_cons_zero, List.set_cons_succ]
            refine Ops.wpList_value_if (by rfl) _ (by go_simp; try with_reducible rfl) ?_
            try simp only [Act.put, List.setIfInBounds_toArray, List.set_cons_zero, List.set_cons_succ]
            refine Ops.wpList_value_if (by rfl) _ (by go_simp; try with_reducible rfl) ?_
            try simp only [Act.put, List.setIfInBounds_toArray, List.set_cons_zero, List.set_cons_succ]
            refine Ops.wpList_value_if (by rfl) _ (by go_simp; try with_reducible rfl) ?_
            try simp only [Act.put, List.setIfInBounds_toArray, List.set_cons_zero, List.set_cons_succ]
            refine Ops.wpList_value_if (by rfl) (.pointer (some ⟨ga, k, none⟩)) (by go_simp; try with_reducible rfl) ?_
            try simp only [Act.put, List.setIfInBounds_toArray, List.set_cons_zero, List.set_cons_succ]
            refine Ops.wpList_value_if (by rfl) (.slice (some ⟨b, 0, none⟩) N cK) (by go_simp; try with_reducible rfl) ?_
            try simp only [Act.put, List.setIfInBounds_toArray, List.set_cons_zero, List.set_cons_succ]
            refine Ops.wpList_value_if (by rfl) (.int .i64 (N : Nat)) (by go_simp; try with_reducible rfl) ?_
            try simp only [Act.put, List.setIfInBounds_toArray, List.set_cons_zero, List.set_cons_succ]
            refine Ops.wpList_value_if (by rfl) (.bool false) (by go_simp; try with_reducible rfl) ?_
            try simp only [Act.put, List.setIfInBounds_toArray, List.set_cons_zero, List.set_cons_succ]
            refine Ops.wpList_value_if (by rfl) (.bool false) (by go_simp; try with_reducible rfl) ?_
            try simp only [Act.put, List.setIfInBounds_toArray, List.set_cons_zero, List.set_cons_succ]
            go_upto_region 11 with fail
            by_cases hm0 : m = 0
            · subst hm0
              go_wp2_with fail
              refine ⟨⟨k + 1, by go_num, by omega, HR.out.next⟩, ?_⟩
              show 3 - ((k : Int) + 1).toNat < 3 - (k : Int).toNat
              omega
            · have mp : (0 : Int) < (m : Int) := by omega
              rw [HKM.out hm0] at HKD
              have mp0 : 0 < m := by omega
              go_upto_region 13 with (first
                | (at_builtin; refine wpList_catFrom (W := w) rfl (.tmp 75) (.tmp 76) 36 5 (.int .u8 0) 1 (by kernel_rfl) (by kernel_rfl) rfl rfl rfl HOwn.out HR.out.2.2.2 HR.out.2.2.2.size m cm Am rfl HSK.out (by omega) (by omega) HT.out ?_; intro A3 c3 w3 hO3 hb3 _ hg3 _; have HK3 := Lib.hid (HKD.out A3 c3 w3 hO3.rd); have HR3 := Lib.hid (HR.out.grown hlt (by rw [HBK.out]; exact hg3) HIN.out HBB.out); clear hO3 hb3 hg3)
                | (go_at_call 21; refine HK3.out.mono ?_; rintro e w' ⟨rfl, rfl⟩))
              go_wp2_with fail
              refine ⟨⟨k + 1, by go_num, by omega, HR3.out⟩, ?_⟩
              show 3 - ((k : Int) + 1).toNat < 3 - (k : Int).toNat
              omega
        · have hcn : ct < 0 := by omega
          go_upto_region 7 with fail
          apply wp_region_lit
          refine Ops.wpList_value_if (by rfl) _ (by go_simp; try with_reducible rfl) ?_
          try simp only [Act.put, List.setIfInBounds_toArray, List.set_cons_zero, List.set_cons_succ]
          refine Ops.wpList_value_if (by rfl) (.bool false) (by go_simp; try with_reducible rfl) ?_
          try simp only [Act.put, List.setIfInBounds_toArray, List.set_cons_zero, List.set_cons_succ]
          refine Ops.wpList_value_if (by rfl) _ (by go_simp; try with_reducible rfl) ?_
          try simp only [Act.put, List.setIfInBounds_toArray, List.set_cons_zero, List.set_cons_succ]
          refine wpList_pass_if (by rfl) ?_
          try simp only [Act.put, List.setIfInBounds_toArray, List.set_cons_zero, List.set_cons_succ]
          refine wpList_pass_if (by rfl) ?_
          try simp only [Act.put, List.setIfInBounds_toArray, List.set_cons_zero, List.set_cons_succ]
          refine wpList_pass_if (by rfl) ?_
          try simp only [Act.put, List.setIfInBounds_toArray, List.set_cons_zero, List.set_cons_succ]
          refine wpList_pass_if (by rfl) ?_
          try simp only [Act.put, List.setIfInBounds_toArray, List.set_cons_zero, List.set_cons_succ]
          refine wpList_pass_if (by rfl) ?_
          try simp only [Act.put, List.setIfInBounds_toArray, List.set_cons_zero, List.set_cons_succ]
          refine wpList_pass_if (by rfl) ?_
          try simp only [Act.put, List.setIfInBounds_toArray, List.set_cons_zero, List.set_cons_succ]
          refine Ops.wpList_value_if (by rfl) (.bool false) (by go_simp; try with_reducible rfl) ?_
          try simp only [Act.put, List.setIfInBounds_toArray, List.set_cons_zero, List.set_cons_succ]
          go_upto_region 11 with fail
          by_cases hm0 : m = 0
          · subst hm0
            go_wp2_with fail
            refine ⟨⟨k + 1, by go_num, by omega, HR.out.next⟩, ?_⟩
            show 3 - ((k : Int) + 1).toNat < 3 - (k : Int).toNat
            omega
          · have mp : (0 : Int) < (m : Int) := by omega
            rw [HKM.out hm0] at HKD
            have mp0 : 0 < m := by omega
            go_upto_region 13 with (first
              | (at_builtin; refine wpList_catFrom (W := w) rfl (.tmp 75) (.tmp 76) 36 5 (.int .u8 0) 1 (by kernel_rfl) (by kernel_rfl) rfl rfl rfl HOwn.out HR.out.2.2.2 HR.out.2.2.2.size m cm Am rfl HSK.out (by omega) (by omega) HT.out ?_; intro A3 c3 w3 hO3 hb3 _ hg3 _; have HK3 := Lib.hid (HKD.out A3 c3 w3 hO3.rd); have HR3 := Lib.hid (HR.out.grown hlt (by rw [HBK.out]; exact hg3) HIN.out HBB.out); clear hO3 hb3 hg3)
              | (go_at_call 21; refine HK3.out.mono ?_; rintro e w' ⟨rfl, rfl⟩))
            go_wp2_with fail
            refine ⟨⟨k + 1, by go_num, by omega, HR3.out⟩, ?_⟩
            show 3 - ((k : Int) + 1).toNat < 3 - (k : Int).toNat
            omega
      · obtain rfl : k = 3 := by omega
        go_upto_region 15 with fail
        have K3 := Lib.hid HR.out.2.2.1
        have KB := Lib.hid HR.out.2.2.2
        clear HR HNN HOO HLA HBB HIN HRM HFM HMN
        cases hb : boxN n with
        | false =>
          have CW := Lib.hid (fun w => writeData_no (x : Nat) (y : Nat) A n c hb w)
          go_upto_region 16 with (first
            | (refine Poly.wpList_load_row_if (by rfl) 38 (.tmp 9) rfl B3 rfl 38 [.int .u32 (x : Nat), .int .u64 (y : Nat), .slice A n c] _ K3.out rfl rfl (by kernel_rfl) ?_)
            | (go_at_call 10; refine (CW.out _).mono ?_; rintro e w1 ⟨rfl, hb1⟩; have HB1 := Lib.hid (below_trans KB.out hb1); clear hb1))
          go_upto_region 16 with fail
          apply wp_region_lit
          refine Ops.wpList_value_if (by rfl) _ (by go_simp; try with_reducible rfl) ?_
          try simp only [Act.put, List.setIfInBounds_toArray, List.set_cons_zero, List.set_cons_succ]
          refine Ops.wpList_value_if (by rfl) (.bool false) (by go_simp; try with_reducible rfl) ?_
          try simp only [Act.put, List.setIfInBounds_toArray, List.set_cons_zero, List.set_cons_succ]
          refine Ops.wpList_value_if (by rfl) _ (by go_simp; try with_reducible rfl) ?_
          try simp only [Act.put, List.setIfInBounds_toArray, List.set_cons_zero, List.set_cons_succ]
          refine wpList_pass_if (by rfl) ?_
          try simp only [Act.put, List.setIfInBounds_toArray, List.set_cons_zero, List.set_cons_succ]
          refine wpList_pass_if (by rfl) ?_
          try simp only [Act.put, List.setIfInBounds_toArray, List.set_cons_zero, List.set_cons_succ]
          refine Ops.wpList_value_if (by rfl) (.bool false) (by go_simp; try with_reducible rfl) ?_
          try simp only [Act.put, List.setIfInBounds_toArray, List.set_cons_zero, List.set_cons_succ]
          refine Ops.wpList_value_if (by rfl) _ (by go_simp; try with_reducible rfl) ?_
          try simp only [Act.put, List.setIfInBounds_toArray, List.set_cons_zero, List.set_cons_succ]
          refine wpList_pass_if (by rfl) ?_
          try simp only [Act.put, List.setIfInBounds_toArray, List.set_cons_zero, List.set_cons_succ]
          refine wpList_pass_if (by rfl) ?_
          try simp only [Act.put, List.setIfInBounds_toArray, List.set_cons_zero, List.set_cons_succ]
          refine wpList_pass_if (by rfl) ?_
          try simp only [Act.put, List.setIfInBounds_toArray, List.set_cons_zero, List.set_cons_succ]
          refine wpList_pass_if (by rfl) ?_
          try simp only [Act.put, List.setIfInBounds_toArray, List.set_cons_zero, List.set_cons_succ]
          refine Ops.wpList_value_if (by rfl) (.bool false) (by go_simp; try with_reducible rfl) ?_
          try simp only [Act.put, List.setIfInBounds_toArray, List.set_cons_zero, List.set_cons_succ]
          refine Ops.wpList_value_if (by rfl) _ (by go_simp; try with_reducible rfl) ?_
          try simp only [Act.put, List.setIfInBounds_toArray, List.set_cons_zero, List.set_cons_succ]
          refine wpList_pass_if (by rfl) ?_
          try simp only [Act.put, List.setIfInBounds_toArray, List.set_cons_zero, List.set_cons_succ]
          refine wpList_pass_if (by rfl) ?_
          try simp only [Act.put, List.setIfInBounds_toArray, List.set_cons_zero, List.set_cons_succ]
          refine wpList_pass_if (by rfl) ?_
          try simp only [Act.put, List.setIfInBounds_toArray, List.set_cons_zero, List.set_cons_succ]
          refine Ops.wpList_value_if (by rfl) (.bool false) (by go_simp; try with_reducible rfl) ?_
          try simp only [Act.put, List.setIfInBounds_toArray, List.set_cons_zero, List.set_cons_succ]
          go_wp2_with (go_at_call 9; refine (CA.out _).mono ?_; rintro e w3 ⟨rfl, hb3⟩)
          go_ret
          exact ⟨rfl, below_trans HB1.out hb3⟩
        | true =>
          have CW := Lib.hid (fun w hr => writeData_ok x y HX.out HY.out A n c f HF.out hnc hb w hr)
          have HR := Lib.hid (HRD.out.below KB.out (Nat.le_refl _))
          have HL := Lib.hid (WireBack.le_outD x y f)
          have HLT := Lib.hid (outD_lt (r := x) (q := y) HF.out)
          obtain ⟨O, hO⟩ : ∃ O, outD x y f = O := ⟨_, rfl⟩
          obtain ⟨M, hM⟩ : ∃ M, 16 + n = M := ⟨_, rfl⟩
          rw [hO, hM] at CW
          rw [hO] at HL HLT
          clear hO
          go_upto_region 16 with (first
            | (refine Poly.wpList_load_row_if (by rfl) 38 (.tmp 9) rfl B3 rfl 38 [.int .u32 (x : Nat), .int .u64 (y : Nat), .slice A n c] _ K3.out rfl rfl (by kernel_rfl) ?_)
            | (go_at_call 10; refine (CW.out _ HR.out).mono ?_; rintro e w1 ⟨A', c', rfl, ho, hb1⟩; have HO := Lib.hid ho; have HB1 := Lib.hid (below_trans KB.out hb1); clear ho hb1))
          by_cases hc0 : 0 ≤ ct
          · obtain ⟨q, rfl⟩ : ∃ q : Nat, ct = q := ⟨ct.toNat, by omega⟩
            by_cases hq : q < M
            · have hqN : (q : Int) < (M : Int) := by omega
              have HTM := Lib.hid (show Int.tmod (q : Int) 16 = ((q % 16 : Nat) : Int) from rfl)
              by_cases h0 : q % 16 = 0
              · obtain ⟨r, hr⟩ : ∃ r, q % 16 = r := ⟨_, rfl⟩
                rw [hr] at HTM h0
                subst h0
                clear hr
                go_upto_region 16 with fail
                apply wp_region_lit
                refine Ops.wpList_value_if (by rfl) _ (by go_simp; try with_reducible rfl) ?_
                try simp only [Act.put, List.setIfInBounds_toArray, List.set_cons_zero, List.set_cons_succ]
                refine Ops.wpList_value_if (by rfl) (.bool true) (by go_simp; try with_reducible rfl) ?_
                try simp only [Act.put, List.setIfInBounds_toArray, List.set_cons_zero, List.set_cons_succ]
                refine Ops.wpList_value_if (by rfl) _ (by go_simp; try with_reducible rfl) ?_
                try simp only [Act.put, List.setIfInBounds_toArray, List.set_cons_zero, List.set_cons_succ]
                refine Ops.wpList_value_if (by rfl) _ (by go_simp; try with_reducible rfl) ?_
                try simp only [Act.put, List.setIfInBounds_toArray, List.set_cons_zero, List.set_cons_succ]
                refine Ops.wpList_value_if (by rfl) (.bool true) (by go_simp; try with_reducible rfl) ?_
                try simp only [Act.put, List.setIfInBounds_toArray, List.set_cons_zero, List.set_cons_succ]
                refine Ops.wpList_value_if (by rfl) (.bool true) (by go_simp; try with_reducible rfl) ?_
                try simp only [Act.put, List.setIfInBounds_toArray, List.set_cons_zero, List.set_cons_succ]
                refine Ops.wpList_value_if (by rfl) _ (by go_simp; try with_reducible rfl) ?_
                try simp only [Act.put, List.setIfInBounds_toArray, List.set_cons_zero, List.set_cons_succ]
                refine Ops.wpList_value_if (by rfl) _ (by go_simp; try with_reducible rfl) ?_
                try simp only [Act.put, List.setIfInBounds_toArray, List.set_cons_zero, List.set_cons_succ]
                refine Ops.wpList_value_if (by rfl) _ (by go_simp; try with_reducible rfl) ?_
                try simp only [Act.put, List.setIfInBounds_toArray, List.set_cons_zero, List.set_cons_succ]
                refine Ops.wpList_value_if (by rfl) (.int .i64 (M : Nat)) (by go_simp; try with_reducible rfl) ?_
                try simp only [Act.put, List.setIfInBounds_toArray, List.set_cons_zero, List.set_cons_succ]
                refine Ops.wpList_value_if (by rfl) (.bool true) (by go_simp; try with_reducible rfl) ?_
                try simp only [Act.put, List.setIfInBounds_toArray, List.set_cons_zero, List.set_cons_succ]
                refine Ops.wpList_value_if (by rfl) (.bool true) (by go_simp; try with_reducible rfl) ?_
                try simp only [Act.put, List.setIfInBounds_toArray, List.set_cons_zero, List.set_cons_succ]
                refine Ops.wpList_value_if (by rfl) _ (by go_simp; try with_reducible rfl) ?_
                try simp only [Act.put, List.setIfInBounds_toArray, List.set_cons_zero, List.set_cons_succ]
                refine Ops.wpList_value_if (by rfl) _ (by go_simp; try with_reducible rfl) ?_
                try simp only [Act.put, List.setIfInBounds_toArray, List.set_cons_zero, List.set_cons_succ]
                refine Ops.wpList_value_if (by rfl) (.int .i64 (0 : Nat)) (by have hm := HTM.out; go_simp; try rw [hm]; try with_reducible rfl) ?_
                try simp only [Act.put, List.setIfInBounds_toArray, List.set_cons_zero, List.set_cons_succ]
                refine Ops.wpList_value_if (by rfl) (.bool false) (by go_simp; try with_reducible rfl) ?_
                try simp only [Act.put, List.setIfInBounds_toArray, List.set_cons_zero, List.set_cons_succ]
                refine Ops.wpList_value_if (by rfl) (.bool false) (by go_simp; try with_reducible rfl) ?_
                try simp only [Act.put, List.setIfInBounds_toArray, List.set_cons_zero, List.set_cons_succ]
                go_wp2_with (go_at_call 9; refine (CA.out _).mono ?_; rintro e w3 ⟨rfl, hb3⟩)
                go_ret
                exact ⟨rfl, below_trans HB1.out hb3⟩
              · have HKE := Lib.hid (kind_cut (q := q) HL.out (by omega) (by omega) (by unfold fitN; simp [h0]))
                have HKC := Lib.hid (fun (A2 : Option Addr) (hA : A2 = A') => by subst hA; exact kind_any A2 q c' O HLT.out (by omega) w1 (rd_front HO.out.rd q (by omega)))
                have hNc2 : M ≤ c' := by
                  obtain ⟨_, _, _, _, p1, p2⟩ := WireBack.own_form HO.out (by omega)
                  exact p1
                have hqc : (q : Int) ≤ (c' : Int) := by omega
                obtain ⟨r, hr⟩ : ∃ r, q % 16 = r := ⟨_, rfl⟩
                rw [hr] at HTM h0
                clear hr
                obtain ⟨kE, hkE⟩ : ∃ kE, kindE O q = kE := ⟨_, rfl⟩
                obtain ⟨kV, hkV⟩ : ∃ kV, kindV O q = kV := ⟨_, rfl⟩
                rw [hkE] at HKE HKC
                rw [hkV] at HKC
                clear hkE hkV
                have r0 : ((r : Int) != 0) = true := by rw [bne_iff_ne]; omega
                go_upto_region 16 with fail
                apply wp_region_lit
                refine Ops.wpList_value_if (by rfl) _ (by go_simp; try with_reducible rfl) ?_
                try simp only [Act.put, List.setIfInBounds_toArray, List.set_cons_zero, List.set_cons_succ]
                refine Ops.wpList_value_if (by rfl) (.bool true) (by go_simp; try with_reducible rfl) ?_
                try simp only [Act.put, List.setIfInBounds_toArray, List.set_cons_zero, List.set_cons_succ]
                refine Ops.wpList_value_if (by rfl) _ (by go_simp; try with_reducible rfl) ?_
                try simp only [Act.put, List.setIfInBounds_toArray, List.set_cons_zero, List.set_cons_succ]
                refine Ops.wpList_value_if (by rfl) _ (by go_simp; try with_reducible rfl) ?_
                try simp only [Act.put, List.setIfInBounds_toArray, List.set_cons_zero, List.set_cons_succ]
                refine Ops.wpList_value_if (by rfl) (.bool true) (by go_simp; try with_reducible rfl) ?_
                try simp only [Act.put, List.setIfInBounds_toArray, List.set_cons_zero, List.set_cons_succ]
                refine Ops.wpList_value_if (by rfl) (.bool true) (by go_simp; try with_reducible rfl) ?_
                try simp only [Act.put, List.setIfInBounds_toArray, List.set_cons_zero, List.set_cons_succ]
                refine Ops.wpList_value_if (by rfl) _ (by go_simp; try with_reducible rfl) ?_
                try simp only [Act.put, List.setIfInBounds_toArray, List.set_cons_zero, List.set_cons_succ]
                refine Ops.wpList_value_if (by rfl) _ (by go_simp; try with_reducible rfl) ?_
                try simp only [Act.put, List.setIfInBounds_toArray, List.set_cons_zero, List.set_cons_succ]
                refine Ops.wpList_value_if (by rfl) _ (by go_simp; try with_reducible rfl) ?_
                try simp only [Act.put, List.setIfInBounds_toArray, List.set_cons_zero, List.set_cons_succ]
                refine Ops.wpList_value_if (by rfl) (.int .i64 (M : Nat)) (by go_simp; try with_reducible rfl) ?_
                try simp only [Act.put, List.setIfInBounds_toArray, List.set_cons_zero, List.set_cons_succ]
                refine Ops.wpList_value_if (by rfl) (.bool true) (by go_simp; try with_reducible rfl) ?_
                try simp only [Act.put, List.setIfInBounds_toArray, List.set_cons_zero, List.set_cons_succ]
                refine Ops.wpList_value_if (by rfl) (.bool true) (by go_simp; try with_reducible rfl) ?_
                try simp only [Act.put, List.setIfInBounds_toArray, List.set_cons_zero, List.set_cons_succ]
                refine Ops.wpList_value_if (by rfl) _ (by go_simp; try with_reducible rfl) ?_
                try simp only [Act.put, List.setIfInBounds_toArray, List.set_cons_zero, List.set_cons_succ]
                refine Ops.wpList_value_if (by rfl) _ (by go_simp; try with_reducible rfl) ?_
                try simp only [Act.put, List.setIfInBounds_toArray, List.set_cons_zero, List.set_cons_succ]
                refine Ops.wpList_value_if (by rfl) (.int .i64 (r : Nat)) (by have hm := HTM.out; go_simp; try rw [hm]; try with_reducible rfl) ?_
                try simp only [Act.put, List.setIfInBounds_toArray, List.set_cons_zero, List.set_cons_succ]
                refine Ops.wpList_value_if (by rfl) (.bool true) (by go_simp; try with_reducible rfl) ?_
                try simp only [Act.put, List.setIfInBounds_toArray, List.set_cons_zero, List.set_cons_succ]
                refine Ops.wpList_value_if (by rfl) (.bool true) (by go_simp; try with_reducible rfl) ?_
                try simp only [Act.put, List.setIfInBounds_toArray, List.set_cons_zero, List.set_cons_succ]
                go_upto_region 18 with (go_at_call 21; refine (HKC.out _ rfl).mono ?_; rintro e w' ⟨rfl, rfl⟩)
                rcases HKE.out with e0 | e0
                · subst e0
                  go_wp2_with (go_at_call 9; refine (CA.out _).mono ?_; rintro e w3 ⟨rfl, hb3⟩)
                  go_ret
                  exact ⟨rfl, below_trans HB1.out hb3⟩
                · subst e0
                  go_wp2_with (go_at_call 9; refine (CA.out _).mono ?_; rintro e w3 ⟨rfl, hb3⟩)
                  go_ret
                  exact ⟨rfl, below_trans HB1.out hb3⟩
            · have hqN : ¬ ((q : Int) < (M : Int)) := by omega
              have hqN2 : (M : Int) ≤ (q : Int) := by omega
              go_upto_region 16 with fail
              apply wp_region_lit
              refine Ops.wpList_value_if (by rfl) _ (by go_simp; try with_reducible rfl) ?_
              try simp only [Act.put, List.setIfInBounds_toArray, List.set_cons_zero, List.set_cons_succ]
              refine Ops.wpList_value_if (by rfl) (.bool true) (by go_simp; try with_reducible rfl) ?_
              try simp only [Act.put, List.setIfInBounds_toArray, List.set_cons_zero, List.set_cons_succ]
              refine Ops.wpList_value_if (by rfl) _ (by go_simp; try with_reducible rfl) ?_
              try simp only [Act.put, List.setIfInBounds_toArray, List.set_cons_zero, List.set_cons_succ]
              refine Ops.wpList_value_if (by rfl) _ (by go_simp; try with_reducible rfl) ?_
              try simp only [Act.put, List.setIfInBounds_toArray, List.set_cons_zero, List.set_cons_succ]
              refine Ops.wpList_value_if (by rfl) (.bool true) (by go_simp; try with_reducible rfl) ?_
              try simp only [Act.put, List.setIfInBounds_toArray, List.set_cons_zero, List.set_cons_succ]
              refine Ops.wpList_value_if (by rfl) (.bool true) (by go_simp; try with_reducible rfl) ?_
              try simp only [Act.put, List.setIfInBounds_toArray, List.set_cons_zero, List.set_cons_succ]
              refine Ops.wpList_value_if (by rfl) _ (by go_simp; try with_reducible rfl) ?_
              try simp only [Act.put, List.setIfInBounds_toArray, List.set_cons_zero, List.set_cons_succ]
              refine Ops.wpList_value_if (by rfl) _ (by go_simp; try with_reducible rfl) ?_
              try simp only [Act.put, List.setIfInBounds_toArray, List.set_cons_zero, List.set_cons_succ]
              refine Ops.wpList_value_if (by rfl) _ (by go_simp; try with_reducible rfl) ?_
              try simp only [Act.put, List.setIfInBounds_toArray, List.set_cons_zero, List.set_cons_succ]
              refine Ops.wpList_value_if (by rfl) (.int .i64 (M : Nat)) (by go_simp; try with_reducible rfl) ?_
              try simp only [Act.put, List.setIfInBounds_toArray, List.set_cons_zero, List.set_cons_succ]
              refine Ops.wpList_value_if (by rfl) (.bool false) (by go_simp; try with_reducible rfl) ?_
              try simp only [Act.put, List.setIfInBounds_toArray, List.set_cons_zero, List.set_cons_succ]
              refine Ops.wpList_value_if (by rfl) (.bool false) (by go_simp; try with_reducible rfl) ?_
              try simp only [Act.put, List.setIfInBounds_toArray, List.set_cons_zero, List.set_cons_succ]
              refine Ops.wpList_value_if (by rfl) _ (by go_simp; try with_reducible rfl) ?_
              try simp only [Act.put, List.setIfInBounds_toArray, List.set_cons_zero, List.set_cons_succ]
              refine wpList_pass_if (by rfl) ?_
              try simp only [Act.put, List.setIfInBounds_toArray, List.set_cons_zero, List.set_cons_succ]
              refine wpList_pass_if (by rfl) ?_
              try simp only [Act.put, List.setIfInBounds_toArray, List.set_cons_zero, List.set_cons_succ]
              refine wpList_pass_if (by rfl) ?_
              try simp only [Act.put, List.setIfInBounds_toArray, List.set_cons_zero, List.set_cons_succ]
              refine Ops.wpList_value_if (by rfl) (.bool false) (by go_simp; try with_reducible rfl) ?_
              try simp only [Act.put, List.setIfInBounds_toArray, List.set_cons_zero, List.set_cons_succ]
              go_wp2_with (go_at_call 9; refine (CA.out _).mono ?_; rintro e w3 ⟨rfl, hb3⟩)
              go_ret
              exact ⟨rfl, below_trans HB1.out hb3⟩
          · have hcn : ct < 0 := by omega
            go_upto_region 16 with fail
            apply wp_region_lit
            refine Ops.wpList_value_if (by rfl) _ (by go_simp; try with_reducible rfl) ?_
            try simp only [Act.put, List.setIfInBounds_toArray, List.set_cons_zero, List.set_cons_succ]
            refine Ops.wpList_value_if (by rfl) (.bool true) (by go_simp; try with_reducible rfl) ?_
            try simp only [Act.put, List.setIfInBounds_toArray, List.set_cons_zero, List.set_cons_succ]
            refine Ops.wpList_value_if (by rfl) _ (by go_simp; try with_reducible rfl) ?_
            try simp only [Act.put, List.setIfInBounds_toArray, List.set_cons_zero, List.set_cons_succ]
            refine Ops.wpList_value_if (by rfl) _ (by go_simp; try with_reducible rfl) ?_
            try simp only [Act.put, List.setIfInBounds_toArray, List.set_cons_zero, List.set_cons_succ]
            refine Ops.wpList_value_if (by rfl) (.bool false) (by go_simp; try with_reducible rfl) ?_
            try simp only [Act.put, List.setIfInBounds_toArray, List.set_cons_zero, List.set_cons_succ]
            refine Ops.wpList_value_if (by rfl) (.bool false) (by go_simp; try with_reducible rfl) ?_
            try simp only [Act.put, List.setIfInBounds_toArray, List.set_cons_zero, List.set_cons_succ]
            refine Ops.wpList_value_if (by rfl) _ (by go_simp; try with_reducible rfl) ?_
            try simp only [Act.put, List.setIfInBounds_toArray, List.set_cons_zero, List.set_cons_succ]
            refine wpList_pass_if (by rfl) ?_
            try simp only [Act.put, List.setIfInBounds_toArray, List.set_cons_zero, List.set_cons_succ]
            refine wpList_pass_if (by rfl) ?_
            try simp only [Act.put, List.setIfInBounds_toArray, List.set_cons_zero, List.set_cons_succ]
            refine wpList_pass_if (by rfl) ?_
            try simp only [Act.put, List.setIfInBounds_toArray, List.set_cons_zero, List.set_cons_succ]
            refine wpList_pass_if (by rfl) ?_
            try simp only [Act.put, List.setIfInBounds_toArray, List.set_cons_zero, List.set_cons_succ]
            refine Ops.wpList_value_if (by rfl) (.bool false) (by go_simp; try with_reducible rfl) ?_
            try simp only [Act.put, List.setIfInBounds_toArray, List.set_cons_zero, List.set_cons_succ]
            refine Ops.wpList_value_if (by rfl) _ (by go_simp; try with_reducible rfl) ?_
            try simp only [Act.put, List.setIfInBounds_toArray, List.set_cons_zero, List.set_cons_succ]
            refine wpList_pass_if (by rfl) ?_
            try simp only [Act.put, List.setIfInBounds_toArray, List.set_cons_zero, List.set_cons_succ]
            refine wpList_pass_if (by rfl) ?_
            try simp only [Act.put, List.setIfInBounds_toArray, List.set_cons_zero, List.set_cons_succ]
            refine wpList_pass_if (by rfl) ?_
            try simp only [Act.put, List.setIfInBounds_toArray, List.set_cons_zero, List.set_cons_succ]
            refine Ops.wpList_value_if (by rfl) (.bool false) (by go_simp; try with_reducible rfl) ?_
            try simp only [Act.put, List.setIfInBounds_toArray, List.set_cons_zero, List.set_cons_succ]
            go_wp2_with (go_at_call 9; refine (CA.out _).mono ?_; rintro e w3 ⟨rfl, hb3⟩)
            go_ret
            exact ⟨rfl, below_trans HB1.out hb3⟩

end WireCut
end Go.Proofs.Ytpdgnknabjigbaa
