/- ReadData of package wire. -/
import Derived.Test.YtfbkppabgogdgaaWireOpen
import Derived.Test.YtfbkppabgogdgaaWireBuilt
import Derived.Test.YtfbkppabgogdgaaOps
import Derived.Deep.DeepCutAuto
namespace Go.Proofs.Ytfbkppabgogdgaa
namespace Wire
open Go.ChangeShapes Go.WideShapes Go.ChangeAt Go.RowKit
open Num Mem Words Ref Cuts Chacha Quiet

theorem data_none : Try.prog.built 38 [] = some #[.int .u32 0, .int .u64 0, .slice none 0 0] := by kernel_rfl
theorem data_one (x y : Int) (A : Option Addr) (n c : Nat) : (#[.int .u32 x, .int .u64 y, .slice A n c] : Array Value).all (·.oneCell') = true := by simp [Value.oneCell']
theorem sizeData {f : Nat → Nat} {n : Nat} (h : openE f n 4 = 0) : 32 ≤ n ∧ n ≤ 1548 ∧ n % 16 = 0 := by
  have h0 : kindE f n = 0 := by
    cases e : kindE f n with
    | zero => rfl
    | succ m => unfold openE at h; rw [e, if_neg (by omega)] at h; cases h
  have hv : kindV f n = 4 := by
    by_cases e : kindV f n = 4
    · exact e
    · unfold openE at h; rw [if_pos h0, if_neg e] at h; cases h
  have hl : le f 0 4 = 4 := by unfold kindV at hv; rw [if_pos h0] at hv; exact hv
  unfold kindE at h0
  by_cases h4 : n < 4
  · rw [if_pos h4] at h0; cases h0
  rw [if_neg h4, hl, if_neg (by omega)] at h0
  by_cases hf : fitN 4 n = true
  · unfold fitN at hf
    simpa using hf
  · rw [if_neg hf] at h0; cases h0

set_option maxRecDepth 100000 in
set_option maxHeartbeats 4000000 in
theorem readData_no (A : Option Addr) (n c : Nat) (f : Nat → Nat) (hf : ∀ i, f i < 256) (hn : n ≤ 9223372036854775807) (hE : openE f n 4 ≠ 0) (w : World) (hr : Rd w A n f) :
    Calls Try.prog 30 #[.slice A n c] w fun e w' => e = .returned (.tuple #[.agg #[.int .u32 0, .int .u64 0, .slice none 0 0], .int .i64 (openE f n 4 : Nat)]) ∧ Below w.heap.size w w' := by
  have CO := Lib.hid (fun w h => open_no A n c f hf hn 4 hE w h)
  have HR := Lib.hid hr
  obtain ⟨e0, he0⟩ : ∃ e0, openE f n 4 = e0 := ⟨_, rfl⟩
  rw [he0] at CO hE ⊢
  have d : ((e0 : Int) != 0) = true := by rw [bne_iff_ne]; omega
  clear he0 hE hr hf
  go_enter Try.func30, Try.ntmps30
  go_upto_region 1 with fail
  refine cut_world (fun W => Whole W w.heap.size 38 #[.int .u32 0, .int .u64 0, .slice none 0 0] ∧ Below w.heap.size w W) ⟨whole_new _ _ rfl, below_alloc (Below.refl _ _) _⟩ ?_
  rintro W ⟨k1, kb⟩
  have K1 := Lib.hid k1
  have KB := Lib.hid kb
  clear k1 kb
  have HRW := Lib.hid (HR.out.below KB.out (Nat.le_refl _))
  generalize hB : w.heap.size = B at K1 KB ⊢
  have HB := Lib.hid hB
  clear hB
  go_wp2_with (first | (go_at_call 59; refine (CO.out _ HRW.out).mono ?_; rintro e w1 ⟨rfl, rfl⟩) | (refine wpList_built0 rfl 38 rfl #[.int .u32 0, .int .u64 0, .slice none 0 0] data_none ?_) | (refine wpList_store_row rfl 38 (.tmp 2) (.tmp 14) rfl B #[.int .u32 0, .int .u64 0, .slice none 0 0] rfl rfl 38 _ K1.out (by kernel_rfl) rfl (data_one _ _ _ _ _) ?_))
  have hret := setRow_heap _ _ _ (#[.int .u32 0, .int .u64 0, .slice none 0 0] : Array Value) _ _ K1.out
  refine bodyPost_ret (Poly.results_cell_tmp rfl _ _ B 38 [.int .u32 0, .int .u64 0, .slice none 0 0] _ rfl hret rfl rfl (by kernel_rfl)) rfl ?_
  exact ⟨rfl, by rw [HB.out]; exact below_setRow KB.out (Nat.le_refl B) _⟩

set_option maxRecDepth 100000 in
set_option maxHeartbeats 8000000 in
theorem readData_ok (rb off n c : Nat) (f : Nat → Nat) (hf : ∀ i, f i < 256) (hnc : n ≤ c) (hcm : c ≤ 9223372036854775807) (hE : openE f n 4 = 0) (w : World) (hr : Rd w (some ⟨rb, off, none⟩) n f) (hrl : rb < w.heap.size) :
    Calls Try.prog 30 #[.slice (some ⟨rb, off, none⟩) n c] w fun e w' => ∃ gm, e = .returned (.tuple #[.agg #[.int .u32 (le f 4 4 : Nat), .int .u64 (le f 8 8 : Nat), .slice (some ⟨gm, 0, none⟩) (n - 16) (n - 16)], .int .i64 0]) ∧ Whole w' gm 5 (byteCells (fun i => f (16 + i)) (n - 16)).toArray ∧ w.heap.size ≤ gm ∧ Below w.heap.size w w' := by
  have hsz := sizeData hE
  obtain ⟨N, rfl⟩ : ∃ N, n = N + 16 := ⟨n - 16, by omega⟩
  rw [show N + 16 - 16 = N by omega]
  have CO := Lib.hid (fun w h hl => open_ok rb off (N + 16) c f hf hnc hcm 4 hE w h hl)
  have HR := Lib.hid hr
  have HF := Lib.hid hf
  have hN1 : 16 ≤ N := by omega
  have hN2 : N ≤ 1532 := by omega
  have MB := Lib.hid (fun w => made_bytes N (by omega) w)
  have hwr : IntKind.i64.wrap (N : Int) = (N : Int) := by rw [IntKind.wrap_i64]; omega
  clear hr hf hE hsz
  obtain ⟨x, hx⟩ : ∃ x, le f 4 4 = x := ⟨_, rfl⟩
  have HX := Lib.hid hx
  obtain ⟨y, hy⟩ : ∃ y, le f 8 8 = y := ⟨_, rfl⟩
  have HY := Lib.hid hy
  rw [hx, hy]
  clear hx hy
  go_enter Try.func30, Try.ntmps30
  go_upto_region 1 with fail
  refine cut_world (fun W => Whole W w.heap.size 38 #[.int .u32 0, .int .u64 0, .slice none 0 0] ∧ Below w.heap.size w W) ⟨whole_new _ _ rfl, below_alloc (Below.refl _ _) _⟩ ?_
  rintro W ⟨k1, kb⟩
  have K1 := Lib.hid k1
  have KB := Lib.hid kb
  clear k1 kb
  have HRW := Lib.hid (HR.out.below KB.out (Nat.le_refl _))
  generalize hB : w.heap.size = B at K1 KB hrl ⊢
  have HB := Lib.hid hB
  clear hB
  have hBW := K1.out.lt
  go_upto_region 4 with (go_at_call 59; refine (CO.out _ HRW.out (by omega)).mono ?_; rintro e w1 ⟨cb, rfl, hcb, hcur, hb1⟩; have HC1 := Lib.hid hcur; have HB1 := Lib.hid hb1; clear hcur hb1)
  have L1 := Lib.hid (K1.out.below HB1.out hBW)
  have LB := Lib.hid (KB.out.trans (HB1.out.mono (Nat.le_of_lt hBW)))
  have hBc : B < cb := by omega
  have hrc : rb ≠ cb := by omega
  clear K1 KB HRW HB1 hBW hcb CO HR
  have CN := Lib.hid (fun X h hl => number32_any cb rb f HF.out (N + 16) c 4 (by omega) hnc hcm hrc X h hl)
  have CM := Lib.hid (fun X h hl => number64_any cb rb f HF.out (N + 16) c 8 (by omega) hnc hcm hrc X h hl)
  rw [HX.out] at CN
  rw [HY.out] at CM
  go_cut [6] (fun s6 X => ∃ gm ga : Nat, s6 = .pointer (some ⟨ga, 0, none⟩) ∧ B < gm ∧ B < ga ∧ gm ≠ cb ∧ ga ≠ cb ∧ ga ≠ gm ∧ Cur X cb rb f (N + 16) c 16 ∧ Whole X B 38 #[.int .u32 0, .int .u64 0, .slice none 0 0] ∧ Below B w X ∧ Whole X gm 5 (byteCells (fun _ => 0) N).toArray ∧ Whole X ga 38 #[.int .u32 (x : Nat), .int .u64 (y : Nat), .slice (some ⟨gm, 0, none⟩) N N])
  case first =>
    refine region_drew (fun _ => True) (by kernel_rfl) trivial ?_
    intro hS
    refine take 0 _ rfl (by kernel_rfl) (by kernel_rfl) (by kernel_rfl) (fun _ _ _ h => h) (by rfl) hS (by intro w _; go_simp; with_reducible rfl) ?_
    try simp only [Act.put, List.setIfInBounds_toArray, List.set_cons_zero, List.set_cons_succ]
    refine take 2 _ rfl (by kernel_rfl) (by kernel_rfl) (by kernel_rfl) (fun _ _ _ h => h) (by rfl) hS (by intro w _; go_simp; with_reducible rfl) ?_
    try simp only [Act.put, List.setIfInBounds_toArray, List.set_cons_zero, List.set_cons_succ]
    refine take 4 _ rfl (by kernel_rfl) (by kernel_rfl) (by kernel_rfl) (fun _ _ _ h => h) (by rfl) hS (by intro w _; go_simp; with_reducible rfl) ?_
    try simp only [Act.put, List.setIfInBounds_toArray, List.set_cons_zero, List.set_cons_succ]
    refine take 5 _ rfl (by kernel_rfl) (by kernel_rfl) (by kernel_rfl) (fun _ _ _ h => h) (by rfl) hS (by intro w _; go_simp; with_reducible rfl) ?_
    try simp only [Act.put, List.setIfInBounds_toArray, List.set_cons_zero, List.set_cons_succ]
    refine take 6 _ rfl (by kernel_rfl) (by kernel_rfl) (by kernel_rfl) (fun _ _ _ h => h) (by rfl) hS (by intro w _; go_simp; with_reducible rfl) ?_
    try simp only [Act.put, List.setIfInBounds_toArray, List.set_cons_zero, List.set_cons_succ]
    try rw [hwr]
    refine cut_any (fun Y => Cur Y cb rb f (N + 16) c 4 ∧ Whole Y B 38 #[.int .u32 0, .int .u64 0, .slice none 0 0] ∧ Below B w Y) ⟨HC1.out, L1.out, LB.out.drew⟩ ?_
    rintro v0 ⟨qC, qT, qL⟩
    have HC := Lib.hid qC
    have HT := Lib.hid qT
    have HL := Lib.hid qL
    clear qC qT qL HC1 L1 LB
    refine ready_three 1 7 9 rfl rfl rfl (by kernel_rfl) (by rfl) (by rfl) (by rfl) ?_ ?_ ?_
    · intro K hK
      have hlT := HT.out.lt
      have hlC := HC.out.lt
      go_simp
      refine (CN.out _ HC.out (by omega)).mono ?_
      rintro e v1 ⟨rfl, hc, ho, hb⟩
      go_simp
      refine hK.out _ _ trivial ?_
      clear hK K
      try simp only [Act.put, List.setIfInBounds_toArray, List.set_cons_zero, List.set_cons_succ]
      have HL2 := Lib.hid (show Below B w v1 from HL.out.trans ⟨hb.os, hb.tape, hb.output, hb.size, fun k hk => ho k (by omega) (by omega)⟩)
      have HT2 := Lib.hid (show Whole v1 B 38 #[.int .u32 0, .int .u64 0, .slice none 0 0] from (ho B hlT (by omega)).trans HT.out)
      have HC2 := Lib.hid hc
      clear ho hb hc hlT hlC HC HT HL
      have HC := HC2
      clear HC2
      have HT := HT2
      clear HT2
      have HL := HL2
      clear HL2
      refine ready_three 3 7 9 rfl rfl rfl (by kernel_rfl) (by rfl) (by rfl) (by rfl) ?_ ?_ ?_
      · intro K hK
        have hlT := HT.out.lt
        have hlC := HC.out.lt
        go_simp
        refine (CM.out _ HC.out (by omega)).mono ?_
        rintro e v2 ⟨rfl, hc, ho, hb⟩
        go_simp
        refine hK.out _ _ trivial ?_
        clear hK K
        try simp only [Act.put, List.setIfInBounds_toArray, List.set_cons_zero, List.set_cons_succ]
        have HL2 := Lib.hid (show Below B w v2 from HL.out.trans ⟨hb.os, hb.tape, hb.output, hb.size, fun k hk => ho k (by omega) (by omega)⟩)
        have HT2 := Lib.hid (show Whole v2 B 38 #[.int .u32 0, .int .u64 0, .slice none 0 0] from (ho B hlT (by omega)).trans HT.out)
        have HC2 := Lib.hid hc
        clear ho hb hc hlT hlC HC HT HL
        have HC := HC2
        clear HC2
        have HT := HT2
        clear HT2
        have HL := HL2
        clear HL2
        refine ready_two 7 9 rfl rfl (by kernel_rfl) (by rfl) (by rfl) ?_ ?_
        · intro K hK
          have hlT := HT.out.lt
          have hlC := HC.out.lt
          go_simp
          rw [MB.out]
          go_simp
          refine hK.out _ _ trivial ?_
          clear hK K
          try simp only [Act.put, List.setIfInBounds_toArray, List.set_cons_zero, List.set_cons_succ]
          refine cut_any (fun Y => Cur Y cb rb f (N + 16) c 16 ∧ Whole Y B 38 #[.int .u32 0, .int .u64 0, .slice none 0 0] ∧ Below B w Y ∧ Whole Y v2.heap.size 5 (byteCells (fun _ => 0) N).toArray) ⟨HC.out.below ((Below.refl v2.heap.size v2).alloc (Nat.le_refl _) _), HT.out.alloc _, HL.out.alloc (Nat.le_of_lt hlT) _, Whole.new _ _ _⟩ ?_
          rintro v3 ⟨zHC, zHT, zHL, zn⟩
          have hg1 : B < v2.heap.size := hlT
          clear HC HT HL
          generalize v2.heap.size = gm at zn hlT hlC hg1 ⊢
          have hncgm : gm ≠ cb := by omega
          have hnBgm : B < gm := by omega
          have HC := Lib.hid zHC
          have HT := Lib.hid zHT
          have HL := Lib.hid zHL
          have Hm := Lib.hid zn
          clear zn hg1 hlT hlC zHC zHT zHL
          refine take 8 _ rfl (by kernel_rfl) (by kernel_rfl) (by kernel_rfl) (fun _ _ _ h => h) (by rfl) hS (by intro w _; go_simp; with_reducible rfl) ?_
          try simp only [Act.put, List.setIfInBounds_toArray, List.set_cons_zero, List.set_cons_succ]
          refine alone 9 rfl (by kernel_rfl) (by rfl) ?_
          intro K hK
          have hlT := HT.out.lt
          have hlC := HC.out.lt
          have hlm := Hm.out.lt
          go_simp
          refine hK.out _ _ trivial ?_
          clear hK K
          try simp only [Act.put, List.setIfInBounds_toArray, List.set_cons_zero, List.set_cons_succ]
          refine cut_any (fun Y => Cur Y cb rb f (N + 16) c 16 ∧ Whole Y B 38 #[.int .u32 0, .int .u64 0, .slice none 0 0] ∧ Below B w Y ∧ Whole Y gm 5 (byteCells (fun _ => 0) N).toArray ∧ Whole Y v3.heap.size 38 #[.int .u32 0, .int .u64 0, .slice none 0 0]) ⟨HC.out.below ((Below.refl v3.heap.size v3).alloc (Nat.le_refl _) _), HT.out.alloc _, HL.out.alloc (Nat.le_of_lt hlT) _, Hm.out.alloc _, Whole.new _ _ _⟩ ?_
          rintro v4 ⟨zHC, zHT, zHL, zHm, zn⟩
          have hg1 : B < v3.heap.size := hlT
          clear HC HT HL Hm
          generalize v3.heap.size = ga at zn hlT hlC hlm hg1 ⊢
          have hne : ga ≠ gm := by omega
          have hncga : ga ≠ cb := by omega
          have hnBga : B < ga := by omega
          have HC := Lib.hid zHC
          have HT := Lib.hid zHT
          have HL := Lib.hid zHL
          have Hm := Lib.hid zHm
          have Ha := Lib.hid zn
          clear zn hg1 hlT hlC hlm zHC zHT zHL zHm
          refine alone 10 rfl (by kernel_rfl) (by rfl) ?_
          intro K hK
          refine wp_store_row 38 (.tmp 6) (.tmp 24) rfl ga #[.int .u32 (x : Nat), .int .u64 (y : Nat), .slice (some ⟨gm, 0, none⟩) N N] (by rfl) (by rfl) 38 _ Ha.out (by kernel_rfl) rfl (data_one _ _ _ _ _) ?_
          refine hK.out _ _ trivial ?_
          clear hK K
          try simp only [Act.put]
          refine region_end (by kernel_rfl) ?_
          have hX := HT.out.lt
          have hq1 := Whole.farRow HT.out (g := ga) (by omega) #[.int .u32 (x : Nat), .int .u64 (y : Nat), .slice (some ⟨gm, 0, none⟩) N N]
          have hq2 := Whole.farRow Hm.out (g := ga) (by omega) #[.int .u32 (x : Nat), .int .u64 (y : Nat), .slice (some ⟨gm, 0, none⟩) N N]
          have hq3 := setRow_heap _ _ _ (#[.int .u32 (x : Nat), .int .u64 (y : Nat), .slice (some ⟨gm, 0, none⟩) N N] : Array Value) _ _ Ha.out
          have hq4 := HC.out.far (rb := rb) (g := ga) (by omega) (by omega) #[.int .u32 (x : Nat), .int .u64 (y : Nat), .slice (some ⟨gm, 0, none⟩) N N]
          have hq5 := below_setRow (g := ga) HL.out (by omega) #[.int .u32 (x : Nat), .int .u64 (y : Nat), .slice (some ⟨gm, 0, none⟩) N N]
          refine cut_post (F := Exit.then _ _) (fun X => Cur X cb rb f (N + 16) c 16 ∧ Whole X B 38 #[.int .u32 0, .int .u64 0, .slice none 0 0] ∧ Below B w X ∧ Whole X gm 5 (byteCells (fun _ => 0) N).toArray ∧ Whole X ga 38 #[.int .u32 (x : Nat), .int .u64 (y : Nat), .slice (some ⟨gm, 0, none⟩) N N]) ⟨hq4, hq1, hq5, hq2, hq3⟩ ?_
          rintro Y ⟨z1, z2, z3, z4, z5⟩
          have ZZ := Lib.hid (And.intro z1 (And.intro z2 (And.intro z3 (And.intro z4 z5))))
          clear z1 z2 z3 z4 z5 hq1 hq2 hq3 hq4 hq5 HC HT HL Hm Ha hX
          go_wp2_with fail
          go_meet
          exact ⟨gm, ga, rfl, by omega, by omega, by omega, by omega, by omega, ZZ.out⟩
        · intro K hK
          have hlT := HT.out.lt
          have hlC := HC.out.lt
          go_simp
          refine hK.out _ _ trivial ?_
          clear hK K
          try simp only [Act.put, List.setIfInBounds_toArray, List.set_cons_zero, List.set_cons_succ]
          refine cut_any (fun Y => Cur Y cb rb f (N + 16) c 16 ∧ Whole Y B 38 #[.int .u32 0, .int .u64 0, .slice none 0 0] ∧ Below B w Y ∧ Whole Y v2.heap.size 38 #[.int .u32 0, .int .u64 0, .slice none 0 0]) ⟨HC.out.below ((Below.refl v2.heap.size v2).alloc (Nat.le_refl _) _), HT.out.alloc _, HL.out.alloc (Nat.le_of_lt hlT) _, Whole.new _ _ _⟩ ?_
          rintro v5 ⟨zHC, zHT, zHL, zn⟩
          have hg1 : B < v2.heap.size := hlT
          clear HC HT HL
          generalize v2.heap.size = ga at zn hlT hlC hg1 ⊢
          have hncga : ga ≠ cb := by omega
          have hnBga : B < ga := by omega
          have HC := Lib.hid zHC
          have HT := Lib.hid zHT
          have HL := Lib.hid zHL
          have Ha := Lib.hid zn
          clear zn hg1 hlT hlC zHC zHT zHL
          refine alone 7 rfl (by kernel_rfl) (by rfl) ?_
          intro K hK
          have hlT := HT.out.lt
          have hlC := HC.out.lt
          have hla := Ha.out.lt
          go_simp
          rw [MB.out]
          go_simp
          refine hK.out _ _ trivial ?_
          clear hK K
          try simp only [Act.put, List.setIfInBounds_toArray, List.set_cons_zero, List.set_cons_succ]
          refine cut_any (fun Y => Cur Y cb rb f (N + 16) c 16 ∧ Whole Y B 38 #[.int .u32 0, .int .u64 0, .slice none 0 0] ∧ Below B w Y ∧ Whole Y ga 38 #[.int .u32 0, .int .u64 0, .slice none 0 0] ∧ Whole Y v5.heap.size 5 (byteCells (fun _ => 0) N).toArray) ⟨HC.out.below ((Below.refl v5.heap.size v5).alloc (Nat.le_refl _) _), HT.out.alloc _, HL.out.alloc (Nat.le_of_lt hlT) _, Ha.out.alloc _, Whole.new _ _ _⟩ ?_
          rintro v6 ⟨zHC, zHT, zHL, zHa, zn⟩
          have hg1 : B < v5.heap.size := hlT
          clear HC HT HL Ha
          generalize v5.heap.size = gm at zn hlT hlC hla hg1 ⊢
          have hne : ga ≠ gm := by omega
          have hncgm : gm ≠ cb := by omega
          have hnBgm : B < gm := by omega
          have HC := Lib.hid zHC
          have HT := Lib.hid zHT
          have HL := Lib.hid zHL
          have Ha := Lib.hid zHa
          have Hm := Lib.hid zn
          clear zn hg1 hlT hlC hla zHC zHT zHL zHa
          refine take 8 _ rfl (by kernel_rfl) (by kernel_rfl) (by kernel_rfl) (fun _ _ _ h => h) (by rfl) hS (by intro w _; go_simp; with_reducible rfl) ?_
          try simp only [Act.put, List.setIfInBounds_toArray, List.set_cons_zero, List.set_cons_succ]
          refine alone 10 rfl (by kernel_rfl) (by rfl) ?_
          intro K hK
          refine wp_store_row 38 (.tmp 6) (.tmp 24) rfl ga #[.int .u32 (x : Nat), .int .u64 (y : Nat), .slice (some ⟨gm, 0, none⟩) N N] (by rfl) (by rfl) 38 _ Ha.out (by kernel_rfl) rfl (data_one _ _ _ _ _) ?_
          refine hK.out _ _ trivial ?_
          clear hK K
          try simp only [Act.put]
          refine region_end (by kernel_rfl) ?_
          have hX := HT.out.lt
          have hq1 := Whole.farRow HT.out (g := ga) (by omega) #[.int .u32 (x : Nat), .int .u64 (y : Nat), .slice (some ⟨gm, 0, none⟩) N N]
          have hq2 := Whole.farRow Hm.out (g := ga) (by omega) #[.int .u32 (x : Nat), .int .u64 (y : Nat), .slice (some ⟨gm, 0, none⟩) N N]
          have hq3 := setRow_heap _ _ _ (#[.int .u32 (x : Nat), .int .u64 (y : Nat), .slice (some ⟨gm, 0, none⟩) N N] : Array Value) _ _ Ha.out
          have hq4 := HC.out.far (rb := rb) (g := ga) (by omega) (by omega) #[.int .u32 (x : Nat), .int .u64 (y : Nat), .slice (some ⟨gm, 0, none⟩) N N]
          have hq5 := below_setRow (g := ga) HL.out (by omega) #[.int .u32 (x : Nat), .int .u64 (y : Nat), .slice (some ⟨gm, 0, none⟩) N N]
          refine cut_post (F := Exit.then _ _) (fun X => Cur X cb rb f (N + 16) c 16 ∧ Whole X B 38 #[.int .u32 0, .int .u64 0, .slice none 0 0] ∧ Below B w X ∧ Whole X gm 5 (byteCells (fun _ => 0) N).toArray ∧ Whole X ga 38 #[.int .u32 (x : Nat), .int .u64 (y : Nat), .slice (some ⟨gm, 0, none⟩) N N]) ⟨hq4, hq1, hq5, hq2, hq3⟩ ?_
          rintro Y ⟨z1, z2, z3, z4, z5⟩
          have ZZ := Lib.hid (And.intro z1 (And.intro z2 (And.intro z3 (And.intro z4 z5))))
          clear z1 z2 z3 z4 z5 hq1 hq2 hq3 hq4 hq5 HC HT HL Hm Ha hX
          go_wp2_with fail
          go_meet
          exact ⟨gm, ga, rfl, by omega, by omega, by omega, by omega, by omega, ZZ.out⟩
      · intro K hK
        have hlT := HT.out.lt
        have hlC := HC.out.lt
        go_simp
        rw [MB.out]
        go_simp
        refine hK.out _ _ trivial ?_
        clear hK K
        try simp only [Act.put, List.setIfInBounds_toArray, List.set_cons_zero, List.set_cons_succ]
        refine cut_any (fun Y => Cur Y cb rb f (N + 16) c 8 ∧ Whole Y B 38 #[.int .u32 0, .int .u64 0, .slice none 0 0] ∧ Below B w Y ∧ Whole Y v1.heap.size 5 (byteCells (fun _ => 0) N).toArray) ⟨HC.out.below ((Below.refl v1.heap.size v1).alloc (Nat.le_refl _) _), HT.out.alloc _, HL.out.alloc (Nat.le_of_lt hlT) _, Whole.new _ _ _⟩ ?_
        rintro v7 ⟨zHC, zHT, zHL, zn⟩
        have hg1 : B < v1.heap.size := hlT
        clear HC HT HL
        generalize v1.heap.size = gm at zn hlT hlC hg1 ⊢
        have hncgm : gm ≠ cb := by omega
        have hnBgm : B < gm := by omega
        have HC := Lib.hid zHC
        have HT := Lib.hid zHT
        have HL := Lib.hid zHL
        have Hm := Lib.hid zn
        clear zn hg1 hlT hlC zHC zHT zHL
        refine ready_two 3 9 rfl rfl (by kernel_rfl) (by rfl) (by rfl) ?_ ?_
        · intro K hK
          have hlT := HT.out.lt
          have hlC := HC.out.lt
          have hlm := Hm.out.lt
          go_simp
          refine (CM.out _ HC.out (by omega)).mono ?_
          rintro e v8 ⟨rfl, hc, ho, hb⟩
          go_simp
          refine hK.out _ _ trivial ?_
          clear hK K
          try simp only [Act.put, List.setIfInBounds_toArray, List.set_cons_zero, List.set_cons_succ]
          have HL2 := Lib.hid (show Below B w v8 from HL.out.trans ⟨hb.os, hb.tape, hb.output, hb.size, fun k hk => ho k (by omega) (by omega)⟩)
          have HT2 := Lib.hid (show Whole v8 B 38 #[.int .u32 0, .int .u64 0, .slice none 0 0] from (ho B hlT (by omega)).trans HT.out)
          have Hm2 := Lib.hid (show Whole v8 gm 5 (byteCells (fun _ => 0) N).toArray from (ho gm hlm (by omega)).trans Hm.out)
          have HC2 := Lib.hid hc
          clear ho hb hc hlT hlC hlm HC HT HL Hm
          have HC := HC2
          clear HC2
          have HT := HT2
          clear HT2
          have HL := HL2
          clear HL2
          have Hm := Hm2
          clear Hm2
          refine take 8 _ rfl (by kernel_rfl) (by kernel_rfl) (by kernel_rfl) (fun _ _ _ h => h) (by rfl) hS (by intro w _; go_simp; with_reducible rfl) ?_
          try simp only [Act.put, List.setIfInBounds_toArray, List.set_cons_zero, List.set_cons_succ]
          refine alone 9 rfl (by kernel_rfl) (by rfl) ?_
          intro K hK
          have hlT := HT.out.lt
          have hlC := HC.out.lt
          have hlm := Hm.out.lt
          go_simp
          refine hK.out _ _ trivial ?_
          clear hK K
          try simp only [Act.put, List.setIfInBounds_toArray, List.set_cons_zero, List.set_cons_succ]
          refine cut_any (fun Y => Cur Y cb rb f (N + 16) c 16 ∧ Whole Y B 38 #[.int .u32 0, .int .u64 0, .slice none 0 0] ∧ Below B w Y ∧ Whole Y gm 5 (byteCells (fun _ => 0) N).toArray ∧ Whole Y v8.heap.size 38 #[.int .u32 0, .int .u64 0, .slice none 0 0]) ⟨HC.out.below ((Below.refl v8.heap.size v8).alloc (Nat.le_refl _) _), HT.out.alloc _, HL.out.alloc (Nat.le_of_lt hlT) _, Hm.out.alloc _, Whole.new _ _ _⟩ ?_
          rintro v9 ⟨zHC, zHT, zHL, zHm, zn⟩
          have hg1 : B < v8.heap.size := hlT
          clear HC HT HL Hm
          generalize v8.heap.size = ga at zn hlT hlC hlm hg1 ⊢
          have hne : ga ≠ gm := by omega
          have hncga : ga ≠ cb := by omega
          have hnBga : B < ga := by omega
          have HC := Lib.hid zHC
          have HT := Lib.hid zHT
          have HL := Lib.hid zHL
          have Hm := Lib.hid zHm
          have Ha := Lib.hid zn
          clear zn hg1 hlT hlC hlm zHC zHT zHL zHm
          refine alone 10 rfl (by kernel_rfl) (by rfl) ?_
          intro K hK
          refine wp_store_row 38 (.tmp 6) (.tmp 24) rfl ga #[.int .u32 (x : Nat), .int .u64 (y : Nat), .slice (some ⟨gm, 0, none⟩) N N] (by rfl) (by rfl) 38 _ Ha.out (by kernel_rfl) rfl (data_one _ _ _ _ _) ?_
          refine hK.out _ _ trivial ?_
          clear hK K
          try simp only [Act.put]
          refine region_end (by kernel_rfl) ?_
          have hX := HT.out.lt
          have hq1 := Whole.farRow HT.out (g := ga) (by omega) #[.int .u32 (x : Nat), .int .u64 (y : Nat), .slice (some ⟨gm, 0, none⟩) N N]
          have hq2 := Whole.farRow Hm.out (g := ga) (by omega) #[.int .u32 (x : Nat), .int .u64 (y : Nat), .slice (some ⟨gm, 0, none⟩) N N]
          have hq3 := setRow_heap _ _ _ (#[.int .u32 (x : Nat), .int .u64 (y : Nat), .slice (some ⟨gm, 0, none⟩) N N] : Array Value) _ _ Ha.out
          have hq4 := HC.out.far (rb := rb) (g := ga) (by omega) (by omega) #[.int .u32 (x : Nat), .int .u64 (y : Nat), .slice (some ⟨gm, 0, none⟩) N N]
          have hq5 := below_setRow (g := ga) HL.out (by omega) #[.int .u32 (x : Nat), .int .u64 (y : Nat), .slice (some ⟨gm, 0, none⟩) N N]
          refine cut_post (F := Exit.then _ _) (fun X => Cur X cb rb f (N + 16) c 16 ∧ Whole X B 38 #[.int .u32 0, .int .u64 0, .slice none 0 0] ∧ Below B w X ∧ Whole X gm 5 (byteCells (fun _ => 0) N).toArray ∧ Whole X ga 38 #[.int .u32 (x : Nat), .int .u64 (y : Nat), .slice (some ⟨gm, 0, none⟩) N N]) ⟨hq4, hq1, hq5, hq2, hq3⟩ ?_
          rintro Y ⟨z1, z2, z3, z4, z5⟩
          have ZZ := Lib.hid (And.intro z1 (And.intro z2 (And.intro z3 (And.intro z4 z5))))
          clear z1 z2 z3 z4 z5 hq1 hq2 hq3 hq4 hq5 HC HT HL Hm Ha hX
          go_wp2_with fail
          go_meet
          exact ⟨gm, ga, rfl, by omega, by omega, by omega, by omega, by omega, ZZ.out⟩
        · intro K hK
          have hlT := HT.out.lt
          have hlC := HC.out.lt
          have hlm := Hm.out.lt
          go_simp
          refine hK.out _ _ trivial ?_
          clear hK K
          try simp only [Act.put, List.setIfInBounds_toArray, List.set_cons_zero, List.set_cons_succ]
          refine cut_any (fun Y => Cur Y cb rb f (N + 16) c 8 ∧ Whole Y B 38 #[.int .u32 0, .int .u64 0, .slice none 0 0] ∧ Below B w Y ∧ Whole Y gm 5 (byteCells (fun _ => 0) N).toArray ∧ Whole Y v7.heap.size 38 #[.int .u32 0, .int .u64 0, .slice none 0 0]) ⟨HC.out.below ((Below.refl v7.heap.size v7).alloc (Nat.le_refl _) _), HT.out.alloc _, HL.out.alloc (Nat.le_of_lt hlT) _, Hm.out.alloc _, Whole.new _ _ _⟩ ?_
          rintro v10 ⟨zHC, zHT, zHL, zHm, zn⟩
          have hg1 : B < v7.heap.size := hlT
          clear HC HT HL Hm
          generalize v7.heap.size = ga at zn hlT hlC hlm hg1 ⊢
          have hne : ga ≠ gm := by omega
          have hncga : ga ≠ cb := by omega
          have hnBga : B < ga := by omega
          have HC := Lib.hid zHC
          have HT := Lib.hid zHT
          have HL := Lib.hid zHL
          have Hm := Lib.hid zHm
          have Ha := Lib.hid zn
          clear zn hg1 hlT hlC hlm zHC zHT zHL zHm
          refine alone 3 rfl (by kernel_rfl) (by rfl) ?_
          intro K hK
          have hlT := HT.out.lt
          have hlC := HC.out.lt
          have hlm := Hm.out.lt
          have hla := Ha.out.lt
          go_simp
          refine (CM.out _ HC.out (by omega)).mono ?_
          rintro e v11 ⟨rfl, hc, ho, hb⟩
          go_simp
          refine hK.out _ _ trivial ?_
          clear hK K
          try simp only [Act.put, List.setIfInBounds_toArray, List.set_cons_zero, List.set_cons_succ]
          have HL2 := Lib.hid (show Below B w v11 from HL.out.trans ⟨hb.os, hb.tape, hb.output, hb.size, fun k hk => ho k (by omega) (by omega)⟩)
          have HT2 := Lib.hid (show Whole v11 B 38 #[.int .u32 0, .int .u64 0, .slice none 0 0] from (ho B hlT (by omega)).trans HT.out)
          have Hm2 := Lib.hid (show Whole v11 gm 5 (byteCells (fun _ => 0) N).toArray from (ho gm hlm (by omega)).trans Hm.out)
          have Ha2 := Lib.hid (show Whole v11 ga 38 #[.int .u32 0, .int .u64 0, .slice none 0 0] from (ho ga hla (by omega)).trans Ha.out)
          have HC2 := Lib.hid hc
          clear ho hb hc hlT hlC hlm hla HC HT HL Hm Ha
          have HC := HC2
          clear HC2
          have HT := HT2
          clear HT2
          have HL := HL2
          clear HL2
          have Hm := Hm2
          clear Hm2
          have Ha := Ha2
          clear Ha2
          refine take 8 _ rfl (by kernel_rfl) (by kernel_rfl) (by kernel_rfl) (fun _ _ _ h => h) (by rfl) hS (by intro w _; go_simp; with_reducible rfl) ?_
          try simp only [Act.put, List.setIfInBounds_toArray, List.set_cons_zero, List.set_cons_succ]
          refine alone 10 rfl (by kernel_rfl) (by rfl) ?_
          intro K hK
          refine wp_store_row 38 (.tmp 6) (.tmp 24) rfl ga #[.int .u32 (x : Nat), .int .u64 (y : Nat), .slice (some ⟨gm, 0, none⟩) N N] (by rfl) (by rfl) 38 _ Ha.out (by kernel_rfl) rfl (data_one _ _ _ _ _) ?_
          refine hK.out _ _ trivial ?_
          clear hK K
          try simp only [Act.put]
          refine region_end (by kernel_rfl) ?_
          have hX := HT.out.lt
          have hq1 := Whole.farRow HT.out (g := ga) (by omega) #[.int .u32 (x : Nat), .int .u64 (y : Nat), .slice (some ⟨gm, 0, none⟩) N N]
          have hq2 := Whole.farRow Hm.out (g := ga) (by omega) #[.int .u32 (x : Nat), .int .u64 (y : Nat), .slice (some ⟨gm, 0, none⟩) N N]
          have hq3 := setRow_heap _ _ _ (#[.int .u32 (x : Nat), .int .u64 (y : Nat), .slice (some ⟨gm, 0, none⟩) N N] : Array Value) _ _ Ha.out
          have hq4 := HC.out.far (rb := rb) (g := ga) (by omega) (by omega) #[.int .u32 (x : Nat), .int .u64 (y : Nat), .slice (some ⟨gm, 0, none⟩) N N]
          have hq5 := below_setRow (g := ga) HL.out (by omega) #[.int .u32 (x : Nat), .int .u64 (y : Nat), .slice (some ⟨gm, 0, none⟩) N N]
          refine cut_post (F := Exit.then _ _) (fun X => Cur X cb rb f (N + 16) c 16 ∧ Whole X B 38 #[.int .u32 0, .int .u64 0, .slice none 0 0] ∧ Below B w X ∧ Whole X gm 5 (byteCells (fun _ => 0) N).toArray ∧ Whole X ga 38 #[.int .u32 (x : Nat), .int .u64 (y : Nat), .slice (some ⟨gm, 0, none⟩) N N]) ⟨hq4, hq1, hq5, hq2, hq3⟩ ?_
          rintro Y ⟨z1, z2, z3, z4, z5⟩
          have ZZ := Lib.hid (And.intro z1 (And.intro z2 (And.intro z3 (And.intro z4 z5))))
          clear z1 z2 z3 z4 z5 hq1 hq2 hq3 hq4 hq5 HC HT HL Hm Ha hX
          go_wp2_with fail
          go_meet
          exact ⟨gm, ga, rfl, by omega, by omega, by omega, by omega, by omega, ZZ.out⟩
      · intro K hK
        have hlT := HT.out.lt
        have hlC := HC.out.lt
        go_simp
        refine hK.out _ _ trivial ?_
        clear hK K
        try simp only [Act.put, List.setIfInBounds_toArray, List.set_cons_zero, List.set_cons_succ]
        refine cut_any (fun Y => Cur Y cb rb f (N + 16) c 8 ∧ Whole Y B 38 #[.int .u32 0, .int .u64 0, .slice none 0 0] ∧ Below B w Y ∧ Whole Y v1.heap.size 38 #[.int .u32 0, .int .u64 0, .slice none 0 0]) ⟨HC.out.below ((Below.refl v1.heap.size v1).alloc (Nat.le_refl _) _), HT.out.alloc _, HL.out.alloc (Nat.le_of_lt hlT) _, Whole.new _ _ _⟩ ?_
        rintro v12 ⟨zHC, zHT, zHL, zn⟩
        have hg1 : B < v1.heap.size := hlT
        clear HC HT HL
        generalize v1.heap.size = ga at zn hlT hlC hg1 ⊢
        have hncga : ga ≠ cb := by omega
        have hnBga : B < ga := by omega
        have HC := Lib.hid zHC
        have HT := Lib.hid zHT
        have HL := Lib.hid zHL
        have Ha := Lib.hid zn
        clear zn hg1 hlT hlC zHC zHT zHL
        refine ready_two 3 7 rfl rfl (by kernel_rfl) (by rfl) (by rfl) ?_ ?_
        · intro K hK
          have hlT := HT.out.lt
          have hlC := HC.out.lt
          have hla := Ha.out.lt
          go_simp
          refine (CM.out _ HC.out (by omega)).mono ?_
          rintro e v13 ⟨rfl, hc, ho, hb⟩
          go_simp
          refine hK.out _ _ trivial ?_
          clear hK K
          try simp only [Act.put, List.setIfInBounds_toArray, List.set_cons_zero, List.set_cons_succ]
          have HL2 := Lib.hid (show Below B w v13 from HL.out.trans ⟨hb.os, hb.tape, hb.output, hb.size, fun k hk => ho k (by omega) (by omega)⟩)
          have HT2 := Lib.hid (show Whole v13 B 38 #[.int .u32 0, .int .u64 0, .slice none 0 0] from (ho B hlT (by omega)).trans HT.out)
          have Ha2 := Lib.hid (show Whole v13 ga 38 #[.int .u32 0, .int .u64 0, .slice none 0 0] from (ho ga hla (by omega)).trans Ha.out)
          have HC2 := Lib.hid hc
          clear ho hb hc hlT hlC hla HC HT HL Ha
          have HC := HC2
          clear HC2
          have HT := HT2
          clear HT2
          have HL := HL2
          clear HL2
          have Ha := Ha2
          clear Ha2
          refine alone 7 rfl (by kernel_rfl) (by rfl) ?_
          intro K hK
          have hlT := HT.out.lt
          have hlC := HC.out.lt
          have hla := Ha.out.lt
          go_simp
          rw [MB.out]
          go_simp
          refine hK.out _ _ trivial ?_
          clear hK K
          try simp only [Act.put, List.setIfInBounds_toArray, List.set_cons_zero, List.set_cons_succ]
          refine cut_any (fun Y => Cur Y cb rb f (N + 16) c 16 ∧ Whole Y B 38 #[.int .u32 0, .int .u64 0, .slice none 0 0] ∧ Below B w Y ∧ Whole Y ga 38 #[.int .u32 0, .int .u64 0, .slice none 0 0] ∧ Whole Y v13.heap.size 5 (byteCells (fun _ => 0) N).toArray) ⟨HC.out.below ((Below.refl v13.heap.size v13).alloc (Nat.le_refl _) _), HT.out.alloc _, HL.out.alloc (Nat.le_of_lt hlT) _, Ha.out.alloc _, Whole.new _ _ _⟩ ?_
          rintro v14 ⟨zHC, zHT, zHL, zHa, zn⟩
          have hg1 : B < v13.heap.size := hlT
          clear HC HT HL Ha
          generalize v13.heap.size = gm at zn hlT hlC hla hg1 ⊢
          have hne : ga ≠ gm := by omega
          have hncgm : gm ≠ cb := by omega
          have hnBgm : B < gm := by omega
          have HC := Lib.hid zHC
          have HT := Lib.hid zHT
          have HL := Lib.hid zHL
          have Ha := Lib.hid zHa
          have Hm := Lib.hid zn
          clear zn hg1 hlT hlC hla zHC zHT zHL zHa
          refine take 8 _ rfl (by kernel_rfl) (by kernel_rfl) (by kernel_rfl) (fun _ _ _ h => h) (by rfl) hS (by intro w _; go_simp; with_reducible rfl) ?_
          try simp only [Act.put, List.setIfInBounds_toArray, List.set_cons_zero, List.set_cons_succ]
          refine alone 10 rfl (by kernel_rfl) (by rfl) ?_
          intro K hK
          refine wp_store_row 38 (.tmp 6) (.tmp 24) rfl ga #[.int .u32 (x : Nat), .int .u64 (y : Nat), .slice (some ⟨gm, 0, none⟩) N N] (by rfl) (by rfl) 38 _ Ha.out (by kernel_rfl) rfl (data_one _ _ _ _ _) ?_
          refine hK.out _ _ trivial ?_
          clear hK K
          try simp only [Act.put]
          refine region_end (by kernel_rfl) ?_
          have hX := HT.out.lt
          have hq1 := Whole.farRow HT.out (g := ga) (by omega) #[.int .u32 (x : Nat), .int .u64 (y : Nat), .slice (some ⟨gm, 0, none⟩) N N]
          have hq2 := Whole.farRow Hm.out (g := ga) (by omega) #[.int .u32 (x : Nat), .int .u64 (y : Nat), .slice (some ⟨gm, 0, none⟩) N N]
          have hq3 := setRow_heap _ _ _ (#[.int .u32 (x : Nat), .int .u64 (y : Nat), .slice (some ⟨gm, 0, none⟩) N N] : Array Value) _ _ Ha.out
          have hq4 := HC.out.far (rb := rb) (g := ga) (by omega) (by omega) #[.int .u32 (x : Nat), .int .u64 (y : Nat), .slice (some ⟨gm, 0, none⟩) N N]
          have hq5 := below_setRow (g := ga) HL.out (by omega) #[.int .u32 (x : Nat), .int .u64 (y : Nat), .slice (some ⟨gm, 0, none⟩) N N]
          refine cut_post (F := Exit.then _ _) (fun X => Cur X cb rb f (N + 16) c 16 ∧ Whole X B 38 #[.int .u32 0, .int .u64 0, .slice none 0 0] ∧ Below B w X ∧ Whole X gm 5 (byteCells (fun _ => 0) N).toArray ∧ Whole X ga 38 #[.int .u32 (x : Nat), .int .u64 (y : Nat), .slice (some ⟨gm, 0, none⟩) N N]) ⟨hq4, hq1, hq5, hq2, hq3⟩ ?_
          rintro Y ⟨z1, z2, z3, z4, z5⟩
          have ZZ := Lib.hid (And.intro z1 (And.intro z2 (And.intro z3 (And.intro z4 z5))))
          clear z1 z2 z3 z4 z5 hq1 hq2 hq3 hq4 hq5 HC HT HL Hm Ha hX
          go_wp2_with fail
          go_meet
          exact ⟨gm, ga, rfl, by omega, by omega, by omega, by omega, by omega, ZZ.out⟩
        · intro K hK
          have hlT := HT.out.lt
          have hlC := HC.out.lt
          have hla := Ha.out.lt
          go_simp
          rw [MB.out]
          go_simp
          refine hK.out _ _ trivial ?_
          clear hK K
          try simp only [Act.put, List.setIfInBounds_toArray, List.set_cons_zero, List.set_cons_succ]
          refine cut_any (fun Y => Cur Y cb rb f (N + 16) c 8 ∧ Whole Y B 38 #[.int .u32 0, .int .u64 0, .slice none 0 0] ∧ Below B w Y ∧ Whole Y ga 38 #[.int .u32 0, .int .u64 0, .slice none 0 0] ∧ Whole Y v12.heap.size 5 (byteCells (fun _ => 0) N).toArray) ⟨HC.out.below ((Below.refl v12.heap.size v12).alloc (Nat.le_refl _) _), HT.out.alloc _, HL.out.alloc (Nat.le_of_lt hlT) _, Ha.out.alloc _, Whole.new _ _ _⟩ ?_
          rintro v15 ⟨zHC, zHT, zHL, zHa, zn⟩
          have hg1 : B < v12.heap.size := hlT
          clear HC HT HL Ha
          generalize v12.heap.size = gm at zn hlT hlC hla hg1 ⊢
          have hne : ga ≠ gm := by omega
          have hncgm : gm ≠ cb := by omega
          have hnBgm : B < gm := by omega
          have HC := Lib.hid zHC
          have HT := Lib.hid zHT
          have HL := Lib.hid zHL
          have Ha := Lib.hid zHa
          have Hm := Lib.hid zn
          clear zn hg1 hlT hlC hla zHC zHT zHL zHa
          refine alone 3 rfl (by kernel_rfl) (by rfl) ?_
          intro K hK
          have hlT := HT.out.lt
          have hlC := HC.out.lt
          have hlm := Hm.out.lt
          have hla := Ha.out.lt
          go_simp
          refine (CM.out _ HC.out (by omega)).mono ?_
          rintro e v16 ⟨rfl, hc, ho, hb⟩
          go_simp
          refine hK.out _ _ trivial ?_
          clear hK K
          try simp only [Act.put, List.setIfInBounds_toArray, List.set_cons_zero, List.set_cons_succ]
          have HL2 := Lib.hid (show Below B w v16 from HL.out.trans ⟨hb.os, hb.tape, hb.output, hb.size, fun k hk => ho k (by omega) (by omega)⟩)
          have HT2 := Lib.hid (show Whole v16 B 38 #[.int .u32 0, .int .u64 0, .slice none 0 0] from (ho B hlT (by omega)).trans HT.out)
          have Hm2 := Lib.hid (show Whole v16 gm 5 (byteCells (fun _ => 0) N).toArray from (ho gm hlm (by omega)).trans Hm.out)
          have Ha2 := Lib.hid (show Whole v16 ga 38 #[.int .u32 0, .int .u64 0, .slice none 0 0] from (ho ga hla (by omega)).trans Ha.out)
          have HC2 := Lib.hid hc
          clear ho hb hc hlT hlC hlm hla HC HT HL Hm Ha
          have HC := HC2
          clear HC2
          have HT := HT2
          clear HT2
          have HL := HL2
          clear HL2
          have Hm := Hm2
          clear Hm2
          have Ha := Ha2
          clear Ha2
          refine take 8 _ rfl (by kernel_rfl) (by kernel_rfl) (by kernel_rfl) (fun _ _ _ h => h) (by rfl) hS (by intro w _; go_simp; with_reducible rfl) ?_
          try simp only [Act.put, List.setIfInBounds_toArray, List.set_cons_zero, List.set_cons_succ]
          refine alone 10 rfl (by kernel_rfl) (by rfl) ?_
          intro K hK
          refine wp_store_row 38 (.tmp 6) (.tmp 24) rfl ga #[.int .u32 (x : Nat), .int .u64 (y : Nat), .slice (some ⟨gm, 0, none⟩) N N] (by rfl) (by rfl) 38 _ Ha.out (by kernel_rfl) rfl (data_one _ _ _ _ _) ?_
          refine hK.out _ _ trivial ?_
          clear hK K
          try simp only [Act.put]
          refine region_end (by kernel_rfl) ?_
          have hX := HT.out.lt
          have hq1 := Whole.farRow HT.out (g := ga) (by omega) #[.int .u32 (x : Nat), .int .u64 (y : Nat), .slice (some ⟨gm, 0, none⟩) N N]
          have hq2 := Whole.farRow Hm.out (g := ga) (by omega) #[.int .u32 (x : Nat), .int .u64 (y : Nat), .slice (some ⟨gm, 0, none⟩) N N]
          have hq3 := setRow_heap _ _ _ (#[.int .u32 (x : Nat), .int .u64 (y : Nat), .slice (some ⟨gm, 0, none⟩) N N] : Array Value) _ _ Ha.out
          have hq4 := HC.out.far (rb := rb) (g := ga) (by omega) (by omega) #[.int .u32 (x : Nat), .int .u64 (y : Nat), .slice (some ⟨gm, 0, none⟩) N N]
          have hq5 := below_setRow (g := ga) HL.out (by omega) #[.int .u32 (x : Nat), .int .u64 (y : Nat), .slice (some ⟨gm, 0, none⟩) N N]
          refine cut_post (F := Exit.then _ _) (fun X => Cur X cb rb f (N + 16) c 16 ∧ Whole X B 38 #[.int .u32 0, .int .u64 0, .slice none 0 0] ∧ Below B w X ∧ Whole X gm 5 (byteCells (fun _ => 0) N).toArray ∧ Whole X ga 38 #[.int .u32 (x : Nat), .int .u64 (y : Nat), .slice (some ⟨gm, 0, none⟩) N N]) ⟨hq4, hq1, hq5, hq2, hq3⟩ ?_
          rintro Y ⟨z1, z2, z3, z4, z5⟩
          have ZZ := Lib.hid (And.intro z1 (And.intro z2 (And.intro z3 (And.intro z4 z5))))
          clear z1 z2 z3 z4 z5 hq1 hq2 hq3 hq4 hq5 HC HT HL Hm Ha hX
          go_wp2_with fail
          go_meet
          exact ⟨gm, ga, rfl, by omega, by omega, by omega, by omega, by omega, ZZ.out⟩
    · intro K hK
      have hlT := HT.out.lt
      have hlC := HC.out.lt
      go_simp
      rw [MB.out]
      go_simp
      refine hK.out _ _ trivial ?_
      clear hK K
      try simp only [Act.put, List.setIfInBounds_toArray, List.set_cons_zero, List.set_cons_succ]
      refine cut_any (fun Y => Cur Y cb rb f (N + 16) c 4 ∧ Whole Y B 38 #[.int .u32 0, .int .u64 0, .slice none 0 0] ∧ Below B w Y ∧ Whole Y v0.heap.size 5 (byteCells (fun _ => 0) N).toArray) ⟨HC.out.below ((Below.refl v0.heap.size v0).alloc (Nat.le_refl _) _), HT.out.alloc _, HL.out.alloc (Nat.le_of_lt hlT) _, Whole.new _ _ _⟩ ?_
      rintro v17 ⟨zHC, zHT, zHL, zn⟩
      have hg1 : B < v0.heap.size := hlT
      clear HC HT HL
      generalize v0.heap.size = gm at zn hlT hlC hg1 ⊢
      have hncgm : gm ≠ cb := by omega
      have hnBgm : B < gm := by omega
      have HC := Lib.hid zHC
      have HT := Lib.hid zHT
      have HL := Lib.hid zHL
      have Hm := Lib.hid zn
      clear zn hg1 hlT hlC zHC zHT zHL
      refine ready_two 1 9 rfl rfl (by kernel_rfl) (by rfl) (by rfl) ?_ ?_
      · intro K hK
        have hlT := HT.out.lt
        have hlC := HC.out.lt
        have hlm := Hm.out.lt
        go_simp
        refine (CN.out _ HC.out (by omega)).mono ?_
        rintro e v18 ⟨rfl, hc, ho, hb⟩
        go_simp
        refine hK.out _ _ trivial ?_
        clear hK K
        try simp only [Act.put, List.setIfInBounds_toArray, List.set_cons_zero, List.set_cons_succ]
        have HL2 := Lib.hid (show Below B w v18 from HL.out.trans ⟨hb.os, hb.tape, hb.output, hb.size, fun k hk => ho k (by omega) (by omega)⟩)
        have HT2 := Lib.hid (show Whole v18 B 38 #[.int .u32 0, .int .u64 0, .slice none 0 0] from (ho B hlT (by omega)).trans HT.out)
        have Hm2 := Lib.hid (show Whole v18 gm 5 (byteCells (fun _ => 0) N).toArray from (ho gm hlm (by omega)).trans Hm.out)
        have HC2 := Lib.hid hc
        clear ho hb hc hlT hlC hlm HC HT HL Hm
        have HC := HC2
        clear HC2
        have HT := HT2
        clear HT2
        have HL := HL2
        clear HL2
        have Hm := Hm2
        clear Hm2
        refine ready_two 3 9 rfl rfl (by kernel_rfl) (by rfl) (by rfl) ?_ ?_
        · intro K hK
          have hlT := HT.out.lt
          have hlC := HC.out.lt
          have hlm := Hm.out.lt
          go_simp
          refine (CM.out _ HC.out (by omega)).mono ?_
          rintro e v19 ⟨rfl, hc, ho, hb⟩
          go_simp
          refine hK.out _ _ trivial ?_
          clear hK K
          try simp only [Act.put, List.setIfInBounds_toArray, List.set_cons_zero, List.set_cons_succ]
          have HL2 := Lib.hid (show Below B w v19 from HL.out.trans ⟨hb.os, hb.tape, hb.output, hb.size, fun k hk => ho k (by omega) (by omega)⟩)
          have HT2 := Lib.hid (show Whole v19 B 38 #[.int .u32 0, .int .u64 0, .slice none 0 0] from (ho B hlT (by omega)).trans HT.out)
          have Hm2 := Lib.hid (show Whole v19 gm 5 (byteCells (fun _ => 0) N).toArray from (ho gm hlm (by omega)).trans Hm.out)
          have HC2 := Lib.hid hc
          clear ho hb hc hlT hlC hlm HC HT HL Hm
          have HC := HC2
          clear HC2
          have HT := HT2
          clear HT2
          have HL := HL2
          clear HL2
          have Hm := Hm2
          clear Hm2
          refine take 8 _ rfl (by kernel_rfl) (by kernel_rfl) (by kernel_rfl) (fun _ _ _ h => h) (by rfl) hS (by intro w _; go_simp; with_reducible rfl) ?_
          try simp only [Act.put, List.setIfInBounds_toArray, List.set_cons_zero, List.set_cons_succ]
          refine alone 9 rfl (by kernel_rfl) (by rfl) ?_
          intro K hK
          have hlT := HT.out.lt
          have hlC := HC.out.lt
          have hlm := Hm.out.lt
          go_simp
          refine hK.out _ _ trivial ?_
          clear hK K
          try simp only [Act.put, List.setIfInBounds_toArray, List.set_cons_zero, List.set_cons_succ]
          refine cut_any (fun Y => Cur Y cb rb f (N + 16) c 16 ∧ Whole Y B 38 #[.int .u32 0, .int .u64 0, .slice none 0 0] ∧ Below B w Y ∧ Whole Y gm 5 (byteCells (fun _ => 0) N).toArray ∧ Whole Y v19.heap.size 38 #[.int .u32 0, .int .u64 0, .slice none 0 0]) ⟨HC.out.below ((Below.refl v19.heap.size v19).alloc (Nat.le_refl _) _), HT.out.alloc _, HL.out.alloc (Nat.le_of_lt hlT) _, Hm.out.alloc _, Whole.new _ _ _⟩ ?_
          rintro v20 ⟨zHC, zHT, zHL, zHm, zn⟩
          have hg1 : B < v19.heap.size := hlT
          clear HC HT HL Hm
          generalize v19.heap.size = ga at zn hlT hlC hlm hg1 ⊢
          have hne : ga ≠ gm := by omega
          have hncga : ga ≠ cb := by omega
          have hnBga : B < ga := by omega
          have HC := Lib.hid zHC
          have HT := Lib.hid zHT
          have HL := Lib.hid zHL
          have Hm := Lib.hid zHm
          have Ha := Lib.hid zn
          clear zn hg1 hlT hlC hlm zHC zHT zHL zHm
          refine alone 10 rfl (by kernel_rfl) (by rfl) ?_
          intro K hK
          refine wp_store_row 38 (.tmp 6) (.tmp 24) rfl ga #[.int .u32 (x : Nat), .int .u64 (y : Nat), .slice (some ⟨gm, 0, none⟩) N N] (by rfl) (by rfl) 38 _ Ha.out (by kernel_rfl) rfl (data_one _ _ _ _ _) ?_
          refine hK.out _ _ trivial ?_
          clear hK K
          try simp only [Act.put]
          refine region_end (by kernel_rfl) ?_
          have hX := HT.out.lt
          have hq1 := Whole.farRow HT.out (g := ga) (by omega) #[.int .u32 (x : Nat), .int .u64 (y : Nat), .slice (some ⟨gm, 0, none⟩) N N]
          have hq2 := Whole.farRow Hm.out (g := ga) (by omega) #[.int .u32 (x : Nat), .int .u64 (y : Nat), .slice (some ⟨gm, 0, none⟩) N N]
          have hq3 := setRow_heap _ _ _ (#[.int .u32 (x : Nat), .int .u64 (y : Nat), .slice (some ⟨gm, 0, none⟩) N N] : Array Value) _ _ Ha.out
          have hq4 := HC.out.far (rb := rb) (g := ga) (by omega) (by omega) #[.int .u32 (x : Nat), .int .u64 (y : Nat), .slice (some ⟨gm, 0, none⟩) N N]
          have hq5 := below_setRow (g := ga) HL.out (by omega) #[.int .u32 (x : Nat), .int .u64 (y : Nat), .slice (some ⟨gm, 0, none⟩) N N]
          refine cut_post (F := Exit.then _ _) (fun X => Cur X cb rb f (N + 16) c 16 ∧ Whole X B 38 #[.int .u32 0, .int .u64 0, .slice none 0 0] ∧ Below B w X ∧ Whole X gm 5 (byteCells (fun _ => 0) N).toArray ∧ Whole X ga 38 #[.int .u32 (x : Nat), .int .u64 (y : Nat), .slice (some ⟨gm, 0, none⟩) N N]) ⟨hq4, hq1, hq5, hq2, hq3⟩ ?_
          rintro Y ⟨z1, z2, z3, z4, z5⟩
          have ZZ := Lib.hid (And.intro z1 (And.intro z2 (And.intro z3 (And.intro z4 z5))))
          clear z1 z2 z3 z4 z5 hq1 hq2 hq3 hq4 hq5 HC HT HL Hm Ha hX
          go_wp2_with fail
          go_meet
          exact ⟨gm, ga, rfl, by omega, by omega, by omega, by omega, by omega, ZZ.out⟩
        · intro K hK
          have hlT := HT.out.lt
          have hlC := HC.out.lt
          have hlm := Hm.out.lt
          go_simp
          refine hK.out _ _ trivial ?_
          clear hK K
          try simp only [Act.put, List.setIfInBounds_toArray, List.set_cons_zero, List.set_cons_succ]
          refine cut_any (fun Y => Cur Y cb rb f (N + 16) c 8 ∧ Whole Y B 38 #[.int .u32 0, .int .u64 0, .slice none 0 0] ∧ Below B w Y ∧ Whole Y gm 5 (byteCells (fun _ => 0) N).toArray ∧ Whole Y v18.heap.size 38 #[.int .u32 0, .int .u64 0, .slice none 0 0]) ⟨HC.out.below ((Below.refl v18.heap.size v18).alloc (Nat.le_refl _) _), HT.out.alloc _, HL.out.alloc (Nat.le_of_lt hlT) _, Hm.out.alloc _, Whole.new _ _ _⟩ ?_
          rintro v21 ⟨zHC, zHT, zHL, zHm, zn⟩
          have hg1 : B < v18.heap.size := hlT
          clear HC HT HL Hm
          generalize v18.heap.size = ga at zn hlT hlC hlm hg1 ⊢
          have hne : ga ≠ gm := by omega
          have hncga : ga ≠ cb := by omega
          have hnBga : B < ga := by omega
          have HC := Lib.hid zHC
          have HT := Lib.hid zHT
          have HL := Lib.hid zHL
          have Hm := Lib.hid zHm
          have Ha := Lib.hid zn
          clear zn hg1 hlT hlC hlm zHC zHT zHL zHm
          refine alone 3 rfl (by kernel_rfl) (by rfl) ?_
          intro K hK
          have hlT := HT.out.lt
          have hlC := HC.out.lt
          have hlm := Hm.out.lt
          have hla := Ha.out.lt
          go_simp
          refine (CM.out _ HC.out (by omega)).mono ?_
          rintro e v22 ⟨rfl, hc, ho, hb⟩
          go_simp
          refine hK.out _ _ trivial ?_
          clear hK K
          try simp only [Act.put, List.setIfInBounds_toArray, List.set_cons_zero, List.set_cons_succ]
          have HL2 := Lib.hid (show Below B w v22 from HL.out.trans ⟨hb.os, hb.tape, hb.output, hb.size, fun k hk => ho k (by omega) (by omega)⟩)
          have HT2 := Lib.hid (show Whole v22 B 38 #[.int .u32 0, .int .u64 0, .slice none 0 0] from (ho B hlT (by omega)).trans HT.out)
          have Hm2 := Lib.hid (show Whole v22 gm 5 (byteCells (fun _ => 0) N).toArray from (ho gm hlm (by omega)).trans Hm.out)
          have Ha2 := Lib.hid (show Whole v22 ga 38 #[.int .u32 0, .int .u64 0, .slice none 0 0] from (ho ga hla (by omega)).trans Ha.out)
          have HC2 := Lib.hid hc
          clear ho hb hc hlT hlC hlm hla HC HT HL Hm Ha
          have HC := HC2
          clear HC2
          have HT := HT2
          clear HT2
          have HL := HL2
          clear HL2
          have Hm := Hm2
          clear Hm2
          have Ha := Ha2
          clear Ha2
          refine take 8 _ rfl (by kernel_rfl) (by kernel_rfl) (by kernel_rfl) (fun _ _ _ h => h) (by rfl) hS (by intro w _; go_simp; with_reducible rfl) ?_
          try simp only [Act.put, List.setIfInBounds_toArray, List.set_cons_zero, List.set_cons_succ]
          refine alone 10 rfl (by kernel_rfl) (by rfl) ?_
          intro K hK
          refine wp_store_row 38 (.tmp 6) (.tmp 24) rfl ga #[.int .u32 (x : Nat), .int .u64 (y : Nat), .slice (some ⟨gm, 0, none⟩) N N] (by rfl) (by rfl) 38 _ Ha.out (by kernel_rfl) rfl (data_one _ _ _ _ _) ?_
          refine hK.out _ _ trivial ?_
          clear hK K
          try simp only [Act.put]
          refine region_end (by kernel_rfl) ?_
          have hX := HT.out.lt
          have hq1 := Whole.farRow HT.out (g := ga) (by omega) #[.int .u32 (x : Nat), .int .u64 (y : Nat), .slice (some ⟨gm, 0, none⟩) N N]
          have hq2 := Whole.farRow Hm.out (g := ga) (by omega) #[.int .u32 (x : Nat), .int .u64 (y : Nat), .slice (some ⟨gm, 0, none⟩) N N]
          have hq3 := setRow_heap _ _ _ (#[.int .u32 (x : Nat), .int .u64 (y : Nat), .slice (some ⟨gm, 0, none⟩) N N] : Array Value) _ _ Ha.out
          have hq4 := HC.out.far (rb := rb) (g := ga) (by omega) (by omega) #[.int .u32 (x : Nat), .int .u64 (y : Nat), .slice (some ⟨gm, 0, none⟩) N N]
          have hq5 := below_setRow (g := ga) HL.out (by omega) #[.int .u32 (x : Nat), .int .u64 (y : Nat), .slice (some ⟨gm, 0, none⟩) N N]
          refine cut_post (F := Exit.then _ _) (fun X => Cur X cb rb f (N + 16) c 16 ∧ Whole X B 38 #[.int .u32 0, .int .u64 0, .slice none 0 0] ∧ Below B w X ∧ Whole X gm 5 (byteCells (fun _ => 0) N).toArray ∧ Whole X ga 38 #[.int .u32 (x : Nat), .int .u64 (y : Nat), .slice (some ⟨gm, 0, none⟩) N N]) ⟨hq4, hq1, hq5, hq2, hq3⟩ ?_
          rintro Y ⟨z1, z2, z3, z4, z5⟩
          have ZZ := Lib.hid (And.intro z1 (And.intro z2 (And.intro z3 (And.intro z4 z5))))
          clear z1 z2 z3 z4 z5 hq1 hq2 hq3 hq4 hq5 HC HT HL Hm Ha hX
          go_wp2_with fail
          go_meet
          exact ⟨gm, ga, rfl, by omega, by omega, by omega, by omega, by omega, ZZ.out⟩
      · intro K hK
        have hlT := HT.out.lt
        have hlC := HC.out.lt
        have hlm := Hm.out.lt
        go_simp
        refine hK.out _ _ trivial ?_
        clear hK K
        try simp only [Act.put, List.setIfInBounds_toArray, List.set_cons_zero, List.set_cons_succ]
        refine cut_any (fun Y => Cur Y cb rb f (N + 16) c 4 ∧ Whole Y B 38 #[.int .u32 0, .int .u64 0, .slice none 0 0] ∧ Below B w Y ∧ Whole Y gm 5 (byteCells (fun _ => 0) N).toArray ∧ Whole Y v17.heap.size 38 #[.int .u32 0, .int .u64 0, .slice none 0 0]) ⟨HC.out.below ((Below.refl v17.heap.size v17).alloc (Nat.le_refl _) _), HT.out.alloc _, HL.out.alloc (Nat.le_of_lt hlT) _, Hm.out.alloc _, Whole.new _ _ _⟩ ?_
        rintro v23 ⟨zHC, zHT, zHL, zHm, zn⟩
        have hg1 : B < v17.heap.size := hlT
        clear HC HT HL Hm
        generalize v17.heap.size = ga at zn hlT hlC hlm hg1 ⊢
        have hne : ga ≠ gm := by omega
        have hncga : ga ≠ cb := by omega
        have hnBga : B < ga := by omega
        have HC := Lib.hid zHC
        have HT := Lib.hid zHT
        have HL := Lib.hid zHL
        have Hm := Lib.hid zHm
        have Ha := Lib.hid zn
        clear zn hg1 hlT hlC hlm zHC zHT zHL zHm
        refine alone 1 rfl (by kernel_rfl) (by rfl) ?_
        intro K hK
        have hlT := HT.out.lt
        have hlC := HC.out.lt
        have hlm := Hm.out.lt
        have hla := Ha.out.lt
        go_simp
        refine (CN.out _ HC.out (by omega)).mono ?_
        rintro e v24 ⟨rfl, hc, ho, hb⟩
        go_simp
        refine hK.out _ _ trivial ?_
        clear hK K
        try simp only [Act.put, List.setIfInBounds_toArray, List.set_cons_zero, List.set_cons_succ]
        have HL2 := Lib.hid (show Below B w v24 from HL.out.trans ⟨hb.os, hb.tape, hb.output, hb.size, fun k hk => ho k (by omega) (by omega)⟩)
        have HT2 := Lib.hid (show Whole v24 B 38 #[.int .u32 0, .int .u64 0, .slice none 0 0] from (ho B hlT (by omega)).trans HT.out)
        have Hm2 := Lib.hid (show Whole v24 gm 5 (byteCells (fun _ => 0) N).toArray from (ho gm hlm (by omega)).trans Hm.out)
        have Ha2 := Lib.hid (show Whole v24 ga 38 #[.int .u32 0, .int .u64 0, .slice none 0 0] from (ho ga hla (by omega)).trans Ha.out)
        have HC2 := Lib.hid hc
        clear ho hb hc hlT hlC hlm hla HC HT HL Hm Ha
        have HC := HC2
        clear HC2
        have HT := HT2
        clear HT2
        have HL := HL2
        clear HL2
        have Hm := Hm2
        clear Hm2
        have Ha := Ha2
        clear Ha2
        refine alone 3 rfl (by kernel_rfl) (by rfl) ?_
        intro K hK
        have hlT := HT.out.lt
        have hlC := HC.out.lt
        have hlm := Hm.out.lt
        have hla := Ha.out.lt
        go_simp
        refine (CM.out _ HC.out (by omega)).mono ?_
        rintro e v25 ⟨rfl, hc, ho, hb⟩
        go_simp
        refine hK.out _ _ trivial ?_
        clear hK K
        try simp only [Act.put, List.setIfInBounds_toArray, List.set_cons_zero, List.set_cons_succ]
        have HL2 := Lib.hid (show Below B w v25 from HL.out.trans ⟨hb.os, hb.tape, hb.output, hb.size, fun k hk => ho k (by omega) (by omega)⟩)
        have HT2 := Lib.hid (show Whole v25 B 38 #[.int .u32 0, .int .u64 0, .slice none 0 0] from (ho B hlT (by omega)).trans HT.out)
        have Hm2 := Lib.hid (show Whole v25 gm 5 (byteCells (fun _ => 0) N).toArray from (ho gm hlm (by omega)).trans Hm.out)
        have Ha2 := Lib.hid (show Whole v25 ga 38 #[.int .u32 0, .int .u64 0, .slice none 0 0] from (ho ga hla (by omega)).trans Ha.out)
        have HC2 := Lib.hid hc
        clear ho hb hc hlT hlC hlm hla HC HT HL Hm Ha
        have HC := HC2
        clear HC2
        have HT := HT2
        clear HT2
        have HL := HL2
        clear HL2
        have Hm := Hm2
        clear Hm2
        have Ha := Ha2
        clear Ha2
        refine take 8 _ rfl (by kernel_rfl) (by kernel_rfl) (by kernel_rfl) (fun _ _ _ h => h) (by rfl) hS (by intro w _; go_simp; with_reducible rfl) ?_
        try simp only [Act.put, List.setIfInBounds_toArray, List.set_cons_zero, List.set_cons_succ]
        refine alone 10 rfl (by kernel_rfl) (by rfl) ?_
        intro K hK
        refine wp_store_row 38 (.tmp 6) (.tmp 24) rfl ga #[.int .u32 (x : Nat), .int .u64 (y : Nat), .slice (some ⟨gm, 0, none⟩) N N] (by rfl) (by rfl) 38 _ Ha.out (by kernel_rfl) rfl (data_one _ _ _ _ _) ?_
        refine hK.out _ _ trivial ?_
        clear hK K
        try simp only [Act.put]
        refine region_end (by kernel_rfl) ?_
        have hX := HT.out.lt
        have hq1 := Whole.farRow HT.out (g := ga) (by omega) #[.int .u32 (x : Nat), .int .u64 (y : Nat), .slice (some ⟨gm, 0, none⟩) N N]
        have hq2 := Whole.farRow Hm.out (g := ga) (by omega) #[.int .u32 (x : Nat), .int .u64 (y : Nat), .slice (some ⟨gm, 0, none⟩) N N]
        have hq3 := setRow_heap _ _ _ (#[.int .u32 (x : Nat), .int .u64 (y : Nat), .slice (some ⟨gm, 0, none⟩) N N] : Array Value) _ _ Ha.out
        have hq4 := HC.out.far (rb := rb) (g := ga) (by omega) (by omega) #[.int .u32 (x : Nat), .int .u64 (y : Nat), .slice (some ⟨gm, 0, none⟩) N N]
        have hq5 := below_setRow (g := ga) HL.out (by omega) #[.int .u32 (x : Nat), .int .u64 (y : Nat), .slice (some ⟨gm, 0, none⟩) N N]
        refine cut_post (F := Exit.then _ _) (fun X => Cur X cb rb f (N + 16) c 16 ∧ Whole X B 38 #[.int .u32 0, .int .u64 0, .slice none 0 0] ∧ Below B w X ∧ Whole X gm 5 (byteCells (fun _ => 0) N).toArray ∧ Whole X ga 38 #[.int .u32 (x : Nat), .int .u64 (y : Nat), .slice (some ⟨gm, 0, none⟩) N N]) ⟨hq4, hq1, hq5, hq2, hq3⟩ ?_
        rintro Y ⟨z1, z2, z3, z4, z5⟩
        have ZZ := Lib.hid (And.intro z1 (And.intro z2 (And.intro z3 (And.intro z4 z5))))
        clear z1 z2 z3 z4 z5 hq1 hq2 hq3 hq4 hq5 HC HT HL Hm Ha hX
        go_wp2_with fail
        go_meet
        exact ⟨gm, ga, rfl, by omega, by omega, by omega, by omega, by omega, ZZ.out⟩
    · intro K hK
      have hlT := HT.out.lt
      have hlC := HC.out.lt
      go_simp
      refine hK.out _ _ trivial ?_
      clear hK K
      try simp only [Act.put, List.setIfInBounds_toArray, List.set_cons_zero, List.set_cons_succ]
      refine cut_any (fun Y => Cur Y cb rb f (N + 16) c 4 ∧ Whole Y B 38 #[.int .u32 0, .int .u64 0, .slice none 0 0] ∧ Below B w Y ∧ Whole Y v0.heap.size 38 #[.int .u32 0, .int .u64 0, .slice none 0 0]) ⟨HC.out.below ((Below.refl v0.heap.size v0).alloc (Nat.le_refl _) _), HT.out.alloc _, HL.out.alloc (Nat.le_of_lt hlT) _, Whole.new _ _ _⟩ ?_
      rintro v26 ⟨zHC, zHT, zHL, zn⟩
      have hg1 : B < v0.heap.size := hlT
      clear HC HT HL
      generalize v0.heap.size = ga at zn hlT hlC hg1 ⊢
      have hncga : ga ≠ cb := by omega
      have hnBga : B < ga := by omega
      have HC := Lib.hid zHC
      have HT := Lib.hid zHT
      have HL := Lib.hid zHL
      have Ha := Lib.hid zn
      clear zn hg1 hlT hlC zHC zHT zHL
      refine ready_two 1 7 rfl rfl (by kernel_rfl) (by rfl) (by rfl) ?_ ?_
      · intro K hK
        have hlT := HT.out.lt
        have hlC := HC.out.lt
        have hla := Ha.out.lt
        go_simp
        refine (CN.out _ HC.out (by omega)).mono ?_
        rintro e v27 ⟨rfl, hc, ho, hb⟩
        go_simp
        refine hK.out _ _ trivial ?_
        clear hK K
        try simp only [Act.put, List.setIfInBounds_toArray, List.set_cons_zero, List.set_cons_succ]
        have HL2 := Lib.hid (show Below B w v27 from HL.out.trans ⟨hb.os, hb.tape, hb.output, hb.size, fun k hk => ho k (by omega) (by omega)⟩)
        have HT2 := Lib.hid (show Whole v27 B 38 #[.int .u32 0, .int .u64 0, .slice none 0 0] from (ho B hlT (by omega)).trans HT.out)
        have Ha2 := Lib.hid (show Whole v27 ga 38 #[.int .u32 0, .int .u64 0, .slice none 0 0] from (ho ga hla (by omega)).trans Ha.out)
        have HC2 := Lib.hid hc
        clear ho hb hc hlT hlC hla HC HT HL Ha
        have HC := HC2
        clear HC2
        have HT := HT2
        clear HT2
        have HL := HL2
        clear HL2
        have Ha := Ha2
        clear Ha2
        refine ready_two 3 7 rfl rfl (by kernel_rfl) (by rfl) (by rfl) ?_ ?_
        · intro K hK
          have hlT := HT.out.lt
          have hlC := HC.out.lt
          have hla := Ha.out.lt
          go_simp
          refine (CM.out _ HC.out (by omega)).mono ?_
          rintro e v28 ⟨rfl, hc, ho, hb⟩
          go_simp
          refine hK.out _ _ trivial ?_
          clear hK K
          try simp only [Act.put, List.setIfInBounds_toArray, List.set_cons_zero, List.set_cons_succ]
          have HL2 := Lib.hid (show Below B w v28 from HL.out.trans ⟨hb.os, hb.tape, hb.output, hb.size, fun k hk => ho k (by omega) (by omega)⟩)
          have HT2 := Lib.hid (show Whole v28 B 38 #[.int .u32 0, .int .u64 0, .slice none 0 0] from (ho B hlT (by omega)).trans HT.out)
          have Ha2 := Lib.hid (show Whole v28 ga 38 #[.int .u32 0, .int .u64 0, .slice none 0 0] from (ho ga hla (by omega)).trans Ha.out)
          have HC2 := Lib.hid hc
          clear ho hb hc hlT hlC hla HC HT HL Ha
          have HC := HC2
          clear HC2
          have HT := HT2
          clear HT2
          have HL := HL2
          clear HL2
          have Ha := Ha2
          clear Ha2
          refine alone 7 rfl (by kernel_rfl) (by rfl) ?_
          intro K hK
          have hlT := HT.out.lt
          have hlC := HC.out.lt
          have hla := Ha.out.lt
          go_simp
          rw [MB.out]
          go_simp
          refine hK.out _ _ trivial ?_
          clear hK K
          try simp only [Act.put, List.setIfInBounds_toArray, List.set_cons_zero, List.set_cons_succ]
          refine cut_any (fun Y => Cur Y cb rb f (N + 16) c 16 ∧ Whole Y B 38 #[.int .u32 0, .int .u64 0, .slice none 0 0] ∧ Below B w Y ∧ Whole Y ga 38 #[.int .u32 0, .int .u64 0, .slice none 0 0] ∧ Whole Y v28.heap.size 5 (byteCells (fun _ => 0) N).toArray) ⟨HC.out.below ((Below.refl v28.heap.size v28).alloc (Nat.le_refl _) _), HT.out.alloc _, HL.out.alloc (Nat.le_of_lt hlT) _, Ha.out.alloc _, Whole.new _ _ _⟩ ?_
          rintro v29 ⟨zHC, zHT, zHL, zHa, zn⟩
          have hg1 : B < v28.heap.size := hlT
          clear HC HT HL Ha
          generalize v28.heap.size = gm at zn hlT hlC hla hg1 ⊢
          have hne : ga ≠ gm := by omega
          have hncgm : gm ≠ cb := by omega
          have hnBgm : B < gm := by omega
          have HC := Lib.hid zHC
          have HT := Lib.hid zHT
          have HL := Lib.hid zHL
          have Ha := Lib.hid zHa
          have Hm := Lib.hid zn
          clear zn hg1 hlT hlC hla zHC zHT zHL zHa
          refine take 8 _ rfl (by kernel_rfl) (by kernel_rfl) (by kernel_rfl) (fun _ _ _ h => h) (by rfl) hS (by intro w _; go_simp; with_reducible rfl) ?_
          try simp only [Act.put, List.setIfInBounds_toArray, List.set_cons_zero, List.set_cons_succ]
          refine alone 10 rfl (by kernel_rfl) (by rfl) ?_
          intro K hK
          refine wp_store_row 38 (.tmp 6) (.tmp 24) rfl ga #[.int .u32 (x : Nat), .int .u64 (y : Nat), .slice (some ⟨gm, 0, none⟩) N N] (by rfl) (by rfl) 38 _ Ha.out (by kernel_rfl) rfl (data_one _ _ _ _ _) ?_
          refine hK.out _ _ trivial ?_
          clear hK K
          try simp only [Act.put]
          refine region_end (by kernel_rfl) ?_
          have hX := HT.out.lt
          have hq1 := Whole.farRow HT.out (g := ga) (by omega) #[.int .u32 (x : Nat), .int .u64 (y : Nat), .slice (some ⟨gm, 0, none⟩) N N]
          have hq2 := Whole.farRow Hm.out (g := ga) (by omega) #[.int .u32 (x : Nat), .int .u64 (y : Nat), .slice (some ⟨gm, 0, none⟩) N N]
          have hq3 := setRow_heap _ _ _ (#[.int .u32 (x : Nat), .int .u64 (y : Nat), .slice (some ⟨gm, 0, none⟩) N N] : Array Value) _ _ Ha.out
          have hq4 := HC.out.far (rb := rb) (g := ga) (by omega) (by omega) #[.int .u32 (x : Nat), .int .u64 (y : Nat), .slice (some ⟨gm, 0, none⟩) N N]
          have hq5 := below_setRow (g := ga) HL.out (by omega) #[.int .u32 (x : Nat), .int .u64 (y : Nat), .slice (some ⟨gm, 0, none⟩) N N]
          refine cut_post (F := Exit.then _ _) (fun X => Cur X cb rb f (N + 16) c 16 ∧ Whole X B 38 #[.int .u32 0, .int .u64 0, .slice none 0 0] ∧ Below B w X ∧ Whole X gm 5 (byteCells (fun _ => 0) N).toArray ∧ Whole X ga 38 #[.int .u32 (x : Nat), .int .u64 (y : Nat), .slice (some ⟨gm, 0, none⟩) N N]) ⟨hq4, hq1, hq5, hq2, hq3⟩ ?_
          rintro Y ⟨z1, z2, z3, z4, z5⟩
          have ZZ := Lib.hid (And.intro z1 (And.intro z2 (And.intro z3 (And.intro z4 z5))))
          clear z1 z2 z3 z4 z5 hq1 hq2 hq3 hq4 hq5 HC HT HL Hm Ha hX
          go_wp2_with fail
          go_meet
          exact ⟨gm, ga, rfl, by omega, by omega, by omega, by omega, by omega, ZZ.out⟩
        · intro K hK
          have hlT := HT.out.lt
          have hlC := HC.out.lt
          have hla := Ha.out.lt
          go_simp
          rw [MB.out]
          go_simp
          refine hK.out _ _ trivial ?_
          clear hK K
          try simp only [Act.put, List.setIfInBounds_toArray, List.set_cons_zero, List.set_cons_succ]
          refine cut_any (fun Y => Cur Y cb rb f (N + 16) c 8 ∧ Whole Y B 38 #[.int .u32 0, .int .u64 0, .slice none 0 0] ∧ Below B w Y ∧ Whole Y ga 38 #[.int .u32 0, .int .u64 0, .slice none 0 0] ∧ Whole Y v27.heap.size 5 (byteCells (fun _ => 0) N).toArray) ⟨HC.out.below ((Below.refl v27.heap.size v27).alloc (Nat.le_refl _) _), HT.out.alloc _, HL.out.alloc (Nat.le_of_lt hlT) _, Ha.out.alloc _, Whole.new _ _ _⟩ ?_
          rintro v30 ⟨zHC, zHT, zHL, zHa, zn⟩
          have hg1 : B < v27.heap.size := hlT
          clear HC HT HL Ha
          generalize v27.heap.size = gm at zn hlT hlC hla hg1 ⊢
          have hne : ga ≠ gm := by omega
          have hncgm : gm ≠ cb := by omega
          have hnBgm : B < gm := by omega
          have HC := Lib.hid zHC
          have HT := Lib.hid zHT
          have HL := Lib.hid zHL
          have Ha := Lib.hid zHa
          have Hm := Lib.hid zn
          clear zn hg1 hlT hlC hla zHC zHT zHL zHa
          refine alone 3 rfl (by kernel_rfl) (by rfl) ?_
          intro K hK
          have hlT := HT.out.lt
          have hlC := HC.out.lt
          have hlm := Hm.out.lt
          have hla := Ha.out.lt
          go_simp
          refine (CM.out _ HC.out (by omega)).mono ?_
          rintro e v31 ⟨rfl, hc, ho, hb⟩
          go_simp
          refine hK.out _ _ trivial ?_
          clear hK K
          try simp only [Act.put, List.setIfInBounds_toArray, List.set_cons_zero, List.set_cons_succ]
          have HL2 := Lib.hid (show Below B w v31 from HL.out.trans ⟨hb.os, hb.tape, hb.output, hb.size, fun k hk => ho k (by omega) (by omega)⟩)
          have HT2 := Lib.hid (show Whole v31 B 38 #[.int .u32 0, .int .u64 0, .slice none 0 0] from (ho B hlT (by omega)).trans HT.out)
          have Hm2 := Lib.hid (show Whole v31 gm 5 (byteCells (fun _ => 0) N).toArray from (ho gm hlm (by omega)).trans Hm.out)
          have Ha2 := Lib.hid (show Whole v31 ga 38 #[.int .u32 0, .int .u64 0, .slice none 0 0] from (ho ga hla (by omega)).trans Ha.out)
          have HC2 := Lib.hid hc
          clear ho hb hc hlT hlC hlm hla HC HT HL Hm Ha
          have HC := HC2
          clear HC2
          have HT := HT2
          clear HT2
          have HL := HL2
          clear HL2
          have Hm := Hm2
          clear Hm2
          have Ha := Ha2
          clear Ha2
          refine take 8 _ rfl (by kernel_rfl) (by kernel_rfl) (by kernel_rfl) (fun _ _ _ h => h) (by rfl) hS (by intro w _; go_simp; with_reducible rfl) ?_
          try simp only [Act.put, List.setIfInBounds_toArray, List.set_cons_zero, List.set_cons_succ]
          refine alone 10 rfl (by kernel_rfl) (by rfl) ?_
          intro K hK
          refine wp_store_row 38 (.tmp 6) (.tmp 24) rfl ga #[.int .u32 (x : Nat), .int .u64 (y : Nat), .slice (some ⟨gm, 0, none⟩) N N] (by rfl) (by rfl) 38 _ Ha.out (by kernel_rfl) rfl (data_one _ _ _ _ _) ?_
          refine hK.out _ _ trivial ?_
          clear hK K
          try simp only [Act.put]
          refine region_end (by kernel_rfl) ?_
          have hX := HT.out.lt
          have hq1 := Whole.farRow HT.out (g := ga) (by omega) #[.int .u32 (x : Nat), .int .u64 (y : Nat), .slice (some ⟨gm, 0, none⟩) N N]
          have hq2 := Whole.farRow Hm.out (g := ga) (by omega) #[.int .u32 (x : Nat), .int .u64 (y : Nat), .slice (some ⟨gm, 0, none⟩) N N]
          have hq3 := setRow_heap _ _ _ (#[.int .u32 (x : Nat), .int .u64 (y : Nat), .slice (some ⟨gm, 0, none⟩) N N] : Array Value) _ _ Ha.out
          have hq4 := HC.out.far (rb := rb) (g := ga) (by omega) (by omega) #[.int .u32 (x : Nat), .int .u64 (y : Nat), .slice (some ⟨gm, 0, none⟩) N N]
          have hq5 := below_setRow (g := ga) HL.out (by omega) #[.int .u32 (x : Nat), .int .u64 (y : Nat), .slice (some ⟨gm, 0, none⟩) N N]
          refine cut_post (F := Exit.then _ _) (fun X => Cur X cb rb f (N + 16) c 16 ∧ Whole X B 38 #[.int .u32 0, .int .u64 0, .slice none 0 0] ∧ Below B w X ∧ Whole X gm 5 (byteCells (fun _ => 0) N).toArray ∧ Whole X ga 38 #[.int .u32 (x : Nat), .int .u64 (y : Nat), .slice (some ⟨gm, 0, none⟩) N N]) ⟨hq4, hq1, hq5, hq2, hq3⟩ ?_
          rintro Y ⟨z1, z2, z3, z4, z5⟩
          have ZZ := Lib.hid (And.intro z1 (And.intro z2 (And.intro z3 (And.intro z4 z5))))
          clear z1 z2 z3 z4 z5 hq1 hq2 hq3 hq4 hq5 HC HT HL Hm Ha hX
          go_wp2_with fail
          go_meet
          exact ⟨gm, ga, rfl, by omega, by omega, by omega, by omega, by omega, ZZ.out⟩
      · intro K hK
        have hlT := HT.out.lt
        have hlC := HC.out.lt
        have hla := Ha.out.lt
        go_simp
        rw [MB.out]
        go_simp
        refine hK.out _ _ trivial ?_
        clear hK K
        try simp only [Act.put, List.setIfInBounds_toArray, List.set_cons_zero, List.set_cons_succ]
        refine cut_any (fun Y => Cur Y cb rb f (N + 16) c 4 ∧ Whole Y B 38 #[.int .u32 0, .int .u64 0, .slice none 0 0] ∧ Below B w Y ∧ Whole Y ga 38 #[.int .u32 0, .int .u64 0, .slice none 0 0] ∧ Whole Y v26.heap.size 5 (byteCells (fun _ => 0) N).toArray) ⟨HC.out.below ((Below.refl v26.heap.size v26).alloc (Nat.le_refl _) _), HT.out.alloc _, HL.out.alloc (Nat.le_of_lt hlT) _, Ha.out.alloc _, Whole.new _ _ _⟩ ?_
        rintro v32 ⟨zHC, zHT, zHL, zHa, zn⟩
        have hg1 : B < v26.heap.size := hlT
        clear HC HT HL Ha
        generalize v26.heap.size = gm at zn hlT hlC hla hg1 ⊢
        have hne : ga ≠ gm := by omega
        have hncgm : gm ≠ cb := by omega
        have hnBgm : B < gm := by omega
        have HC := Lib.hid zHC
        have HT := Lib.hid zHT
        have HL := Lib.hid zHL
        have Ha := Lib.hid zHa
        have Hm := Lib.hid zn
        clear zn hg1 hlT hlC hla zHC zHT zHL zHa
        refine alone 1 rfl (by kernel_rfl) (by rfl) ?_
        intro K hK
        have hlT := HT.out.lt
        have hlC := HC.out.lt
        have hlm := Hm.out.lt
        have hla := Ha.out.lt
        go_simp
        refine (CN.out _ HC.out (by omega)).mono ?_
        rintro e v33 ⟨rfl, hc, ho, hb⟩
        go_simp
        refine hK.out _ _ trivial ?_
        clear hK K
        try simp only [Act.put, List.setIfInBounds_toArray, List.set_cons_zero, List.set_cons_succ]
        have HL2 := Lib.hid (show Below B w v33 from HL.out.trans ⟨hb.os, hb.tape, hb.output, hb.size, fun k hk => ho k (by omega) (by omega)⟩)
        have HT2 := Lib.hid (show Whole v33 B 38 #[.int .u32 0, .int .u64 0, .slice none 0 0] from (ho B hlT (by omega)).trans HT.out)
        have Hm2 := Lib.hid (show Whole v33 gm 5 (byteCells (fun _ => 0) N).toArray from (ho gm hlm (by omega)).trans Hm.out)
        have Ha2 := Lib.hid (show Whole v33 ga 38 #[.int .u32 0, .int .u64 0, .slice none 0 0] from (ho ga hla (by omega)).trans Ha.out)
        have HC2 := Lib.hid hc
        clear ho hb hc hlT hlC hlm hla HC HT HL Hm Ha
        have HC := HC2
        clear HC2
        have HT := HT2
        clear HT2
        have HL := HL2
        clear HL2
        have Hm := Hm2
        clear Hm2
        have Ha := Ha2
        clear Ha2
        refine alone 3 rfl (by kernel_rfl) (by rfl) ?_
        intro K hK
        have hlT := HT.out.lt
        have hlC := HC.out.lt
        have hlm := Hm.out.lt
        have hla := Ha.out.lt
        go_simp
        refine (CM.out _ HC.out (by omega)).mono ?_
        rintro e v34 ⟨rfl, hc, ho, hb⟩
        go_simp
        refine hK.out _ _ trivial ?_
        clear hK K
        try simp only [Act.put, List.setIfInBounds_toArray, List.set_cons_zero, List.set_cons_succ]
        have HL2 := Lib.hid (show Below B w v34 from HL.out.trans ⟨hb.os, hb.tape, hb.output, hb.size, fun k hk => ho k (by omega) (by omega)⟩)
        have HT2 := Lib.hid (show Whole v34 B 38 #[.int .u32 0, .int .u64 0, .slice none 0 0] from (ho B hlT (by omega)).trans HT.out)
        have Hm2 := Lib.hid (show Whole v34 gm 5 (byteCells (fun _ => 0) N).toArray from (ho gm hlm (by omega)).trans Hm.out)
        have Ha2 := Lib.hid (show Whole v34 ga 38 #[.int .u32 0, .int .u64 0, .slice none 0 0] from (ho ga hla (by omega)).trans Ha.out)
        have HC2 := Lib.hid hc
        clear ho hb hc hlT hlC hlm hla HC HT HL Hm Ha
        have HC := HC2
        clear HC2
        have HT := HT2
        clear HT2
        have HL := HL2
        clear HL2
        have Hm := Hm2
        clear Hm2
        have Ha := Ha2
        clear Ha2
        refine take 8 _ rfl (by kernel_rfl) (by kernel_rfl) (by kernel_rfl) (fun _ _ _ h => h) (by rfl) hS (by intro w _; go_simp; with_reducible rfl) ?_
        try simp only [Act.put, List.setIfInBounds_toArray, List.set_cons_zero, List.set_cons_succ]
        refine alone 10 rfl (by kernel_rfl) (by rfl) ?_
        intro K hK
        refine wp_store_row 38 (.tmp 6) (.tmp 24) rfl ga #[.int .u32 (x : Nat), .int .u64 (y : Nat), .slice (some ⟨gm, 0, none⟩) N N] (by rfl) (by rfl) 38 _ Ha.out (by kernel_rfl) rfl (data_one _ _ _ _ _) ?_
        refine hK.out _ _ trivial ?_
        clear hK K
        try simp only [Act.put]
        refine region_end (by kernel_rfl) ?_
        have hX := HT.out.lt
        have hq1 := Whole.farRow HT.out (g := ga) (by omega) #[.int .u32 (x : Nat), .int .u64 (y : Nat), .slice (some ⟨gm, 0, none⟩) N N]
        have hq2 := Whole.farRow Hm.out (g := ga) (by omega) #[.int .u32 (x : Nat), .int .u64 (y : Nat), .slice (some ⟨gm, 0, none⟩) N N]
        have hq3 := setRow_heap _ _ _ (#[.int .u32 (x : Nat), .int .u64 (y : Nat), .slice (some ⟨gm, 0, none⟩) N N] : Array Value) _ _ Ha.out
        have hq4 := HC.out.far (rb := rb) (g := ga) (by omega) (by omega) #[.int .u32 (x : Nat), .int .u64 (y : Nat), .slice (some ⟨gm, 0, none⟩) N N]
        have hq5 := below_setRow (g := ga) HL.out (by omega) #[.int .u32 (x : Nat), .int .u64 (y : Nat), .slice (some ⟨gm, 0, none⟩) N N]
        refine cut_post (F := Exit.then _ _) (fun X => Cur X cb rb f (N + 16) c 16 ∧ Whole X B 38 #[.int .u32 0, .int .u64 0, .slice none 0 0] ∧ Below B w X ∧ Whole X gm 5 (byteCells (fun _ => 0) N).toArray ∧ Whole X ga 38 #[.int .u32 (x : Nat), .int .u64 (y : Nat), .slice (some ⟨gm, 0, none⟩) N N]) ⟨hq4, hq1, hq5, hq2, hq3⟩ ?_
        rintro Y ⟨z1, z2, z3, z4, z5⟩
        have ZZ := Lib.hid (And.intro z1 (And.intro z2 (And.intro z3 (And.intro z4 z5))))
        clear z1 z2 z3 z4 z5 hq1 hq2 hq3 hq4 hq5 HC HT HL Hm Ha hX
        go_wp2_with fail
        go_meet
        exact ⟨gm, ga, rfl, by omega, by omega, by omega, by omega, by omega, ZZ.out⟩
  case rest =>
    obtain ⟨gm, ga, rfl, hBm, hBa, hmc, hac, ham, z1, z2, z3, z4, z5⟩ := hcut
    have HC := Lib.hid z1
    have HT := Lib.hid z2
    have HL := Lib.hid z3
    have Hm := Lib.hid z4
    have Ha := Lib.hid z5
    have hx2 : wc.cell? ⟨ga, 2, none⟩ = some (.slice (some ⟨gm, 0, none⟩) N N) := z5.cell 2
    have hlT := z2.lt
    have hlm := z4.lt
    have hla := z5.lt
    have hlc := z1.lt
    clear z1 z2 z3 z4 z5 HC1 L1 LB CN CM
    obtain ⟨A, ha, hrd, hap⟩ := HC.out
    have CF : ∀ Y h cp, Below wc.heap.size wc Y → wc.heap.size ≤ h → Whole Y h 36 #[.slice (some ⟨gm, 0, none⟩) N N] →
        Calls Try.prog 61 #[.pointer (some ⟨cb, 0, none⟩), .slice (some ⟨h, 0, none⟩) 1 cp] Y fun e w' => e = .returned (.tuple #[]) ∧ FillW Y cb 151 gm 5 rb (byteCells (fun _ => 0) N) 0 (fun i => f (16 + i)) (N + 16 - 16) (c - 16) N w' := by
      intro Y h cp h1 h2 h3
      have := fill_any cb 151 gm 5 rb (byteCells (fun _ => 0) N) 0 (fun i => f (16 + i)) A (N + 16 - 16) (c - 16) (by omega) (by omega) h 0 cp [N] (by simp) (by intro j m hj; rcases j with _ | j <;> simp at hj; omega) (by simp only [sumL]; omega) (by simp only [sumL]; rw [byteCells_length]; omega) (by omega) (by omega) (by omega) hrc (by omega) hap Y
        (ha.below h1 ha.lt) (hrd.below h1 (Nat.le_refl _)) (Hm.out.below h1 hlm) h3.lt (by
          intro j m hj
          rcases j with _ | j
          · simp at hj
            subst hj
            exact ⟨N, Nat.le_refl _, h3.cell 0⟩
          · simp at hj)
      exact this
    have HCF := Lib.hid CF
    clear CF ha hrd hap HC
    go_upto_region 6 with (go_at_call 61; refine (HCF.out _ _ _ ((Below.refl wc.heap.size wc).alloc (Nat.le_refl _) _) (Nat.le_refl _) (Whole.new _ _ _)).mono ?_; rintro e w5 ⟨rfl, hF⟩)
    have hnb : ∀ ob, Below wc.heap.size wc (wc.alloc ob) := fun ob => (Below.refl wc.heap.size wc).alloc (Nat.le_refl _) ob
    have hd := hF.dst
    rw [splice_all] at hd
    have P1 := Lib.hid (show Whole w5 B 38 #[.int .u32 0, .int .u64 0, .slice none 0 0] from (hF.oth B (by simp; omega) (by omega) (by omega)).trans (HT.out.alloc _))
    have P2 := Lib.hid (show Whole w5 ga 38 #[.int .u32 (x : Nat), .int .u64 (y : Nat), .slice (some ⟨gm, 0, none⟩) N N] from (hF.oth ga (by simp; omega) (by omega) (by omega)).trans (Ha.out.alloc _))
    have PB := Lib.hid ((HL.out.alloc (Nat.le_of_lt hlT) _).trans (hF.below (B := B) (by omega) (by omega) (by simp; omega)))
    have P3 := Lib.hid hd
    clear hF hd hnb HCF HT HL Hm Ha hx2
    go_wp2_with (first
      | (refine Poly.wpList_load_row_if (by rfl) 38 (.tmp 6) rfl ga rfl 38 [.int .u32 (x : Nat), .int .u64 (y : Nat), .slice (some ⟨gm, 0, none⟩) N N] _ P2.out rfl rfl (by kernel_rfl) ?_)
      | (refine wpList_store_row rfl 38 (.tmp 2) (.tmp 30) rfl B #[.int .u32 (x : Nat), .int .u64 (y : Nat), .slice (some ⟨gm, 0, none⟩) N N] rfl rfl 38 _ P1.out (by kernel_rfl) rfl (data_one _ _ _ _ _) ?_))
    have hret := setRow_heap _ _ _ (#[.int .u32 (x : Nat), .int .u64 (y : Nat), .slice (some ⟨gm, 0, none⟩) N N] : Array Value) _ _ P1.out
    refine bodyPost_ret (Poly.results_cell_tmp rfl _ _ B 38 [.int .u32 (x : Nat), .int .u64 (y : Nat), .slice (some ⟨gm, 0, none⟩) N N] _ rfl hret rfl rfl (by kernel_rfl)) rfl ?_
    exact ⟨gm, rfl, Whole.farRow P3.out (by omega) _, by rw [HB.out]; omega, by rw [HB.out]; exact below_setRow PB.out (Nat.le_refl B) _⟩

end Wire
end Go.Proofs.Ytfbkppabgogdgaa
