/- WriteData of package wire. -/
import Derived.Test.YtfbkppabgogdgaaWireMsg
import Derived.Test.YtfbkppabgogdgaaFloatK
namespace Go.Proofs.Ytfbkppabgogdgaa
namespace Wire
open Go.ChangeShapes Go.WideShapes Go.ChangeAt Go.RowKit
open Num Mem Words Ref Cuts Chacha Quiet

/-- may a box have n bytes? -/
def boxN (n : Nat) : Bool := decide (16 ≤ n ∧ n ≤ 1532 ∧ n % 16 = 0)
/-- a Data's bytes -/
def outD (r q : Nat) (f : Nat → Nat) (i : Nat) : Nat := if i < 4 then byteAt 4 i else if i < 8 then byteAt r (i - 4) else if i < 16 then byteAt q (i - 8) else f (i - 16)
theorem outD_lt {r q : Nat} {f : Nat → Nat} (hf : ∀ i, f i < 256) (i : Nat) : outD r q f i < 256 := by
  unfold outD
  (repeat' split) <;> first | exact byteAt_lt _ _ | exact hf _
theorem box_int (n : Nat) : decide (16 ≤ (n : Int) ∧ (n : Int) ≤ 1532 ∧ (n : Int) % 16 = 0) = boxN n := by
  unfold boxN
  congr 1
  exact propext (by omega)
theorem textData (r q : Nat) (f : Nat → Nat) (g4 g5 n c : Nat) (A : Option Addr) (i : Nat) (h : i < 16 + n) : msgF 4 (textOf [⟨some ⟨g4, 0, none⟩, 4, 4, byteAt r⟩, ⟨some ⟨g5, 0, none⟩, 8, 8, byteAt q⟩, ⟨A, n, c, f⟩]) i = outD r q f i := by
  unfold msgF outD
  by_cases h1 : i < 4
  · rw [if_pos h1, if_pos h1]
  rw [if_neg h1, if_neg h1]
  simp only [textOf]
  (repeat' split) <;> first | rfl | omega | (congr 1; omega)

set_option maxRecDepth 100000 in
theorem writeData_no (r q : Int) (A : Option Addr) (n c : Nat) (hb : boxN n = false) (w : World) :
    Calls Try.prog 14 #[.agg #[.int .u32 r, .int .u64 q, .slice A n c]] w fun e w' => e = .returned (.tuple #[.slice none 0 0, .int .i64 3]) ∧ Below w.heap.size w w' := by
  have C := Lib.hid (rightBox_any (n : Int))
  rw [box_int, hb] at C
  go_enter Try.func14, Try.ntmps14
  go_upto_region 1 with fail
  refine cut_world (fun X => Whole X w.heap.size 38 #[.int .u32 r, .int .u64 q, .slice A n c] ∧ Below w.heap.size w X) ⟨whole_new _ _ rfl, below_alloc (Below.refl _ _) _⟩ ?_
  rintro W ⟨k1, kb⟩
  have hc2 : W.cell? ⟨w.heap.size, 2, none⟩ = some (.slice A n c) := k1.cell 2
  have KB := Lib.hid kb
  clear k1 kb
  go_wp2_with (go_at_call 52; refine (C.out _).mono ?_; rintro e w1 ⟨rfl, rfl⟩)
  go_ret2
  exact ⟨rfl, KB.out⟩

set_option maxRecDepth 100000 in
set_option maxHeartbeats 4000000 in
theorem writeData_ok (r q : Nat) (hr : r < 4294967296) (hq : q < 18446744073709551616) (A : Option Addr) (n c : Nat) (f : Nat → Nat) (hf : ∀ i, f i < 256) (hnc : n ≤ c) (hb : boxN n = true) (w : World) (hrd : Rd w A n f) :
    Calls Try.prog 14 #[.agg #[.int .u32 r, .int .u64 q, .slice A n c]] w fun e w' => ∃ A' c', e = .returned (.tuple #[.slice A' (16 + n) c', .int .i64 0]) ∧ Own w' w.heap.size 5 A' (16 + n) c' (outD r q f) ∧ Below w.heap.size w w' := by
  have C := Lib.hid (rightBox_any (n : Int))
  rw [box_int, hb] at C
  have hbn : 16 ≤ n ∧ n ≤ 1532 := by unfold boxN at hb; simp at hb; omega
  have HF := Lib.hid hf
  have HRD := Lib.hid hrd
  have CP := Lib.hid (fun w => put32_any r hr w)
  have CR := Lib.hid (fun w => put64_any q hq w)
  obtain ⟨K4, hK4⟩ : ∃ K, (byteCells (byteAt r) 4).toArray = K := ⟨_, rfl⟩
  have HK4 := Lib.hid hK4
  have HK4S := Lib.hid (show K4.size = 4 by rw [← hK4, List.size_toArray, byteCells_length])
  have HK41 := Lib.hid (show K4.all (·.oneCell') = true by rw [← hK4]; exact bytes_one _ _)
  rw [hK4] at CP
  obtain ⟨K5, hK5⟩ : ∃ K, (byteCells (byteAt q) 8).toArray = K := ⟨_, rfl⟩
  have HK5 := Lib.hid hK5
  have HK5S := Lib.hid (show K5.size = 8 by rw [← hK5, List.size_toArray, byteCells_length])
  have HK51 := Lib.hid (show K5.all (·.oneCell') = true by rw [← hK5]; exact bytes_one _ _)
  rw [hK5] at CR
  clear hK4 hK5 hf hr hq hb hrd
  go_enter Try.func14, Try.ntmps14
  go_upto_region 1 with fail
  refine cut_world (fun X => Whole X w.heap.size 38 #[.int .u32 r, .int .u64 q, .slice A n c] ∧ Below w.heap.size w X) ⟨whole_new _ _ rfl, below_alloc (Below.refl _ _) _⟩ ?_
  rintro W0 ⟨k1, kb⟩
  generalize hB : w.heap.size = B at k1 kb ⊢
  have HB := Lib.hid hB
  have hc0 : W0.cell? ⟨B, 0, none⟩ = some (.int .u32 (r : Nat)) := k1.cell 0
  have hc1 : W0.cell? ⟨B, 1, none⟩ = some (.int .u64 (q : Nat)) := k1.cell 1
  have hc2 : W0.cell? ⟨B, 2, none⟩ = some (.slice A n c) := k1.cell 2
  have K1 := Lib.hid k1
  have KB := Lib.hid kb
  clear k1 kb hB
  go_upto_region 3 with (go_at_call 52; refine (C.out _).mono ?_; rintro e W ⟨rfl, rfl⟩)
  refine region_start (fun X => Below W.heap.size W X) (by kernel_rfl) (below_drewN (Below.refl _ _) 1) ?_
  intro w0 hS
  refine take 0 _ rfl (by kernel_rfl) (by kernel_rfl) (by kernel_rfl) (fun _ _ _ h => h) (by rfl) hS (by intro w _; go_simp; with_reducible rfl) ?_
  try simp only [Act.put, List.setIfInBounds_toArray, List.set_cons_zero, List.set_cons_succ]
  refine take 1 _ rfl (by kernel_rfl) (by kernel_rfl) (by kernel_rfl) (fun _ _ _ h => h) (by rfl) hS (by intro w hw; have hcl := (hw.cell (p := ⟨B, 0, none⟩) K1.out.lt).trans hc0; go_simp; with_reducible rfl) ?_
  try simp only [Act.put, List.setIfInBounds_toArray, List.set_cons_zero, List.set_cons_succ]
  refine take 3 _ rfl (by kernel_rfl) (by kernel_rfl) (by kernel_rfl) (fun _ _ _ h => h) (by rfl) hS (by intro w _; go_simp; with_reducible rfl) ?_
  try simp only [Act.put, List.setIfInBounds_toArray, List.set_cons_zero, List.set_cons_succ]
  refine take 4 _ rfl (by kernel_rfl) (by kernel_rfl) (by kernel_rfl) (fun _ _ _ h => h) (by rfl) hS (by intro w hw; have hcl := (hw.cell (p := ⟨B, 1, none⟩) K1.out.lt).trans hc1; go_simp; with_reducible rfl) ?_
  try simp only [Act.put, List.setIfInBounds_toArray, List.set_cons_zero, List.set_cons_succ]
  refine Float.float (W := W) [(2, 13, .is (.agg K4)), (5, 16, .is (.agg K5)), (6, 4, .row 109 (byteCells (fun _ => 0) 4).toArray), (7, 5, .row 111 (byteCells (fun _ => 0) 8).toArray)] [2, 5, 6, 7] 2 rfl (by rfl) (by kernel_rfl) (by kernel_rfl) (by kernel_rfl) (by kernel_rfl) (by kernel_rfl) (fun γ => rfl) hS (fun _ h => h) ?_ ?_
  · intro γ
    simp only [Float.puts, Act.put, List.setIfInBounds_toArray, List.set_cons_zero, List.set_cons_succ]
    refine ⟨?_, ?_, ?_, ?_, trivial⟩
    · exact ⟨_, _, rfl, Float.does_call 53 (#[.int .u32 r]) (by intro w; go_simp; try with_reducible rfl) (fun w hw => CP.out w)⟩
    · exact ⟨_, _, rfl, Float.does_call 54 (#[.int .u64 q]) (by intro w; go_simp; try with_reducible rfl) (fun w hw => CR.out w)⟩
    · exact ⟨_, _, rfl, fun w => by go_simp; try rfl⟩
    · exact ⟨_, _, rfl, fun w => by go_simp; try rfl⟩
  · intro γ v hS hrows hne
    simp only [Float.puts, Act.put, List.setIfInBounds_toArray, List.set_cons_zero, List.set_cons_succ]
    obtain ⟨⟨hge4, hg4⟩, ⟨hge5, hg5⟩, -⟩ := hrows
    have hne4_5 := hne 6 7 rfl rfl (by decide) (by decide) (by decide)
    clear hne
    generalize γ 6 = b4 at *
    have Hg4 := Lib.hid hg4
    clear hg4
    generalize γ 7 = b5 at *
    have Hg5 := Lib.hid hg5
    clear hg5
    clear γ
    have HZ := Lib.hid (show (byteCells (fun _ => 0) 4).toArray.size = 4 by rw [List.size_toArray, byteCells_length])
    have HZ8 := Lib.hid (show (byteCells (fun _ => 0) 8).toArray.size = 8 by rw [List.size_toArray, byteCells_length])
    refine alone 8 rfl (by kernel_rfl) (by rfl) ?_
    intro K hK
    refine wp_store_row 109 (.tmp 4) (.tmp 13) rfl b4 K4 (by rfl) (by rfl) 109 _ Hg4.out (by rw [HK4S.out]; kernel_rfl) (by rw [HK4S.out, HZ.out]) HK41.out ?_
    refine hK.out _ _ (below_setRow hS hge4 _) ?_
    clear hK K
    try simp only [Act.put]
    refine alone 9 rfl (by kernel_rfl) (by rfl) ?_
    intro K hK
    refine wp_store_row 111 (.tmp 5) (.tmp 16) rfl b5 K5 (by rfl) (by rfl) 111 _ (Whole.farRow Hg5.out (g := b4) (by omega) _) (by rw [HK5S.out]; kernel_rfl) (by rw [HK5S.out, HZ8.out]) HK51.out ?_
    refine hK.out _ _ (below_setRow (below_setRow hS hge4 _) hge5 _) ?_
    clear hK K
    try simp only [Act.put]
    refine region_end (by kernel_rfl) ?_
    have hlw := K1.out.lt
    refine cut_post (F := Exit.then _ _) (fun X => Whole X B 38 #[.int .u32 r, .int .u64 q, .slice A n c] ∧ Whole X b4 109 (byteCells (byteAt r) 4).toArray ∧ Whole X b5 111 (byteCells (byteAt q) 8).toArray ∧ Below B w X ∧ B < b4 ∧ B < b5) ⟨?_, ?_, ?_, ?_, by omega, by omega⟩ ?_
    · exact Whole.farRow (Whole.farRow (K1.out.below hS K1.out.lt) (by omega) _) (by omega) _
    · rw [HK4.out]
      exact Whole.farRow (setRow_heap _ _ _ _ _ _ Hg4.out) (by omega) _
    · rw [HK5.out]
      exact setRow_heap _ _ _ _ _ _ (Whole.farRow Hg5.out (g := b4) (by omega) _)
    · exact below_setRow (below_setRow (KB.out.trans (hS.mono (Nat.le_of_lt hlw))) (by omega) _) (by omega) _
    clear Hg4 Hg5 hge4 hge5 hS hc0 hc1 hc2
    rintro X ⟨q1, q2, q3, qb, hlt, hlt5⟩
    generalize b4 = g4 at q2 hlt ⊢
    generalize b5 = g5 at q3 hlt5 ⊢
    have hx2 : X.cell? ⟨B, 2, none⟩ = some (.slice A n c) := q1.cell 2
    have Q1 := Lib.hid q1
    have Q2 := Lib.hid q2
    have Q3 := Lib.hid q3
    have QB := Lib.hid qb
    have HRX := Lib.hid (HRD.out.below qb (by rw [HB.out]; exact Nat.le_refl _))
    clear q1 q2 q3 qb K1 KB
    go_upto_region 4 with fail
    refine region_start (fun Y => Below X.heap.size X Y) (by kernel_rfl) (below_drewN (Below.refl _ _) 1) ?_
    intro w2 hS
    refine take 0 _ rfl (by kernel_rfl) (by kernel_rfl) (by kernel_rfl) (fun _ _ _ h => h) (by rfl) hS (by intro w _; go_simp; with_reducible rfl) ?_
    try simp only [Act.put, List.setIfInBounds_toArray, List.set_cons_zero, List.set_cons_succ]
    refine take 1 _ rfl (by kernel_rfl) (by kernel_rfl) (by kernel_rfl) (fun _ _ _ h => h) (by rfl) hS (by intro w _; go_simp; with_reducible rfl) ?_
    try simp only [Act.put, List.setIfInBounds_toArray, List.set_cons_zero, List.set_cons_succ]
    refine take 2 _ rfl (by kernel_rfl) (by kernel_rfl) (by kernel_rfl) (fun _ _ _ h => h) (by rfl) hS (by intro w _; go_simp; with_reducible rfl) ?_
    try simp only [Act.put, List.setIfInBounds_toArray, List.set_cons_zero, List.set_cons_succ]
    refine take 3 _ rfl (by kernel_rfl) (by kernel_rfl) (by kernel_rfl) (fun _ _ _ h => h) (by rfl) hS (by intro w hw; have hcl := (hw.cell (p := ⟨B, 2, none⟩) Q1.out.lt).trans hx2; go_simp; with_reducible rfl) ?_
    try simp only [Act.put, List.setIfInBounds_toArray, List.set_cons_zero, List.set_cons_succ]
    refine alone 4 rfl (by kernel_rfl) (by rfl) ?_
    intro K hK
    go_simp
    refine hK.out _ _ (hS.alloc hS.size _) ?_
    clear hK K
    try simp only [Act.put, List.setIfInBounds_toArray, List.set_cons_zero, List.set_cons_succ]
    refine cut_any (fun Y => Whole Y w2.heap.size 36 (List.map Part.val [(⟨some ⟨g4, 0, none⟩, 4, 4, byteAt r⟩ : Part), (⟨some ⟨g5, 0, none⟩, 8, 8, byteAt q⟩ : Part), (⟨A, n, c, f⟩ : Part)]).toArray ∧ Below X.heap.size X Y) ⟨Whole.new _ _ _, hS.alloc hS.size _⟩ ?_
    rintro w3 ⟨p1, p2⟩
    generalize w2.heap.size = h at p1 ⊢
    have HPA := parts_of p1 (by
      intro p hp
      simp only [List.mem_cons, List.not_mem_nil, or_false] at hp
      rcases hp with rfl | rfl | rfl
      · exact ⟨Nat.le_refl _, Rd.of_whole (Q2.out.below p2 Q2.out.lt), fun i => byteAt_lt _ _⟩
      · exact ⟨Nat.le_refl _, Rd.of_whole (Q3.out.below p2 Q3.out.lt), fun i => byteAt_lt _ _⟩
      · exact ⟨hnc, HRX.out.below p2 (Nat.le_refl _), HF.out⟩
      )
    have hAn : A ≠ none := by
      rcases HRX.out with h0 | ⟨b, off, e, _⟩
      · omega
      · rw [e]; simp
    have CX : Calls Try.prog 55 #[.int .u32 4, .slice (some ⟨h, 0, none⟩) 3 3] w3 fun e w' => ∃ A c', e = .returned (.slice A (16 + n) c') ∧ Own w' w3.heap.size 5 A (16 + n) c' (msgF 4 (textOf [(⟨some ⟨g4, 0, none⟩, 4, 4, byteAt r⟩ : Part), (⟨some ⟨g5, 0, none⟩, 8, 8, byteAt q⟩ : Part), (⟨A, n, c, f⟩ : Part)])) ∧ Below w3.heap.size w3 w' := by
      have := put_any 4 (by omega) h 0 3 [(⟨some ⟨g4, 0, none⟩, 4, 4, byteAt r⟩ : Part), (⟨some ⟨g5, 0, none⟩, 8, 8, byteAt q⟩ : Part), (⟨A, n, c, f⟩ : Part)] (by simp only [lenAll]; omega) (by simp only [List.length_cons, List.length_nil]; omega) (no_nil (by intro p hp; simp only [List.mem_cons, List.not_mem_nil, or_false] at hp; rcases hp with rfl | rfl | rfl <;> first | exact hAn | simp)) w3 HPA
      rw [show 4 + lenAll [(⟨some ⟨g4, 0, none⟩, 4, 4, byteAt r⟩ : Part), (⟨some ⟨g5, 0, none⟩, 8, 8, byteAt q⟩ : Part), (⟨A, n, c, f⟩ : Part)] = 16 + n by simp only [lenAll]; omega] at this
      exact this
    have HCX := Lib.hid CX
    clear CX HPA hS p1
    have hS := p2
    clear p2
    refine alone 5 rfl (by kernel_rfl) (by rfl) ?_
    intro K hK
    go_simp
    refine HCX.out.mono ?_
    rintro e w4 ⟨A1, c1, rfl, ho, hb⟩
    go_simp
    have hsz := Nat.le_trans (Nat.le_of_lt Q1.out.lt) hS.size
    replace hS := below_trans hS hb
    refine hK.out _ _ hS ?_
    clear hK hb K
    try simp only [Act.put, List.setIfInBounds_toArray, List.set_cons_zero, List.set_cons_succ]
    refine alone 6 rfl (by kernel_rfl) (by rfl) ?_
    intro K hK
    go_simp
    refine hK.out _ _ hS ?_
    clear hK K
    try simp only [Act.put, List.setIfInBounds_toArray, List.set_cons_zero, List.set_cons_succ]
    refine alone 7 rfl (by kernel_rfl) (by rfl) ?_
    intro K hK
    go_simp
    refine hK.out _ _ hS ?_
    clear hK K
    try simp only [Act.put, List.setIfInBounds_toArray, List.set_cons_zero, List.set_cons_succ]
    refine region_end (by kernel_rfl) ?_
    have HO := Lib.hid ((ho.more hsz).congr (textData r q f g4 g5 n c A))
    have HS := Lib.hid (QB.out.trans (hS.mono (Nat.le_of_lt Q1.out.lt)))
    clear ho hS HCX
    go_wp2_with fail
    go_ret2
    exact ⟨A1, c1, rfl, by rw [HB.out]; exact HO.out, by rw [HB.out]; exact HS.out⟩

end Wire
end Go.Proofs.Ytfbkppabgogdgaa
