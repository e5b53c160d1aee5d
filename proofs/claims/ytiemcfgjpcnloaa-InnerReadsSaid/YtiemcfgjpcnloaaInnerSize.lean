/- 'aditlaw12.InnerSize' returns true at every input and writes nothing that was there: the walk. -/
import Derived.Test.YtiemcfgjpcnloaaInnerSums
namespace Go.Proofs.Ytiemcfgjpcnloaa
namespace Inner
open Go.ChangeShapes Go.WideShapes Go.ChangeAt Go.RowKit
open Num Mem Words Chacha Aead Poly Quiet

/-- what is read hangs on the packet's bytes alone -/
theorem rd_same {f T : Nat → Nat} {n k : Nat} (hE : rdE f n = 0) (hT : ∀ i, i < rdN f n → T i = f i) (hk : rdN f n ≤ k) : rdE T k = 0 ∧ rdL T k = rdL f n ∧ rdN T k = rdN f n := by
  rcases rdE_zero.1 hE with ⟨h4, h5, h6⟩ | ⟨h4, h5, h6⟩
  · have hN : rdN f n = sz4 f := by unfold rdN; rw [if_pos hE, if_pos h4]
    obtain ⟨k1, k2, k3, k4⟩ := h6
    rw [hN] at hT hk ⊢
    have e0 := hT 0 (by omega)
    have e2 := hT 2 (by omega)
    have e3 := hT 3 (by omega)
    have hh : hd4 T = hd4 f := by unfold hd4; rw [e0]
    have hs : sz4 T = sz4 f := by unfold sz4; rw [e2, e3]
    have hz : rdE T k = 0 := rdE_zero.2 (.inl ⟨by rw [e0]; exact h4, by omega, by
      unfold ok4
      rw [hh, hs]
      exact ⟨k1, k2, hk, by rw [← k4]; congr 1; exact sumS_congr _ fun i hi => hT i (by omega)⟩⟩)
    refine ⟨hz, ?_, ?_⟩
    · unfold rdL
      rw [if_pos hz, if_pos (by rw [e0]; exact h4), if_pos hE, if_pos h4, hs]
      unfold packL
      rw [addr_congr (f := at4 T 12) (g := at4 f 12) fun i _ => by unfold at4; split; exact hT _ (by omega); rfl,
        addr_congr (f := at4 T 16) (g := at4 f 16) fun i _ => by unfold at4; split; exact hT _ (by omega); rfl]
    · unfold rdN
      rw [if_pos hz, if_pos (by rw [e0]; exact h4), hs]
  · have hN : rdN f n = sz6 f := by unfold rdN; rw [if_pos hE, if_neg (by omega)]
    rw [hN] at hT hk ⊢
    have h40 : 40 ≤ sz6 f := by unfold sz6; omega
    have e0 := hT 0 (by omega)
    have e2 := hT 4 (by omega)
    have e3 := hT 5 (by omega)
    have hs : sz6 T = sz6 f := by unfold sz6; rw [e2, e3]
    have hz : rdE T k = 0 := rdE_zero.2 (.inr ⟨by rw [e0]; exact h4, by omega, by rw [hs]; exact hk⟩)
    refine ⟨hz, ?_, ?_⟩
    · unfold rdL
      rw [if_pos hz, if_neg (by rw [e0]; omega), if_pos hE, if_neg (by omega), hs]
      unfold packL
      rw [addr_congr (f := at6 T 8) (g := at6 f 8) fun i _ => hT _ (by omega), addr_congr (f := at6 T 24) (g := at6 f 24) fun i _ => hT _ (by omega)]
    · unfold rdN
      rw [if_pos hz, if_neg (by rw [e0]; omega), hs]
theorem rd_form {f : Nat → Nat} {n : Nat} (hf : ∀ i, f i < 256) (hE : rdE f n = 0) : ∃ (s : Bool) (F1 F2 : Nat → Nat), (∀ i, F1 i < 256) ∧ (∀ i, F2 i < 256) ∧ rdL f n = packL s F1 s F2 (rdN f n : Nat) ∧ 20 ≤ rdN f n := by
  rcases rdE_zero.1 hE with ⟨h4, h5, h6⟩ | ⟨h4, h5, h6⟩
  · refine ⟨false, at4 f 12, at4 f 16, at4_lt hf 12, at4_lt hf 16, ?_, ?_⟩
    · unfold rdL rdN
      rw [if_pos hE, if_pos h4, if_pos hE, if_pos h4]
    · unfold rdN
      rw [if_pos hE, if_pos h4]
      have h1 := h6.1
      have h2 := h6.2.1
      omega
  · refine ⟨true, at6 f 8, at6 f 24, fun i => hf _, fun i => hf _, ?_, ?_⟩
    · unfold rdL rdN
      rw [if_pos hE, if_neg (by omega), if_pos hE, if_neg (by omega)]
    · unfold rdN
      rw [if_pos hE, if_neg (by omega)]
      unfold sz6
      omega
theorem run_built0 {P : Program} {o : Oper} {a : Act} {w : World} (t : TypeId) (ho : o.op = .build t #[]) (vs : Array Value) (hb : P.built t [] = some vs) : (execOp a.eval o).run P w = .ok (.value (.agg vs)) w := by
  have e : P.built t (Array.map (fun (x : Nat × Operand) => (x.1, a.eval x.2)) #[]).toList = some vs := by simpa using hb
  unfold execOp
  simp only [ho, Sem.run_bind, run_build w t _ vs e, Result.andThen_ok, Sem.run_pure]
end Inner
namespace InnerSize
open Go.ChangeShapes Go.WideShapes Go.ChangeAt Go.RowKit
open Num Mem Words Chacha Aead Poly Quiet Inner

set_option maxRecDepth 100000 in
set_option maxHeartbeats 4000000 in
theorem walk (A1 : Option Addr) (n c1 : Nat) (z1 : List Int) (A2 : Option Addr) (m c2 : Nat) (z2 : List Int) (w : World) (r1 : IsRow .u8 w A1 n c1 z1) (r2 : IsRow .u8 w A2 m c2 z2) :
    Calls Try.prog 5 #[.slice A1 n c1, .slice A2 m c2] w fun e w' => e = .returned (.bool true) ∧ Below w.heap.size w w' := by
  obtain ⟨f, hf, hA1, hn1, hm1, hz1⟩ := row_rd r1
  obtain ⟨g, hg, hA2, hn2, hm2, hz2⟩ := row_rd r2
  clear r1 r2
  have R1 := Lib.hid hA1
  have HF := Lib.hid hf
  have HG := Lib.hid hg
  have S1 := Lib.hid (fun X (hb : Below w.heap.size w X) => src_of (hA1.below hb (Nat.le_refl _)) hz1)
  have S2 := Lib.hid (fun X (hb : Below w.heap.size w X) => src_of (hA2.below hb (Nat.le_refl _)) hz2)
  clear hA1 hA2 hf hg hz1 hz2
  by_cases hn : 2000 < n ∨ 100 < m
  · by_cases k1 : 2000 < n
    · go_enter Try.func5, Try.ntmps5
      go_wp2_with fail
      refine (alive_any _).mono ?_
      rintro e w1 ⟨rfl, hb⟩
      go_wp2_with fail
      go_ret
      exact ⟨rfl, hb⟩
    have k2 : 100 < m := by omega
    go_enter Try.func5, Try.ntmps5
    go_wp2_with fail
    refine (alive_any _).mono ?_
    rintro e w1 ⟨rfl, hb⟩
    go_wp2_with fail
    go_ret
    exact ⟨rfl, hb⟩
  have k1 : n ≤ 2000 := by omega
  have k2 : m ≤ 100 := by omega
  clear hn
  obtain ⟨zs, hz, hzs⟩ : ∃ zs : Array Value, (∀ w, (zeroValue 28).run Try.prog w = .ok (.agg zs) w) ∧ zs.size = 35 := ⟨_, zero_pack, pack_size _ _ _ _ _⟩
  have HZS := Lib.hid hzs
  have CR := Lib.hid (read_any A1 n c1 f HF.out (by omega) hn1 hm1 w R1.out)
  have HO2 := Lib.hid (rdL_each f n)
  have HLS := Lib.hid (show (rdL f n).length = 35 from rdL_length f n)
  have HLA := Lib.hid (show (rdL f n).toArray.size = 35 from by rw [List.size_toArray]; exact rdL_length f n)
  clear hzs
  by_cases hE : rdE f n = 0
  · obtain ⟨s, F1, F2, hF1, hF2, hLf, hN20⟩ := rd_form HF.out hE
    have hNn := rdN_le f n
    have CC : ∀ (b off : Nat) (_ : A1 = some ⟨b, off, none⟩) (X : World) (_ : b < X.heap.size) (_ : ∀ i, i < n → X.cell? ⟨b, off + i, none⟩ = some (.int .u8 (f i : Nat))), Calls Try.prog 11 #[.slice A1 n c1] X fun e w' => ∃ G, e = .returned (.tuple #[.slice (some ⟨G, 0, none⟩) (rdN f n) (rdN f n), .int .i64 0]) ∧ Whole w' G 5 (byteCells f (rdN f n)).toArray ∧ X.heap.size ≤ G ∧ Below X.heap.size X w' := by
      rintro b off rfl X h1 h2
      exact cut_ok b off n c1 f HF.out (by omega) hn1 hm1 X h1 h2 hE
    have hT1 := rd_same (T := joinF f n g) (k := n + m) hE (fun i hi => by unfold joinF; rw [if_pos (by omega)]) (by omega)
    have hT2 := rd_same (T := f) (k := rdN f n) hE (fun i _ => rfl) (Nat.le_refl _)
    have C1 := Lib.hid (fun A c (hc : n + m ≤ c) (hc2 : c ≤ 9223372036854775807) X hX => read_any A (n + m) c (joinF f n g) (joinF_lt HF.out HG.out n) (by omega) hc hc2 X hX)
    have C2 := Lib.hid (fun G X hX => read_any (some ⟨G, 0, none⟩) (rdN f n) (rdN f n) f HF.out (by omega) (Nat.le_refl _) (by omega) X hX)
    rw [hT1.1, hT1.2.1] at C1
    rw [hT2.1, hT2.2.1] at C2
    have HCC := Lib.hid CC
    rw [hE] at CR
    obtain ⟨N, hN⟩ : ∃ N, rdN f n = N := ⟨_, rfl⟩
    rw [hN] at hN20 hNn hLf C2 HCC
    obtain ⟨L, hL⟩ : ∃ L, rdL f n = L := ⟨_, rfl⟩
    rw [hL] at CR HO2 HLS HLA C1 C2 hLf
    have HL0 := Lib.hid (show L.toArray[0]? = some (.bool s) from by rw [hLf]; rfl)
    have HL17 := Lib.hid (show L.toArray[17]? = some (.bool s) from by rw [hLf]; rfl)
    have HL34 := Lib.hid (show L.toArray[34]? = some (.int .i64 (N : Nat)) from by rw [hLf]; rfl)
    have HEQ := Lib.hid (fun w => eqin_pack 9996 s s s s F1 F1 F2 F2 (N : Nat) (N : Nat) hF1 hF1 hF2 hF2 true (by simp) w)
    rw [← hLf] at HEQ
    clear hT1 hT2 CC hL hN hLf hE hF1 hF2
    go_enter Try.func5, Try.ntmps5
    go_wp2_with fail
    refine CR.out.mono ?_
    rintro e w1 ⟨rfl, hb1⟩
    have HB1 := Lib.hid hb1
    clear hb1 CR
    go_upto_region 4 with (refine wpList_store_row rfl 28 (.tmp 5) (.tmp 25) rfl w1.heap.size L.toArray rfl rfl 28 _ (Whole.new _ _ zs) (by rw [HLA.out]; kernel_rfl) (by rw [HLA.out, HZS.out]) HO2.out ?_)
    try simp only [Act.put]
    refine cut_world (fun X => Whole X w1.heap.size 28 L.toArray ∧ Below w.heap.size w X) ⟨setRow_heap _ _ _ _ _ _ (Whole.new _ _ _), below_setRow (below_alloc HB1.out _) HB1.out.size _⟩ ?_
    have hGl := HB1.out.size
    clear HB1
    generalize w1.heap.size = G at hGl ⊢
    rintro W ⟨k, kb⟩
    have K1 := Lib.hid k
    have KB := Lib.hid kb
    have c0 : W.cell? ⟨G, 0, none⟩ = some (.bool s) := by rw [k.cell, HL0.out]
    have c17 : W.cell? ⟨G, 17, none⟩ = some (.bool s) := by rw [k.cell, HL17.out]
    have c34 : W.cell? ⟨G, 34, none⟩ = some (.int .i64 (N : Nat)) := by rw [k.cell, HL34.out]
    clear k kb
    go_upto_region 8 with fail
    have PO := Lib.hid (own_none W W.heap.size (fun _ => 0) (Nat.le_refl _))
    have PB := Lib.hid (below_alloc (Below.refl W.heap.size W) (.cells #[] 5))
    have PS := Lib.hid (show W.heap.size ≤ (W.alloc (.cells #[] 5)).heap.size from PB.out.size)
    have PL := Lib.hid KB.out.size
    clear c0 c17
    go_wp2_with (first | (refine wpList_catFrom_if (T := f) (by rfl) (.tmp 55) (.tmp 56) 22 5 (.int .u8 0) 1 rfl byte_info rfl rfl rfl PO.out PB.out PS.out n c1 A1 rfl (S1.out _ (KB.out.trans (PB.out.mono PL.out))) (by omega) (by omega) (fun i hi => by rw [if_neg (by omega), Nat.sub_zero]) ?_; intro A6 c6 w6 o6 hb6 hs6 _ _; rw [Nat.zero_add] at o6) | (refine wpList_catFrom_if (T := joinF f n g) (by rfl) (.tmp 57) (.tmp 58) 22 5 (.int .u8 0) 1 rfl byte_info rfl rfl rfl o6 hb6 hs6 m c2 A2 rfl (S2.out _ (KB.out.trans (hb6.mono PL.out))) (by omega) (by omega) (fun _ _ => rfl) ?_; intro A7 c7 w7 o7 hb7 hs7 _ _))
    refine (C1.out A7 c7 (le_cap o7) (own_max o7) _ o7.rd).mono ?_
    rintro e w8 ⟨rfl, hb8⟩
    have hbK := hb7.trans (hb8.mono hb7.size)
    have K2 := Lib.hid (K1.out.below hbK K1.out.lt)
    have KB2 := Lib.hid (below_trans KB.out hbK)
    clear PO PB PS PL o6 hb6 hs6 o7 hb7 hs7 hb8 hbK K1 KB C1 c34
    go_upto_region 9 with (refine wpList_store_row rfl 28 (.tmp 7) (.tmp 61) rfl w8.heap.size L.toArray rfl rfl 28 _ (Whole.new _ _ zs) (by rw [HLA.out]; kernel_rfl) (by rw [HLA.out, HZS.out]) HO2.out ?_)
    try simp only [Act.put]
    have hbs : Below w8.heap.size w8 ((w8.alloc (.cells zs 28)).setRow w8.heap.size L.toArray) := below_setRow (below_alloc (Below.refl _ _) _) (Nat.le_refl _) _
    refine cut_world (fun X => Whole X G 28 L.toArray ∧ Whole X w8.heap.size 28 L.toArray ∧ Below w.heap.size w X) ⟨K2.out.below hbs K2.out.lt, setRow_heap _ _ _ _ _ _ (Whole.new _ _ _), below_trans KB2.out hbs⟩ ?_
    clear hbs K2 KB2
    generalize w8.heap.size = G2
    rintro W3 ⟨q1, q2, qb⟩
    have Q1 := Lib.hid q1
    have Q2 := Lib.hid q2
    have QB := Lib.hid qb
    clear q1 q2 qb
    obtain ⟨b, off, hA, hbl, hcells⟩ : ∃ b off, A1 = some ⟨b, off, none⟩ ∧ b < w.heap.size ∧ ∀ i, i < n → w.cell? ⟨b, off + i, none⟩ = some (.int .u8 (f i : Nat)) := by
      rcases R1.out with h | h
      · omega
      · exact h
    have CU := Lib.hid (HCC.out b off hA W3 (Nat.lt_of_lt_of_le hbl QB.out.size) (fun i hi => (QB.out.cell (p := ⟨b, off + i, none⟩) hbl).trans (hcells i hi)))
    clear hcells hA hbl HCC
    go_wp2_with fail
    refine CU.out.mono ?_
    rintro e w4 ⟨GC, rfl, k4, hGC, hb4⟩
    have Q3 := Lib.hid (Q1.out.below hb4 Q1.out.lt)
    have Q4 := Lib.hid (Q2.out.below hb4 Q2.out.lt)
    have QB4 := Lib.hid (below_trans QB.out hb4)
    have RC := Lib.hid (Rd.of_whole k4)
    clear k4 hGC hb4 Q1 Q2 QB CU
    go_wp2_with fail
    refine (C2.out GC _ RC.out).mono ?_
    rintro e w5 ⟨rfl, hb5⟩
    have Q5 := Lib.hid (Q3.out.below hb5 Q3.out.lt)
    have Q6 := Lib.hid (Q4.out.below hb5 Q4.out.lt)
    have QB5 := Lib.hid (below_trans QB4.out hb5)
    clear hb5 Q3 Q4 QB4 RC C2
    go_upto_region 11 with (refine wpList_store_row rfl 28 (.tmp 11) (.tmp 71) rfl w5.heap.size L.toArray rfl rfl 28 _ (Whole.new _ _ zs) (by rw [HLA.out]; kernel_rfl) (by rw [HLA.out, HZS.out]) HO2.out ?_)
    try simp only [Act.put]
    have hbs : Below w5.heap.size w5 ((w5.alloc (.cells zs 28)).setRow w5.heap.size L.toArray) := below_setRow (below_alloc (Below.refl _ _) _) (Nat.le_refl _) _
    refine cut_world (fun X => Whole X G 28 L.toArray ∧ Whole X G2 28 L.toArray ∧ Whole X w5.heap.size 28 L.toArray ∧ Below w.heap.size w X) ⟨Q5.out.below hbs Q5.out.lt, Q6.out.below hbs Q6.out.lt, setRow_heap _ _ _ _ _ _ (Whole.new _ _ _), below_trans QB5.out hbs⟩ ?_
    clear hbs Q5 Q6 QB5 hz
    generalize w5.heap.size = G3
    rintro W6 ⟨q1, q2, q3, qb⟩
    have Q1 := Lib.hid q1
    have Q2 := Lib.hid q2
    have Q3 := Lib.hid q3
    have QB := Lib.hid qb
    clear q1 q2 q3 qb
    go_wp2_with fail
    refine (alive_any _).mono ?_
    rintro e w7 ⟨rfl, hb⟩
    have P1 := Lib.hid (Q1.out.below hb Q1.out.lt)
    have P2 := Lib.hid (Q2.out.below hb Q2.out.lt)
    have P3 := Lib.hid (Q3.out.below hb Q3.out.lt)
    have QB2 := Lib.hid (below_trans QB.out hb)
    have c34 : w7.cell? ⟨G, 34, none⟩ = some (.int .i64 (N : Nat)) := by rw [P1.out.cell, HL34.out]
    clear hb Q1 Q2 Q3 QB
    go_wp2_with (first | (refine wpList_load_row_if (by rfl) 28 (.tmp 5) rfl G rfl 28 L _ P1.out rfl rfl (by rw [HLS.out]; kernel_rfl) ?_) | (refine wpList_load_row_if (by rfl) 28 (.tmp 7) rfl G2 rfl 28 L _ P2.out rfl rfl (by rw [HLS.out]; kernel_rfl) ?_) | (refine wpList_load_row_if (by rfl) 28 (.tmp 11) rfl G3 rfl 28 L _ P3.out rfl rfl (by rw [HLS.out]; kernel_rfl) ?_) | (refine wpList_value_if (by rfl) (.bool true) (run_eql_op 28 (.tmp 79) (.tmp 80) _ rfl L.toArray L.toArray rfl rfl true (by kernel_rfl) HEQ.out _) ?_) | (refine wpList_value_if (by rfl) (.bool true) (run_eql_op 28 (.tmp 92) (.tmp 93) _ rfl L.toArray L.toArray rfl rfl true (by kernel_rfl) HEQ.out _) ?_))
    go_ret
    exact ⟨rfl, QB2.out⟩
  · have HLL := Lib.hid (rd_nought hE)
    obtain ⟨L, hL⟩ : ∃ L, rdL f n = L := ⟨_, rfl⟩
    obtain ⟨E, hEE⟩ : ∃ E, rdE f n = E := ⟨_, rfl⟩
    rw [hL] at CR HO2 HLS HLA HLL
    rw [hEE] at CR hE
    have hne : ((E : Int) != 0) = true := by rw [bne_iff_ne]; omega
    have HEQ := Lib.hid (fun w => eqin_pack 9996 false false false false nought nought nought nought 0 0 (fun _ => by unfold nought; omega) (fun _ => by unfold nought; omega) (fun _ => by unfold nought; omega) (fun _ => by unfold nought; omega) true (by simp) w)
    have HB0 := Lib.hid pack_built0
    rw [← HLL.out] at HEQ HB0
    clear hL hEE hE HLL
    go_enter Try.func5, Try.ntmps5
    go_wp2_with fail
    refine CR.out.mono ?_
    rintro e w1 ⟨rfl, hb1⟩
    have HB1 := Lib.hid hb1
    clear hb1 CR
    go_upto_region 4 with (refine wpList_store_row rfl 28 (.tmp 5) (.tmp 25) rfl w1.heap.size L.toArray rfl rfl 28 _ (Whole.new _ _ zs) (by rw [HLA.out]; kernel_rfl) (by rw [HLA.out, HZS.out]) HO2.out ?_)
    try simp only [Act.put]
    refine cut_world (fun X => Whole X w1.heap.size 28 L.toArray ∧ Below w.heap.size w X) ⟨setRow_heap _ _ _ _ _ _ (Whole.new _ _ _), below_setRow (below_alloc HB1.out _) HB1.out.size _⟩ ?_
    generalize w1.heap.size = G
    rintro W ⟨k, kb⟩
    have K1 := Lib.hid k
    have KB := Lib.hid kb
    clear k kb HB1 hz
    go_wp2_with fail
    refine (alive_any _).mono ?_
    rintro e w2 ⟨rfl, hb⟩
    have K2 := Lib.hid (K1.out.below hb K1.out.lt)
    have KB2 := Lib.hid (below_trans KB.out hb)
    clear hb K1 KB
    go_wp2_with (first | (refine wpList_load_row_if (by rfl) 28 (.tmp 5) rfl G rfl 28 L _ K2.out rfl rfl (by rw [HLS.out]; kernel_rfl) ?_) | (refine wpList_value_if (by rfl) (.agg L.toArray) (run_built0 28 rfl L.toArray HB0.out) ?_) | (refine wpList_value_if (by rfl) (.bool true) (run_eql_op 28 (.tmp 31) (.tmp 32) _ rfl L.toArray L.toArray rfl rfl true (by kernel_rfl) HEQ.out _) ?_))
    go_ret
    exact ⟨rfl, KB2.out⟩

end InnerSize
end Go.Proofs.Ytiemcfgjpcnloaa
