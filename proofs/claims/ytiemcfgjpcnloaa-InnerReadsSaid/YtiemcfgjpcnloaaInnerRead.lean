/- The calls Read, Cut and Fill of package inner, at any bytes. -/
import Derived.Test.YtiemcfgjpcnloaaInnerSix
namespace Go.Proofs.Ytiemcfgjpcnloaa
namespace Inner
open Go.ChangeShapes Go.WideShapes Go.ChangeAt Go.RowKit
open Num Mem Words Chacha Aead

theorem rd_nought {f : Nat → Nat} {n : Nat} (h : rdE f n ≠ 0) : rdL f n = packL false nought false nought 0 := by unfold rdL; rw [if_neg h]
theorem four_any (b off n c : Nat) (f : Nat → Nat) (hf : ∀ i, f i < 256) (hn : n ≤ 4000) (h0 : 0 < n) (h4 : f 0 / 16 = 4) (hcn : n ≤ c) (hcm : c ≤ 9223372036854775807) (w : World) (hb : b < w.heap.size)
    (hc : ∀ i, i < n → w.cell? ⟨b, off + i, none⟩ = some (.int .u8 (f i : Nat))) :
    Calls Try.prog 17 #[.slice (some ⟨b, off, none⟩) n c] w fun e w' => e = .returned (.tuple #[.agg (rdL f n).toArray, .int .i64 (rdE f n : Nat)]) ∧ Below w.heap.size w w' := by
  by_cases h20 : n < 20
  · have e : rdE f n = 10 := by unfold rdE; rw [if_neg (by omega), if_pos h4, if_pos h20]
    rw [rd_nought (by omega), e]
    exact four_short _ n c h20 w
  · by_cases hk : ok4 f n
    · have e : rdE f n = 0 := by unfold rdE; rw [if_neg (by omega), if_pos h4, if_neg h20, if_pos hk]
      have e2 : rdL f n = packL false (at4 f 12) false (at4 f 16) (sz4 f) := by unfold rdL; rw [if_pos e, if_pos h4]
      rw [e, e2]
      exact four_ok b off n c f hf hn (by omega) hcn hcm hk w hb hc
    · have e : rdE f n = 50 := by unfold rdE; rw [if_neg (by omega), if_pos h4, if_neg h20, if_neg hk]
      rw [rd_nought (by omega), e]
      exact four_bad b off n c f hf hn (by omega) hcn hcm hk w hb hc
theorem six_any (b off n c : Nat) (f : Nat → Nat) (hf : ∀ i, f i < 256) (hn : n ≤ 4000) (h0 : 0 < n) (h6 : f 0 / 16 = 6) (hcn : n ≤ c) (hcm : c ≤ 9223372036854775807) (w : World) (hb : b < w.heap.size)
    (hc : ∀ i, i < n → w.cell? ⟨b, off + i, none⟩ = some (.int .u8 (f i : Nat))) :
    Calls Try.prog 18 #[.slice (some ⟨b, off, none⟩) n c] w fun e w' => e = .returned (.tuple #[.agg (rdL f n).toArray, .int .i64 (rdE f n : Nat)]) ∧ Below w.heap.size w w' := by
  by_cases h40 : n < 40
  · have e : rdE f n = 10 := by unfold rdE; rw [if_neg (by omega), if_neg (by omega), if_pos h6, if_pos h40]
    rw [rd_nought (by omega), e]
    exact six_short _ n c h40 w
  · by_cases hk : sz6 f ≤ n
    · have e : rdE f n = 0 := by unfold rdE; rw [if_neg (by omega), if_neg (by omega), if_pos h6, if_neg h40, if_pos hk]
      have e2 : rdL f n = packL true (at6 f 8) true (at6 f 24) (sz6 f) := by unfold rdL; rw [if_pos e, if_neg (by omega)]
      rw [e, e2]
      exact six_ok b off n c f hf hn (by omega) hcn hcm hk w hb hc
    · have e : rdE f n = 50 := by unfold rdE; rw [if_neg (by omega), if_neg (by omega), if_pos h6, if_neg h40, if_neg hk]
      rw [rd_nought (by omega), e]
      exact six_bad b off n c f hf hn (by omega) hcn hcm hk w hb hc

set_option maxRecDepth 100000 in
set_option maxHeartbeats 2000000 in
theorem read_any (A : Option Addr) (n c : Nat) (f : Nat → Nat) (hf : ∀ i, f i < 256) (hn : n ≤ 4000) (hcn : n ≤ c) (hcm : c ≤ 9223372036854775807) (w : World) (hr : Rd w A n f) :
    Calls Try.prog 9 #[.slice A n c] w fun e w' => e = .returned (.tuple #[.agg (rdL f n).toArray, .int .i64 (rdE f n : Nat)]) ∧ Below w.heap.size w w' := by
  obtain ⟨zs, hz, hzs, hzc⟩ : ∃ zs : Array Value, (∀ w, (zeroValue 28).run Try.prog w = .ok (.agg zs) w) ∧ zs.size = 35 ∧ zs = (packL false nought false nought 0).toArray := ⟨_, zero_pack, pack_size _ _ _ _ _, rfl⟩
  have HZC := Lib.hid hzc
  have HZS := Lib.hid hzs
  have HB0 := Lib.hid pack_built0
  have HO := Lib.hid (pack_one false nought false nought 0)
  rw [← hzc] at HB0 HO
  clear hzc hzs
  have HF := Lib.hid hf
  have HR := Lib.hid hr
  have hl := rdL_length f n
  have HO2 := Lib.hid (rdL_each f n)
  clear hf hr
  by_cases h0 : n = 0
  · subst h0
    have HL := Lib.hid (show packL false nought false nought 0 = rdL f 0 from rfl)
    have HE := Lib.hid (show rdE f 0 = 10 from rfl)
    clear hl HO2
    go_enter Try.func9, Try.ntmps9
    go_wp2_with (first | (refine wpList_built0 rfl 28 rfl zs HB0.out ?_) | (refine wpList_store_row rfl 28 (.tmp 2) (.tmp 7) rfl w.heap.size zs rfl rfl 28 _ (Whole.new _ _ zs) (by rw [HZS.out]; kernel_rfl) rfl HO.out ?_))
    have hret : Whole ((w.alloc (.cells zs 28)).setRow w.heap.size zs) w.heap.size 28 (packL false nought false nought 0).toArray := by
      rw [← HZC.out]
      exact setRow_heap _ _ _ _ _ _ (Whole.new _ _ _)
    refine bodyPost_ret (Poly.results_cell_tmp rfl _ _ w.heap.size 28 _ _ rfl hret rfl rfl (by rw [packL_length]; kernel_rfl)) rfl ?_
    exact ⟨rfl, below_setRow (below_alloc (Below.refl _ _) _) (Nat.le_refl _) _⟩
  obtain ⟨b, off, rfl, hb, hc⟩ : ∃ b off, A = some ⟨b, off, none⟩ ∧ b < w.heap.size ∧ ∀ i, i < n → w.cell? ⟨b, off + i, none⟩ = some (.int .u8 (f i : Nat)) := by
    rcases HR.out with h | h
    · exact absurd h h0
    · exact h
  have hn0 : 0 < n := by omega
  clear HR h0
  have HC := Lib.hid hc
  have HX : Hid (∀ i, i < n → (w.alloc (.cells zs 28)).cell? ⟨b, off + i, none⟩ = some (.int .u8 (f i : Nat))) := Lib.hid fun i hi => ((below_alloc (Below.refl _ _) _).cell (p := ⟨b, off + i, none⟩) hb).trans (HC.out i hi)
  have hcell := hc 0 (by omega)
  rw [Nat.add_zero] at hcell
  have hf0 := HF.out 0
  obtain ⟨v, hv⟩ : ∃ v, f 0 = v := ⟨_, rfl⟩
  rw [hv] at hcell hf0
  have HV := Lib.hid hv
  clear hc hv
  by_cases h4 : v / 16 = 4
  · have C := Lib.hid (four_any b off n c f HF.out hn hn0 (by rw [HV.out]; exact h4) hcn hcm (w.alloc (.cells zs 28)) (by simp; omega) HX.out)
    obtain ⟨L, hL⟩ : ∃ L, rdL f n = L := ⟨_, rfl⟩
    obtain ⟨E, hE⟩ : ∃ E, rdE f n = E := ⟨_, rfl⟩
    rw [hL] at HO2 hl
    rw [hL, hE] at C
    rw [hL, hE]
    have HLS := Lib.hid (show L.toArray.size = 35 from by rw [List.size_toArray]; exact hl)
    have HL := Lib.hid hL
    have HE := Lib.hid hE
    have e4 : (v : Int) / 16 = 4 := by omega
    clear hL hE h4 hl HX
    go_enter Try.func9, Try.ntmps9
    go_wp2_with fail
    refine C.out.mono ?_
    rintro e w1 ⟨rfl, hb1⟩
    have Q1 := Lib.hid ((Whole.new w 28 zs).below hb1 (Whole.new w 28 zs).lt)
    have QB := Lib.hid (below_new (Below.refl _ _) hb1)
    clear hb1
    go_wp2_with (refine wpList_store_row rfl 28 (.tmp 2) (.tmp 16) rfl w.heap.size L.toArray rfl rfl 28 _ Q1.out (by rw [HLS.out]; kernel_rfl) (by rw [HLS.out, HZS.out]) HO2.out ?_)
    have hret : Whole (w1.setRow w.heap.size L.toArray) w.heap.size 28 L.toArray := setRow_heap _ _ _ _ _ _ Q1.out
    refine bodyPost_ret (Poly.results_cell_tmp rfl _ _ w.heap.size 28 _ _ rfl hret rfl rfl (by rw [← List.size_toArray, HLS.out]; kernel_rfl)) rfl ?_
    exact ⟨rfl, below_setRow QB.out (Nat.le_refl _) _⟩
  by_cases h6 : v / 16 = 6
  · have C := Lib.hid (six_any b off n c f HF.out hn hn0 (by rw [HV.out]; exact h6) hcn hcm (w.alloc (.cells zs 28)) (by simp; omega) HX.out)
    obtain ⟨L, hL⟩ : ∃ L, rdL f n = L := ⟨_, rfl⟩
    obtain ⟨E, hE⟩ : ∃ E, rdE f n = E := ⟨_, rfl⟩
    rw [hL] at HO2 hl
    rw [hL, hE] at C
    rw [hL, hE]
    have HLS := Lib.hid (show L.toArray.size = 35 from by rw [List.size_toArray]; exact hl)
    have HL := Lib.hid hL
    have HE := Lib.hid hE
    have e4 : (v : Int) / 16 = 6 := by omega
    clear hL hE h4 h6 hl HX
    go_enter Try.func9, Try.ntmps9
    go_wp2_with fail
    refine C.out.mono ?_
    rintro e w1 ⟨rfl, hb1⟩
    have Q1 := Lib.hid ((Whole.new w 28 zs).below hb1 (Whole.new w 28 zs).lt)
    have QB := Lib.hid (below_new (Below.refl _ _) hb1)
    clear hb1
    go_wp2_with (refine wpList_store_row rfl 28 (.tmp 2) (.tmp 22) rfl w.heap.size L.toArray rfl rfl 28 _ Q1.out (by rw [HLS.out]; kernel_rfl) (by rw [HLS.out, HZS.out]) HO2.out ?_)
    have hret : Whole (w1.setRow w.heap.size L.toArray) w.heap.size 28 L.toArray := setRow_heap _ _ _ _ _ _ Q1.out
    refine bodyPost_ret (Poly.results_cell_tmp rfl _ _ w.heap.size 28 _ _ rfl hret rfl rfl (by rw [← List.size_toArray, HLS.out]; kernel_rfl)) rfl ?_
    exact ⟨rfl, below_setRow QB.out (Nat.le_refl _) _⟩
  have hE : rdE f n = 50 := by unfold rdE; rw [if_neg (by omega), if_neg (by rw [HV.out]; exact h4), if_neg (by rw [HV.out]; exact h6)]
  have HE := Lib.hid hE
  have HL := Lib.hid (rd_nought (f := f) (n := n) (by omega))
  obtain ⟨q, hq⟩ : ∃ q : Nat, (v : Int) / 16 = (q : Int) := ⟨v / 16, by omega⟩
  have hq4 : ((q : Int) == 4) = false := by rw [beq_eq_false_iff_ne]; omega
  have hq6 : ((q : Int) == 6) = false := by rw [beq_eq_false_iff_ne]; omega
  clear hE h4 h6 hl HO2 HX
  go_enter Try.func9, Try.ntmps9
  go_wp2_with (first | (refine wpList_built0 rfl 28 rfl zs HB0.out ?_) | (refine wpList_store_row rfl 28 (.tmp 2) (.tmp 24) rfl w.heap.size zs rfl rfl 28 _ (Whole.new _ _ zs) (by rw [HZS.out]; kernel_rfl) rfl HO.out ?_))
  have hret : Whole ((w.alloc (.cells zs 28)).setRow w.heap.size zs) w.heap.size 28 (packL false nought false nought 0).toArray := by
    rw [← HZC.out]
    exact setRow_heap _ _ _ _ _ _ (Whole.new _ _ _)
  refine bodyPost_ret (Poly.results_cell_tmp rfl _ _ w.heap.size 28 _ _ rfl hret rfl rfl (by rw [packL_length]; kernel_rfl)) rfl ?_
  exact ⟨by rw [HE.out, HL.out]; rfl, below_setRow (below_alloc (Below.refl _ _) _) (Nat.le_refl _) _⟩

end Inner
end Go.Proofs.Ytiemcfgjpcnloaa
