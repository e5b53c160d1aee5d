/- 'aditlaw12.InnerBack' returns true at every input and writes nothing that was there: the walk. -/
import Derived.Test.YtiemcfgjpcnloaaInnerWr
namespace Go.Proofs.Ytiemcfgjpcnloaa
namespace InnerBack
open Go.ChangeShapes Go.WideShapes Go.ChangeAt Go.RowKit
open Num Mem Words Chacha Aead Poly Quiet Inner

set_option maxRecDepth 100000 in
set_option maxHeartbeats 4000000 in
theorem walk (s : Bool) (f : Nat → Nat) (t : Bool) (g : Nat → Nat) (A1 : Option Addr) (n c1 : Nat) (z1 : List Int) (w : World) (hf : ∀ i, f i < 256) (hg : ∀ i, g i < 256) (r1 : IsRow .u8 w A1 n c1 z1) :
    Calls Try.prog 4 #[.agg (addrL s f).toArray, .agg (addrL t g).toArray, .slice A1 n c1] w fun e w' => e = .returned (.bool true) ∧ Below w.heap.size w w' := by
  obtain ⟨bd, hbd, hA1, hn1, hm1, hz1⟩ := row_rd r1
  clear r1
  have HF := Lib.hid hf
  have HG := Lib.hid hg
  have HBD := Lib.hid hbd
  have S1 := Lib.hid (fun X (hb : Below w.heap.size w X) => src_of (hA1.below hb (Nat.le_refl _)) hz1)
  clear hA1 hf hg hbd hz1
  obtain ⟨L, hL⟩ : ∃ L, addrL s f = L := ⟨_, rfl⟩
  obtain ⟨M, hM⟩ : ∃ M, addrL t g = M := ⟨_, rfl⟩
  have HLS := Lib.hid (show L.length = 17 from by rw [← hL, addrL_length])
  have HMS := Lib.hid (show M.length = 17 from by rw [← hM, addrL_length])
  by_cases hn : 2000 < n
  · rw [hL, hM]
    clear hL hM
    go_enter Try.func4, Try.ntmps4
    go_upto_region 1 with fail
    refine cut_world (fun X => Below w.heap.size w X) (below_alloc (below_alloc (Below.refl _ _) _) _) ?_
    rintro W hb0
    have HB0 := Lib.hid hb0
    clear hb0
    go_wp2_with fail
    refine (alive_any _).mono ?_
    rintro e w9 ⟨rfl, hb⟩
    have HBZ := Lib.hid (below_trans HB0.out hb)
    clear hb
    go_wp2_with fail
    go_ret
    exact ⟨rfl, HBZ.out⟩
  by_cases hE : wrE s t f g n = 0
  · obtain ⟨_, _, hst, hm⟩ := wrE_zero hE
    subst hst
    have h20 := hsz_ge s
    have HT0 := Lib.hid (fun (T : Nat → Nat) (k : Nat) (hT : ∀ i, i < hsz s + n → T i = wrF s f g n bd i) (hk : hsz s + n ≤ k) => wr_read hE hT hk)
    have CW := Lib.hid (fun w hs => write_good s s f g HF.out HG.out A1 n c1 bd hE w hs)
    have HTL := Lib.hid (show ∀ i, wrF s f g n bd i < 256 from fun i => wrF_lt HF.out HG.out HBD.out (by omega) i)
    have HB3 := Lib.hid (pack_built3 s f s g (hsz s + n : Nat))
    have HEQ := Lib.hid (fun w => eqin_pack 9996 s s s s f f g g (hsz s + n : Nat) (hsz s + n : Nat) HF.out HF.out HG.out HG.out true (by simp) w)
    have HPO := Lib.hid (pack_one s f s g (hsz s + n : Nat))
    have HPS := Lib.hid (packL_length s f s g (hsz s + n : Nat))
    have HPA := Lib.hid (pack_size s f s g (hsz s + n : Nat))
    rw [hL, hM] at CW HB3
    rw [hL, hM]
    obtain ⟨m, hmm⟩ : ∃ m, hsz s + n = m := ⟨_, rfl⟩
    rw [hmm] at hm HT0 CW HB3 HEQ HPO HPS HPA
    have hm20 : 20 ≤ m := by omega
    obtain ⟨P, hP⟩ : ∃ P, packL s f s g (m : Nat) = P := ⟨_, rfl⟩
    rw [hP] at HT0 HB3 HEQ HPO HPS HPA
    obtain ⟨T, hT⟩ : ∃ T, wrF s f g n bd = T := ⟨_, rfl⟩
    rw [hT] at HT0 CW HTL
    clear hL hM hmm hP hT hE
    obtain ⟨zs, hz, hzs⟩ : ∃ zs : Array Value, (∀ w, (zeroValue 28).run Try.prog w = .ok (.agg zs) w) ∧ zs.size = 35 := ⟨_, zero_pack, pack_size _ _ _ _ _⟩
    have HZS := Lib.hid hzs
    obtain ⟨k, hk⟩ : ∃ k, k = (m + 15) / 16 * 16 := ⟨_, rfl⟩
    have hk1 : m ≤ k := by omega
    have hk2 : k ≤ 1515 := by omega
    have hk3 : (k : Int) % 16 = 0 := by omega
    have hk4 : (k : Int) - (m : Int) < 16 := by omega
    have HK := Lib.hid hk
    obtain ⟨U, hU⟩ : ∃ U, (fun i => if i < m then T i else 0) = U := ⟨_, rfl⟩
    have HU := Lib.hid (show ∀ i, i < m → U i = T i from fun i hi => by rw [← hU]; exact if_pos hi)
    have HUL := Lib.hid (show ∀ i, U i < 256 from fun i => by
      rw [← hU]
      show (if i < m then T i else 0) < 256
      split
      · exact HTL.out i
      · omega)
    have HUU := Lib.hid hU
    have HRU := Lib.hid (HT0.out U k (fun i hi => HU.out i hi) hk1)
    clear hk hzs hU HT0
    go_enter Try.func4, Try.ntmps4
    go_upto_region 1 with fail
    refine cut_world (fun X => Whole X w.heap.size 26 L.toArray ∧ Whole X (w.heap.size + 1) 26 M.toArray ∧ Below w.heap.size w X) ⟨(Whole.new _ _ _).alloc _, whole_new _ _ (by simp), below_alloc (below_alloc (Below.refl _ _) _) _⟩ ?_
    rintro W ⟨p1, p2, pb⟩
    have P1 := Lib.hid p1
    have P2 := Lib.hid p2
    have PB := Lib.hid pb
    clear p1 p2 pb
    generalize hB : w.heap.size = B at P1 P2
    go_wp2_with (first | (refine wpList_load_row_if (by rfl) 26 (.tmp 3) rfl B rfl 26 L _ P1.out rfl rfl (by rw [HLS.out]; kernel_rfl) ?_) | (refine wpList_load_row_if (by rfl) 26 (.tmp 4) rfl (B + 1) rfl 26 M _ P2.out rfl rfl (by rw [HMS.out]; kernel_rfl) ?_))
    refine (CW.out W (fun X hb => S1.out X (PB.out.trans (hb.mono PB.out.size)))).mono ?_
    rintro e w1 ⟨A2, c2, rfl, o2, hb2⟩
    obtain ⟨b, off, rfl, hbl, hcells⟩ : ∃ b off, A2 = some ⟨b, off, none⟩ ∧ b < w1.heap.size ∧ ∀ i, i < m → w1.cell? ⟨b, off + i, none⟩ = some (.int .u8 (T i : Nat)) := by
      rcases o2.rd with h | h
      · omega
      · exact h
    have Q1 := Lib.hid (P1.out.below hb2 P1.out.lt)
    have Q2 := Lib.hid (P2.out.below hb2 P2.out.lt)
    have QB := Lib.hid (below_trans PB.out hb2)
    have QR := Lib.hid (show Rd w1 (some ⟨b, off, none⟩) m T from o2.rd)
    have CF := Lib.hid (fill_ok b off m c2 k T hm HK.out w1 hbl hcells)
    rw [HUU.out] at CF
    clear o2 hb2 hcells hbl P1 P2 PB CW S1
    go_wp2_with fail
    refine CF.out.mono ?_
    rintro e w2 ⟨rfl, q3, hb3⟩
    have R1 := Lib.hid (Q1.out.below hb3 Q1.out.lt)
    have R2 := Lib.hid (Q2.out.below hb3 Q2.out.lt)
    have RB := Lib.hid (below_trans QB.out hb3)
    have RT := Lib.hid (QR.out.below hb3 (Nat.le_refl _))
    have RU := Lib.hid q3
    clear q3 hb3 Q1 Q2 QB QR CF
    generalize w1.heap.size = G at RU ⊢
    go_wp2_with fail
    refine (read_any (some ⟨G, 0, none⟩) k k U HUL.out (by omega) (Nat.le_refl _) (by omega) _ (Rd.of_whole RU.out)).mono ?_
    rintro e w3 ⟨rfl, hb4⟩
    rw [HRU.out.1, HRU.out.2.2]
    have O1 := Lib.hid (R1.out.below hb4 R1.out.lt)
    have O2 := Lib.hid (R2.out.below hb4 R2.out.lt)
    have OB := Lib.hid (below_trans RB.out hb4)
    have OT := Lib.hid (RT.out.below hb4 (Nat.le_refl _))
    have OU := Lib.hid (RU.out.below hb4 RU.out.lt)
    clear hb4 R1 R2 RB RT RU
    go_upto_region 8 with (refine wpList_store_row rfl 28 (.tmp 11) (.tmp 42) rfl w3.heap.size P.toArray rfl rfl 28 _ (Whole.new _ _ zs) (by rw [HPA.out]; kernel_rfl) (by rw [HPA.out, HZS.out]) HPO.out ?_)
    try simp only [Act.put]
    have hbs : Below w3.heap.size w3 ((w3.alloc (.cells zs 28)).setRow w3.heap.size P.toArray) := below_setRow (below_alloc (Below.refl _ _) _) (Nat.le_refl _) _
    refine cut_world (fun X => Whole X B 26 L.toArray ∧ Whole X (B + 1) 26 M.toArray ∧ Whole X w3.heap.size 28 P.toArray ∧ Rd X (some ⟨b, off, none⟩) m T ∧ Whole X G 5 (byteCells U k).toArray ∧ Below w.heap.size w X) ⟨O1.out.below hbs O1.out.lt, O2.out.below hbs O2.out.lt, setRow_heap _ _ _ _ _ _ (Whole.new _ _ _), OT.out.below hbs (Nat.le_refl _), OU.out.below hbs OU.out.lt, below_trans OB.out hbs⟩ ?_
    clear hbs O1 O2 OB OT OU hz
    generalize w3.heap.size = G2
    rintro W4 ⟨p1, p2, p3, pt, pu, pb⟩
    have P1 := Lib.hid p1
    have P2 := Lib.hid p2
    have P3 := Lib.hid p3
    have PT := Lib.hid pt
    have PB := Lib.hid pb
    have CC := Lib.hid (cut_ok G 0 k k U HUL.out (by omega) (Nat.le_refl _) (by omega) W4 pu.lt (fun i hi => pu.bytes i hi) HRU.out.1)
    rw [HRU.out.2.1, byteCells_congr (f := U) (g := T) (n := m) (fun i hi => HU.out i hi)] at CC
    clear p1 p2 p3 pt pu pb
    go_wp2_with fail
    refine CC.out.mono ?_
    rintro e w5 ⟨GC, rfl, k5, _, hb5⟩
    have Q1 := Lib.hid (P1.out.below hb5 P1.out.lt)
    have Q2 := Lib.hid (P2.out.below hb5 P2.out.lt)
    have Q3 := Lib.hid (P3.out.below hb5 P3.out.lt)
    have QT := Lib.hid (PT.out.below hb5 (Nat.le_refl _))
    have QC := Lib.hid k5
    have QB := Lib.hid (below_trans PB.out hb5)
    clear k5 hb5 P1 P2 P3 PT PB CC
    go_wp2_with fail
    refine (alive_any _).mono ?_
    rintro e w6 ⟨rfl, hb6⟩
    have R1 := Lib.hid (Q1.out.below hb6 Q1.out.lt)
    have R2 := Lib.hid (Q2.out.below hb6 Q2.out.lt)
    have R3 := Lib.hid (Q3.out.below hb6 Q3.out.lt)
    have RT := Lib.hid (QT.out.below hb6 (Nat.le_refl _))
    have RC := Lib.hid (Rd.of_whole (QC.out.below hb6 QC.out.lt))
    have RB := Lib.hid (below_trans QB.out hb6)
    clear hb6 Q1 Q2 Q3 QT QC QB
    have X1 := Lib.hid (show (convert 22 9 (.slice (some ⟨GC, 0, none⟩) m m)).run Try.prog w6 = .ok (.string (strOf T m)) w6 from run_string_of 22 9 5 Try.underlying22 Try.underlying5 Try.underlying9 RC.out)
    have X2 := Lib.hid (show (convert 22 9 (.slice (some ⟨b, off, none⟩) m c2)).run Try.prog w6 = .ok (.string (strOf T m)) w6 from run_string_of 22 9 5 Try.underlying22 Try.underlying5 Try.underlying9 RT.out)
    generalize strOf T m = ST at X1 X2
    go_wp2_with (first | (refine wpList_load_row_if (by rfl) 28 (.tmp 11) rfl G2 rfl 28 P _ R3.out rfl rfl (by rw [HPS.out]; kernel_rfl) ?_) | (refine wpList_load_row_if (by rfl) 26 (.tmp 3) rfl B rfl 26 L _ R1.out rfl rfl (by rw [HLS.out]; kernel_rfl) ?_) | (refine wpList_load_row_if (by rfl) 26 (.tmp 4) rfl (B + 1) rfl 26 M _ R2.out rfl rfl (by rw [HMS.out]; kernel_rfl) ?_) | (refine wpList_value_if (by rfl) (.agg P.toArray) (run_built3 28 0 1 2 (.tmp 64) (.tmp 65) (.tmp 67) rfl (.agg L.toArray) (.agg M.toArray) (.int .i64 (m : Nat)) rfl rfl rfl P.toArray HB3.out) ?_) | (refine wpList_value_if (by rfl) (.bool true) (run_eql_op 28 (.tmp 63) (.tmp 68) _ rfl P.toArray P.toArray rfl rfl true (by kernel_rfl) HEQ.out _) ?_) | simp only [X1.out, Result.andThen_ok] | simp only [X2.out, Result.andThen_ok])
    go_ret
    exact ⟨rfl, RB.out⟩
  · have CW := Lib.hid (fun w => write_bad s t f g HF.out HG.out A1 n c1 hE w)
    obtain ⟨E, hEE⟩ : ∃ E, wrE s t f g n = E := ⟨_, rfl⟩
    rw [hEE] at CW hE
    rw [hL, hM] at CW
    rw [hL, hM]
    have hne : ((E : Int) != 0) = true := by rw [bne_iff_ne]; omega
    clear hL hM hEE
    go_enter Try.func4, Try.ntmps4
    go_upto_region 1 with fail
    refine cut_world (fun X => Whole X w.heap.size 26 L.toArray ∧ Whole X (w.heap.size + 1) 26 M.toArray ∧ Below w.heap.size w X) ⟨(Whole.new _ _ _).alloc _, whole_new _ _ (by simp), below_alloc (below_alloc (Below.refl _ _) _) _⟩ ?_
    rintro W ⟨p1, p2, pb⟩
    have P1 := Lib.hid p1
    have P2 := Lib.hid p2
    have PB := Lib.hid pb
    clear p1 p2 pb
    generalize hB : w.heap.size = B at P1 P2
    go_wp2_with (first | (refine wpList_load_row_if (by rfl) 26 (.tmp 3) rfl B rfl 26 L _ P1.out rfl rfl (by rw [HLS.out]; kernel_rfl) ?_) | (refine wpList_load_row_if (by rfl) 26 (.tmp 4) rfl (B + 1) rfl 26 M _ P2.out rfl rfl (by rw [HMS.out]; kernel_rfl) ?_))
    refine (CW.out W).mono ?_
    rintro e w1 ⟨rfl, hb2⟩
    have QB := Lib.hid (below_trans PB.out hb2)
    clear hb2 PB P1 P2
    go_wp2_with fail
    refine (alive_any _).mono ?_
    rintro e w9 ⟨rfl, hb⟩
    have HBZ := Lib.hid (below_trans QB.out hb)
    clear hb
    go_wp2_with fail
    go_ret
    exact ⟨rfl, HBZ.out⟩

end InnerBack
end Go.Proofs.Ytiemcfgjpcnloaa
