/- The call Write of package inner, where a packet is made. -/
import Derived.Test.YtiemcfgjpcnloaaInnerWrite
namespace Go.Proofs.Ytiemcfgjpcnloaa
namespace Inner
open Go.ChangeShapes Go.WideShapes Go.ChangeAt Go.RowKit
open Num Mem Words Chacha Aead Poly Quiet

theorem byte_info : (Try.prog.info? 5).map (fun i => (i.zero, i.size, i.bytes)) = some (some (.int .u8 0), 1, 1) := by kernel_rfl
theorem own_made (w : World) (B z : Nat) (F : Nat → Nat) (hb : B ≤ w.heap.size) (hz : z ≤ 4000) : Own (w.alloc (.cells (byteCells (fun _ => 0) z).toArray 5)) B 5 (some ⟨w.heap.size, 0, none⟩) 0 z F :=
  World.ownsRow_made w (byteCells (fun _ => 0) z).toArray z hb (by unfold maxLen; omega) (by rw [List.size_toArray, byteCells_length, Nat.mul_one])
theorem h6_lt {f g : Nat → Nat} (hf : ∀ i, f i < 256) (hg : ∀ i, g i < 256) {z : Nat} (hz : z < 65536) (i : Nat) : h6 f g z i < 256 := by
  have h1 := hf (i - 8)
  have h2 := hg (i - 24)
  unfold h6
  (repeat' split) <;> omega
theorem h4_lt {f g : Nat → Nat} (hf : ∀ i, f i < 256) (hg : ∀ i, g i < 256) {z : Nat} (hz : z < 65536) (i : Nat) : h4 f g z i < 256 := by
  have h1 := h4n_lt hf hg hz i
  have h2 : sh4 f g z < 65536 := by unfold sh4; omega
  unfold h4
  (repeat' split) <;> omega
theorem wrF_lt {s : Bool} {f g bd : Nat → Nat} (hf : ∀ i, f i < 256) (hg : ∀ i, g i < 256) (hb : ∀ i, bd i < 256) {n : Nat} (hn : n ≤ 4000) (i : Nat) : wrF s f g n bd i < 256 := by
  have h1 : hsz s + n < 65536 := by unfold hsz; split <;> omega
  unfold wrF
  split
  · split
    · exact h6_lt hf hg h1 i
    · exact h4_lt hf hg h1 i
  · exact hb _

set_option maxRecDepth 100000 in
set_option maxHeartbeats 4000000 in
theorem write_four (f g : Nat → Nat) (hf : ∀ i, f i < 256) (hg : ∀ i, g i < 256) (A : Option Addr) (n c : Nat) (ha : rightB false f = true) (ha2 : rightB false g = true) (bd : Nat → Nat) (hn : n ≤ 1480) (w : World) (hsrc : ∀ X, Below w.heap.size w X → Src X A n c bd) :
    Calls Try.prog 12 #[.agg (addrL false f).toArray, .agg (addrL false g).toArray, .slice A n c] w fun e w' => ∃ A' c', e = .returned (.tuple #[.slice A' (hsz false + n) c', .int .i64 0]) ∧ Own w' w.heap.size 5 A' (hsz false + n) c' (wrF false f g n bd) ∧ Below w.heap.size w w' := by
  obtain ⟨L, hL⟩ : ∃ L, addrL false f = L := ⟨_, rfl⟩
  obtain ⟨M, hM⟩ : ∃ M, addrL false g = M := ⟨_, rfl⟩
  have HLS := Lib.hid (show L.length = 17 from by rw [← hL, addrL_length])
  have HMS := Lib.hid (show M.length = 17 from by rw [← hM, addrL_length])
  have CL := Lib.hid (right_any false f hf)
  have CM := Lib.hid (right_any false g hg)
  rw [hL] at CL
  rw [hM] at CM
  have HL0 := Lib.hid (show L.toArray[0]? = some (.bool false) from by rw [← hL]; rfl)
  have HM0 := Lib.hid (show M.toArray[0]? = some (.bool false) from by rw [← hM]; rfl)
  rw [hL, hM]
  have HA := Lib.hid ha
  have HA2 := Lib.hid ha2
  have HLL := Lib.hid hL
  have HMM := Lib.hid hM
  have HF := Lib.hid hf
  have HG := Lib.hid hg
  have HSRC := Lib.hid hsrc
  clear hL hM hf hg ha ha2 hsrc
  go_enter Try.func12, Try.ntmps12
  go_upto_region 1 with fail
  refine cut_world (fun X => WrW w w.heap.size L M false false X) ⟨(Whole.new _ _ _).alloc _, whole_new _ _ (by simp), ?_, ?_, below_alloc (below_alloc (Below.refl _ _) _) _⟩ ?_
  · rw [((Whole.new _ _ _).alloc _).cell]
    exact HL0.out
  · rw [(whole_new _ _ (by simp)).cell]
    exact HM0.out
  clear HL0 HM0
  rintro W hr
  have HR := Lib.hid hr
  have ca := hr.ca
  have cb := hr.cb
  clear hr
  generalize hB : w.heap.size = B at HR ca cb ⊢
  go_wp2_with (first | (refine wpList_load_row_if (by rfl) 26 (.tmp 3) rfl B rfl 26 L _ HR.out.a rfl rfl (by rw [HLS.out]; kernel_rfl) ?_) | (refine wpList_load_row_if (by rfl) 26 (.tmp 4) rfl (B + 1) rfl 26 M _ HR.out.b rfl rfl (by rw [HMS.out]; kernel_rfl) ?_))
  refine (CL.out _).mono ?_
  rintro e w1 ⟨rfl, hb1⟩
  have HR1 := Lib.hid (HR.out.below hb1)
  clear hb1 HR ca cb
  have ca := HR1.out.ca
  have cb := HR1.out.cb
  rw [HA.out]
  go_wp2_with (refine wpList_load_row_if (by rfl) 26 (.tmp 4) rfl (B + 1) rfl 26 M _ HR1.out.b rfl rfl (by rw [HMS.out]; kernel_rfl) ?_)
  refine (CM.out _).mono ?_
  rintro e w2 ⟨rfl, hb1⟩
  have HR2 := Lib.hid (HR1.out.below hb1)
  clear hb1 HR1 ca cb
  have ca := HR2.out.ca
  have cb := HR2.out.cb
  rw [HA2.out]
  obtain ⟨z, hz⟩ : ∃ z : Nat, (20 : Int) + (n : Int) = (z : Int) := ⟨20 + n, by omega⟩
  have hz2 : z = 20 + n := by omega
  have HZZ := Lib.hid hz
  have HZ2 := Lib.hid hz2
  clear hz hz2
  go_upto_region 9 with fail
  rw [HZZ.out]
  have hmk := made_cap z (by have := HZ2.out; omega) w2
  have hzn : z ≤ 1500 := by have := HZ2.out; omega
  go_upto_region 10 with fail
  refine cut_world (fun X => Own X B 5 (some ⟨w2.heap.size, 0, none⟩) 0 z (fun _ => 0) ∧ WrW w B L M false false X) ⟨own_made w2 B z _ (Nat.le_of_lt HR2.out.a.lt) (by omega), HR2.out.below ((Below.refl _ _).alloc (Nat.le_refl _) _)⟩ ?_
  clear hmk HR2 ca cb
  generalize w2.heap.size = G
  rintro W3 ⟨o3, hr⟩
  have O3 := Lib.hid o3
  have HR3 := Lib.hid hr
  have ca := hr.ca
  clear o3 hr
  obtain ⟨zs, hzz, hzs⟩ : ∃ zs : Array Value, (∀ w, (zeroValue 51).run Try.prog w = .ok (.agg zs) w) ∧ zs.size = 20 := ⟨_, zero20, by rw [List.size_toArray, byteCells_length]⟩
  have HZS := Lib.hid hzs
  clear hzs
  go_wp2_with (first | (refine wpList_load_row_if (by rfl) 26 (.tmp 3) rfl B rfl 26 L _ HR3.out.a rfl rfl (by rw [HLS.out]; kernel_rfl) ?_) | (refine wpList_load_row_if (by rfl) 26 (.tmp 4) rfl (B + 1) rfl 26 M _ HR3.out.b rfl rfl (by rw [HMS.out]; kernel_rfl) ?_))
  have CH := Lib.hid (headerFour_any false false f g z (by omega) HF.out HG.out W3)
  rw [HLL.out, HMM.out] at CH
  refine CH.out.mono ?_
  rintro e w4 ⟨rfl, hb4⟩
  have HR4 := Lib.hid (HR3.out.below hb4)
  have O4 := Lib.hid (O3.out.below hb4 (Nat.le_refl _))
  clear hb4 CH O3 HR3 ca
  obtain ⟨Hh, hH⟩ : ∃ Hh, h4 f g z = Hh := ⟨_, rfl⟩
  rw [hH]
  have HHH := Lib.hid hH
  clear hH
  have HZH := Lib.hid (show (byteCells Hh 20).toArray.size = 20 from by rw [List.size_toArray, byteCells_length])
  go_upto_region 14 with (refine wpList_store_row rfl 51 (.tmp 11) (.tmp 52) rfl w4.heap.size (byteCells Hh 20).toArray rfl rfl 51 _ (Whole.new _ _ zs) (by rw [HZH.out]; kernel_rfl) (by rw [HZS.out, HZH.out]) (bytes_one _ _) ?_)
  try simp only [Act.put]
  have hbl : Below w4.heap.size w4 ((w4.alloc (.cells zs 51)).setRow w4.heap.size (byteCells Hh 20).toArray) := below_setRow (below_alloc (Below.refl _ _) _) (Nat.le_refl _) _
  refine cut_world (fun X => Whole X w4.heap.size 51 (byteCells Hh 20).toArray ∧ Own X B 5 (some ⟨G, 0, none⟩) 0 z (fun _ => 0) ∧ WrW w B L M false false X) ⟨setRow_heap _ _ _ _ _ _ (Whole.new _ _ _), O4.out.below hbl (Nat.le_refl _), HR4.out.below hbl⟩ ?_
  clear hbl O4 HR4 hzz
  generalize w4.heap.size = H
  rintro W5 ⟨p1, o5, hr⟩
  have O5 := Lib.hid o5
  have HB5 := Lib.hid hr.bel
  have hBl := hr.a.lt
  have S5 := Lib.hid (show Src W5 (some ⟨H, 0, none⟩) 20 20 Hh from .inr ⟨_, rfl, rd_src (b := H) (off := 0) fun i hi => p1.bytes i hi⟩)
  clear p1 o5 hr
  go_upto_region 15 with (refine wpList_catFrom (T := Hh) rfl (.tmp 53) (.tmp 54) 22 5 (.int .u8 0) 1 rfl byte_info rfl rfl rfl O5.out HB5.out (Nat.le_of_lt hBl) 20 20 (some ⟨H, 0, none⟩) rfl S5.out (by omega) (by omega) (fun i hi => by rw [if_neg (by omega), Nat.sub_zero]) ?_; intro A6 c6 w6 o6 hb6 hs6 _ _)
  have O6 := Lib.hid o6
  have HB6 := Lib.hid hb6
  have S6 := Lib.hid (HSRC.out w6 (by rw [hB]; exact hb6))
  have HT := Lib.hid (show ∀ i, i < 0 + 20 + n → wrF false f g n bd i = if i < 0 + 20 then Hh i else bd (i - (0 + 20)) from fun i _ => by
    unfold wrF
    rw [← HHH.out, HZ2.out]
    rfl)
  clear o6 hb6 S5 O5 HB5
  go_wp2_with (refine wpList_catFrom (T := wrF false f g n bd) rfl (.tmp 56) (.tmp 57) 22 5 (.int .u8 0) 1 rfl byte_info rfl rfl rfl O6.out HB6.out hs6 n c A rfl S6.out (by omega) (by omega) HT.out ?_; intro A7 c7 w7 o7 hb7 _ _ _)
  go_ret2
  refine ⟨A7, c7, rfl, ?_, by rw [hB]; exact hb7⟩
  rw [hB]
  exact (show hsz false + n = 0 + 20 + n from by unfold hsz; simp) ▸ o7

set_option maxRecDepth 100000 in
set_option maxHeartbeats 4000000 in
theorem write_six (f g : Nat → Nat) (hf : ∀ i, f i < 256) (hg : ∀ i, g i < 256) (A : Option Addr) (n c : Nat) (ha : rightB true f = true) (ha2 : rightB true g = true) (bd : Nat → Nat) (hn : n ≤ 1460) (w : World) (hsrc : ∀ X, Below w.heap.size w X → Src X A n c bd) :
    Calls Try.prog 12 #[.agg (addrL true f).toArray, .agg (addrL true g).toArray, .slice A n c] w fun e w' => ∃ A' c', e = .returned (.tuple #[.slice A' (hsz true + n) c', .int .i64 0]) ∧ Own w' w.heap.size 5 A' (hsz true + n) c' (wrF true f g n bd) ∧ Below w.heap.size w w' := by
  obtain ⟨L, hL⟩ : ∃ L, addrL true f = L := ⟨_, rfl⟩
  obtain ⟨M, hM⟩ : ∃ M, addrL true g = M := ⟨_, rfl⟩
  have HLS := Lib.hid (show L.length = 17 from by rw [← hL, addrL_length])
  have HMS := Lib.hid (show M.length = 17 from by rw [← hM, addrL_length])
  have CL := Lib.hid (right_any true f hf)
  have CM := Lib.hid (right_any true g hg)
  rw [hL] at CL
  rw [hM] at CM
  have HL0 := Lib.hid (show L.toArray[0]? = some (.bool true) from by rw [← hL]; rfl)
  have HM0 := Lib.hid (show M.toArray[0]? = some (.bool true) from by rw [← hM]; rfl)
  rw [hL, hM]
  have HA := Lib.hid ha
  have HA2 := Lib.hid ha2
  have HLL := Lib.hid hL
  have HMM := Lib.hid hM
  have HF := Lib.hid hf
  have HG := Lib.hid hg
  have HSRC := Lib.hid hsrc
  clear hL hM hf hg ha ha2 hsrc
  go_enter Try.func12, Try.ntmps12
  go_upto_region 1 with fail
  refine cut_world (fun X => WrW w w.heap.size L M true true X) ⟨(Whole.new _ _ _).alloc _, whole_new _ _ (by simp), ?_, ?_, below_alloc (below_alloc (Below.refl _ _) _) _⟩ ?_
  · rw [((Whole.new _ _ _).alloc _).cell]
    exact HL0.out
  · rw [(whole_new _ _ (by simp)).cell]
    exact HM0.out
  clear HL0 HM0
  rintro W hr
  have HR := Lib.hid hr
  have ca := hr.ca
  have cb := hr.cb
  clear hr
  generalize hB : w.heap.size = B at HR ca cb ⊢
  go_wp2_with (first | (refine wpList_load_row_if (by rfl) 26 (.tmp 3) rfl B rfl 26 L _ HR.out.a rfl rfl (by rw [HLS.out]; kernel_rfl) ?_) | (refine wpList_load_row_if (by rfl) 26 (.tmp 4) rfl (B + 1) rfl 26 M _ HR.out.b rfl rfl (by rw [HMS.out]; kernel_rfl) ?_))
  refine (CL.out _).mono ?_
  rintro e w1 ⟨rfl, hb1⟩
  have HR1 := Lib.hid (HR.out.below hb1)
  clear hb1 HR ca cb
  have ca := HR1.out.ca
  have cb := HR1.out.cb
  rw [HA.out]
  go_wp2_with (refine wpList_load_row_if (by rfl) 26 (.tmp 4) rfl (B + 1) rfl 26 M _ HR1.out.b rfl rfl (by rw [HMS.out]; kernel_rfl) ?_)
  refine (CM.out _).mono ?_
  rintro e w2 ⟨rfl, hb1⟩
  have HR2 := Lib.hid (HR1.out.below hb1)
  clear hb1 HR1 ca cb
  have ca := HR2.out.ca
  have cb := HR2.out.cb
  rw [HA2.out]
  obtain ⟨z, hz⟩ : ∃ z : Nat, (40 : Int) + (n : Int) = (z : Int) := ⟨40 + n, by omega⟩
  have hz2 : z = 40 + n := by omega
  have HZZ := Lib.hid hz
  have HZ2 := Lib.hid hz2
  clear hz hz2
  go_upto_region 9 with fail
  rw [HZZ.out]
  have hmk := made_cap z (by have := HZ2.out; omega) w2
  have hzn : z ≤ 1500 := by have := HZ2.out; omega
  go_upto_region 10 with fail
  refine cut_world (fun X => Own X B 5 (some ⟨w2.heap.size, 0, none⟩) 0 z (fun _ => 0) ∧ WrW w B L M true true X) ⟨own_made w2 B z _ (Nat.le_of_lt HR2.out.a.lt) (by omega), HR2.out.below ((Below.refl _ _).alloc (Nat.le_refl _) _)⟩ ?_
  clear hmk HR2 ca cb
  generalize w2.heap.size = G
  rintro W3 ⟨o3, hr⟩
  have O3 := Lib.hid o3
  have HR3 := Lib.hid hr
  have ca := hr.ca
  clear o3 hr
  obtain ⟨zs, hzz, hzs⟩ : ∃ zs : Array Value, (∀ w, (zeroValue 49).run Try.prog w = .ok (.agg zs) w) ∧ zs.size = 40 := ⟨_, zero40, by rw [List.size_toArray, byteCells_length]⟩
  have HZS := Lib.hid hzs
  clear hzs
  go_wp2_with (first | (refine wpList_load_row_if (by rfl) 26 (.tmp 3) rfl B rfl 26 L _ HR3.out.a rfl rfl (by rw [HLS.out]; kernel_rfl) ?_) | (refine wpList_load_row_if (by rfl) 26 (.tmp 4) rfl (B + 1) rfl 26 M _ HR3.out.b rfl rfl (by rw [HMS.out]; kernel_rfl) ?_))
  have CH := Lib.hid (headerSix_any true true f g z (by have := HZ2.out; omega) (by omega) W3)
  rw [HLL.out, HMM.out] at CH
  refine CH.out.mono ?_
  rintro e w4 ⟨rfl, hb4⟩
  have HR4 := Lib.hid (HR3.out.below hb4)
  have O4 := Lib.hid (O3.out.below hb4 (Nat.le_refl _))
  clear hb4 CH O3 HR3 ca
  obtain ⟨Hh, hH⟩ : ∃ Hh, h6 f g z = Hh := ⟨_, rfl⟩
  rw [hH]
  have HHH := Lib.hid hH
  clear hH
  have HZH := Lib.hid (show (byteCells Hh 40).toArray.size = 40 from by rw [List.size_toArray, byteCells_length])
  go_upto_region 12 with (refine wpList_store_row rfl 49 (.tmp 10) (.tmp 45) rfl w4.heap.size (byteCells Hh 40).toArray rfl rfl 49 _ (Whole.new _ _ zs) (by rw [HZH.out]; kernel_rfl) (by rw [HZS.out, HZH.out]) (bytes_one _ _) ?_)
  try simp only [Act.put]
  have hbl : Below w4.heap.size w4 ((w4.alloc (.cells zs 49)).setRow w4.heap.size (byteCells Hh 40).toArray) := below_setRow (below_alloc (Below.refl _ _) _) (Nat.le_refl _) _
  refine cut_world (fun X => Whole X w4.heap.size 49 (byteCells Hh 40).toArray ∧ Own X B 5 (some ⟨G, 0, none⟩) 0 z (fun _ => 0) ∧ WrW w B L M true true X) ⟨setRow_heap _ _ _ _ _ _ (Whole.new _ _ _), O4.out.below hbl (Nat.le_refl _), HR4.out.below hbl⟩ ?_
  clear hbl O4 HR4 hzz
  generalize w4.heap.size = H
  rintro W5 ⟨p1, o5, hr⟩
  have O5 := Lib.hid o5
  have HB5 := Lib.hid hr.bel
  have hBl := hr.a.lt
  have S5 := Lib.hid (show Src W5 (some ⟨H, 0, none⟩) 40 40 Hh from .inr ⟨_, rfl, rd_src (b := H) (off := 0) fun i hi => p1.bytes i hi⟩)
  clear p1 o5 hr
  go_upto_region 15 with (refine wpList_catFrom (T := Hh) rfl (.tmp 46) (.tmp 47) 22 5 (.int .u8 0) 1 rfl byte_info rfl rfl rfl O5.out HB5.out (Nat.le_of_lt hBl) 40 40 (some ⟨H, 0, none⟩) rfl S5.out (by omega) (by omega) (fun i hi => by rw [if_neg (by omega), Nat.sub_zero]) ?_; intro A6 c6 w6 o6 hb6 hs6 _ _)
  have O6 := Lib.hid o6
  have HB6 := Lib.hid hb6
  have S6 := Lib.hid (HSRC.out w6 (by rw [hB]; exact hb6))
  have HT := Lib.hid (show ∀ i, i < 0 + 40 + n → wrF true f g n bd i = if i < 0 + 40 then Hh i else bd (i - (0 + 40)) from fun i _ => by
    unfold wrF
    rw [← HHH.out, HZ2.out]
    rfl)
  clear o6 hb6 S5 O5 HB5
  go_wp2_with (refine wpList_catFrom (T := wrF true f g n bd) rfl (.tmp 56) (.tmp 57) 22 5 (.int .u8 0) 1 rfl byte_info rfl rfl rfl O6.out HB6.out hs6 n c A rfl S6.out (by omega) (by omega) HT.out ?_; intro A7 c7 w7 o7 hb7 _ _ _)
  go_ret2
  refine ⟨A7, c7, rfl, ?_, by rw [hB]; exact hb7⟩
  rw [hB]
  exact (show hsz true + n = 0 + 40 + n from by unfold hsz; simp) ▸ o7

theorem write_good (s t : Bool) (f g : Nat → Nat) (hf : ∀ i, f i < 256) (hg : ∀ i, g i < 256) (A : Option Addr) (n c : Nat) (bd : Nat → Nat) (hE : wrE s t f g n = 0) (w : World) (hsrc : ∀ X, Below w.heap.size w X → Src X A n c bd) :
    Calls Try.prog 12 #[.agg (addrL s f).toArray, .agg (addrL t g).toArray, .slice A n c] w fun e w' => ∃ A' c', e = .returned (.tuple #[.slice A' (hsz s + n) c', .int .i64 0]) ∧ Own w' w.heap.size 5 A' (hsz s + n) c' (wrF s f g n bd) ∧ Below w.heap.size w w' := by
  unfold wrE at hE
  by_cases h : rightB s f = true ∧ rightB t g = true ∧ s = t
  · rw [if_pos h] at hE
    obtain ⟨h1, h2, rfl⟩ := h
    have h3 : n ≤ 1500 - hsz s := by
      by_cases k : n > 1500 - hsz s
      · rw [if_pos k] at hE; cases hE
      · omega
    rcases s with _ | _
    · exact write_four f g hf hg A n c h1 h2 bd h3 w hsrc
    · exact write_six f g hf hg A n c h1 h2 bd h3 w hsrc
  · rw [if_neg h] at hE; cases hE
theorem write_bad (s t : Bool) (f g : Nat → Nat) (hf : ∀ i, f i < 256) (hg : ∀ i, g i < 256) (A : Option Addr) (n c : Nat) (hE : wrE s t f g n ≠ 0) (w : World) :
    Calls Try.prog 12 #[.agg (addrL s f).toArray, .agg (addrL t g).toArray, .slice A n c] w fun e w' => e = .returned (.tuple #[.slice none 0 0, .int .i64 (wrE s t f g n : Nat)]) ∧ Below w.heap.size w w' := by
  cases h1 : rightB s f with
  | false =>
    rw [show wrE s t f g n = 40 from by unfold wrE; rw [if_neg (by rw [h1]; simp)]]
    exact write_no1 s t f g hf hg A n c h1 w
  | true =>
    cases h2 : rightB t g with
    | false =>
      rw [show wrE s t f g n = 40 from by unfold wrE; rw [if_neg (by rw [h2]; simp)]]
      exact write_no2 s t f g hf hg A n c h1 h2 w
    | true =>
      by_cases h3 : s = t
      · subst h3
        have e : wrE s s f g n = if n > 1500 - hsz s then 2 else 0 := by unfold wrE; rw [if_pos ⟨h1, h2, rfl⟩]
        rw [e] at hE ⊢
        by_cases h4 : n > 1500 - hsz s
        · rw [if_pos h4]
          rcases s with _ | _
          · exact write_long_four f g hf hg A n c h1 h2 h4 w
          · exact write_long_six f g hf hg A n c h1 h2 h4 w
        · rw [if_neg h4] at hE
          exact absurd rfl hE
      · rw [show wrE s t f g n = 40 from by unfold wrE; rw [if_neg (fun h => h3 h.2.2)]]
        exact write_no3 s t f g hf hg A n c h1 h2 (by rw [beq_eq_false_iff_ne]; exact h3) w

end Inner
end Go.Proofs.Ytiemcfgjpcnloaa
