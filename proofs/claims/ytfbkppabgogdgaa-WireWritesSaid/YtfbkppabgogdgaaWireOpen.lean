/- number32 and number64 of wire's cursor, and open. -/
import Derived.Test.YtfbkppabgogdgaaWireFill
import Derived.Test.YtfbkppabgogdgaaWireMsg
namespace Go.Proofs.Ytfbkppabgogdgaa
namespace Wire
open Go.ChangeShapes Go.WideShapes Go.ChangeAt Go.RowKit
open Num Mem Words Ref Cuts Chacha Quiet

/-- a cursor at cb, S bytes on in what lies in block rb -/
def Cur (X : World) (cb rb : Nat) (f : Nat → Nat) (n c S : Nat) : Prop := ∃ A, Whole X cb 151 #[.slice A (n - S) (c - S)] ∧ Rd X A (n - S) (fun i => f (S + i)) ∧ ∀ ad, A = some ad → ad.block = rb
theorem Cur.below {X Y : World} {cb rb n c S : Nat} {f : Nat → Nat} (h : Cur X cb rb f n c S) (hb : Below X.heap.size X Y) : Cur Y cb rb f n c S := by
  obtain ⟨A, h1, h2, h3⟩ := h
  exact ⟨A, h1.below hb h1.lt, h2.below hb (Nat.le_refl _), h3⟩
theorem Cur.lt {X : World} {cb rb n c S : Nat} {f : Nat → Nat} (h : Cur X cb rb f n c S) : cb < X.heap.size := by
  obtain ⟨A, h1, _⟩ := h
  exact h1.lt
theorem Cur.far {X : World} {cb rb n c S g : Nat} {f : Nat → Nat} (h : Cur X cb rb f n c S) (hg : g ≠ cb) (hr : g ≠ rb) (xs : Array Value) : Cur (X.setRow g xs) cb rb f n c S := by
  obtain ⟨A, h1, h2, h3⟩ := h
  refine ⟨A, Whole.farRow h1 (fun e => hg e.symm) _, ?_, h3⟩
  rcases h2 with h0 | ⟨b, o, e, h4, h5⟩
  · exact .inl h0
  · have hb : b = rb := h3 _ e
    refine .inr ⟨b, o, e, Nat.lt_of_lt_of_le h4 (below_setRow (Below.refl 0 X) (Nat.zero_le _) xs).size, fun i hi => ?_⟩
    rw [← h5 i hi]
    unfold World.cell?
    rw [setRow_other X g b xs (by omega)]
theorem splice_all (z f : Nat → Nat) (n : Nat) : splice (byteCells z n) 0 (byteCells f n) = byteCells f n := by
  unfold splice
  rw [byteCells_length, List.drop_of_length_le (by rw [byteCells_length]; omega)]
  simp

set_option maxRecDepth 100000 in
set_option maxHeartbeats 4000000 in
theorem number32_any (cb rb : Nat) (f : Nat → Nat) (hf : ∀ i, f i < 256) (n c S : Nat) (hn : S + 4 ≤ n) (hnc : n ≤ c) (hcm : c ≤ 9223372036854775807) (hrc : rb ≠ cb) (w : World) (hC : Cur w cb rb f n c S) (hrl : rb < w.heap.size) :
    Calls Try.prog 60 #[.pointer (some ⟨cb, 0, none⟩)] w fun e w' => e = .returned (.int .u32 (le f S 4 : Nat)) ∧ Cur w' cb rb f n c (S + 4) ∧ (∀ k, k < w.heap.size → k ≠ cb → w'.heap[k]? = w.heap[k]?) ∧ Below 0 w w' := by
  obtain ⟨A, hc, hr, hA⟩ := hC
  have HC := Lib.hid hc
  have HR := Lib.hid hr
  have HA := Lib.hid hA
  have HF := Lib.hid hf
  have hcl := hc.lt
  clear hc hr hA hf
  go_enter Try.func60, Try.ntmps60
  go_upto_region 2 with fail
  refine cut_world (fun X => Whole X w.heap.size 109 (byteCells (fun _ => 0) 4).toArray ∧ Below w.heap.size w X ∧ X.heap.size = w.heap.size + 1) ⟨whole_new _ _ rfl, below_alloc (Below.refl _ _) _, by simp⟩ ?_
  rintro W ⟨k1, kb, ks⟩
  have K1 := Lib.hid k1
  have KB := Lib.hid kb
  have KS := Lib.hid ks
  clear k1 kb ks
  generalize hB : w.heap.size = B at K1 KB KS hcl hrl ⊢
  have HB := Lib.hid hB
  clear hB
  have CF : ∀ W2, Whole W2 B 109 (byteCells (fun _ => 0) 4).toArray → Below B w W2 → B < W2.heap.size → ∀ h cp, h ≠ cb → h ≠ B → Whole W2 h 36 #[.slice (some ⟨B, 0, none⟩) 4 4] →
      Calls Try.prog 61 #[.pointer (some ⟨cb, 0, none⟩), .slice (some ⟨h, 0, none⟩) 1 cp] W2 fun e w' => e = .returned (.tuple #[]) ∧ FillW W2 cb 151 B 109 rb (byteCells (fun _ => 0) 4) 0 (fun i => f (S + i)) (n - S) (c - S) 4 w' := by
    intro W2 h1 h2 h4 h cp h5 h6 h3
    have := fill_any cb 151 B 109 rb (byteCells (fun _ => 0) 4) 0 (fun i => f (S + i)) A (n - S) (c - S) (by omega) (by omega) h 0 cp [4] (by simp) (by intro j m hj; rcases j with _ | j <;> simp at hj; omega) (by simp only [sumL]; omega) (by simp only [sumL]; rw [byteCells_length]; omega) (by omega) h5 h6 hrc (by omega) HA.out W2
      ((HC.out.below h2 (by omega))) (HR.out.below h2 (Nat.le_of_eq HB.out)) h1 h3.lt (by
        intro j m hj
        rcases j with _ | j
        · simp at hj
          subst hj
          exact ⟨4, Nat.le_refl _, h3.cell 0⟩
        · simp at hj)
    exact this
  have HCF := Lib.hid CF
  clear CF
  go_upto_region 3 with (
      (go_at_call 61; have hk := KS.out; have hka := (K1.out.alloc (.cells #[.slice (some ⟨B, 0, none⟩) 4 4] 36)); refine (HCF.out _ (by first | exact hka | exact hka.drew) (below_alloc' KB.out (by omega) _) (by simp; omega) _ _ (by omega) (by omega) (Whole.new _ _ _)).mono ?_; rintro e w2 ⟨rfl, hF⟩))
  have hcur := hF.cur
  rw [show n - S - 4 = n - (S + 4) by omega, show c - S - 4 = c - (S + 4) by omega] at hcur
  have HCu := Lib.hid (show Cur w2 cb rb f n c (S + 4) by
    obtain ⟨A', h1, h2, h3⟩ := hcur
    refine ⟨A', h1, ?_, h3⟩
    rcases h2 with h0 | ⟨b, o, e, h4, h5⟩
    · exact .inl h0
    · exact .inr ⟨b, o, e, h4, fun i hi => by rw [h5 i hi]; show some (Value.int .u8 (f (S + (4 + i)) : Nat)) = some (Value.int .u8 (f (S + 4 + i) : Nat)); rw [Nat.add_assoc]⟩)
  have hd := hF.dst
  rw [splice_all] at hd
  have HD := Lib.hid hd
  have HO := Lib.hid (show ∀ k, k < B → k ≠ cb → w2.heap[k]? = w.heap[k]? from fun k hk hk2 => by
    have hs := KS.out
    rw [hF.oth k (by simp; omega) hk2 (by omega)]
    exact (below_alloc' KB.out (by omega) _).block k hk)
  have HBL := Lib.hid (show Below 0 w w2 from (below_alloc' (KB.out.mono (Nat.zero_le _)) (Nat.zero_le _) _).trans hF.bel)
  clear hF hcur hd HC HR HA HCF KB
  have hle : le (fun i => f (S + i)) 0 4 = le f S 4 := le_congr 4 (fun i _ => by simp)
  have CL := Lib.hid (load32_ok B 0 4 4 (fun i => f (S + i)) (fun i => HF.out _) 0 (by omega) (by omega) w2 (fun i hi => HD.out.bytes i hi))
  rw [hle] at CL
  go_wp2_with fail
  refine CL.out.mono ?_
  rintro e w3 ⟨rfl, rfl⟩
  go_wp2_with fail
  go_ret
  exact ⟨rfl, HCu.out, by rw [HB.out]; exact HO.out, HBL.out⟩

set_option maxRecDepth 100000 in
set_option maxHeartbeats 4000000 in
theorem number64_any (cb rb : Nat) (f : Nat → Nat) (hf : ∀ i, f i < 256) (n c S : Nat) (hn : S + 8 ≤ n) (hnc : n ≤ c) (hcm : c ≤ 9223372036854775807) (hrc : rb ≠ cb) (w : World) (hC : Cur w cb rb f n c S) (hrl : rb < w.heap.size) :
    Calls Try.prog 62 #[.pointer (some ⟨cb, 0, none⟩)] w fun e w' => e = .returned (.int .u64 (le f S 8 : Nat)) ∧ Cur w' cb rb f n c (S + 8) ∧ (∀ k, k < w.heap.size → k ≠ cb → w'.heap[k]? = w.heap[k]?) ∧ Below 0 w w' := by
  obtain ⟨A, hc, hr, hA⟩ := hC
  have HC := Lib.hid hc
  have HR := Lib.hid hr
  have HA := Lib.hid hA
  have HF := Lib.hid hf
  have hcl := hc.lt
  clear hc hr hA hf
  go_enter Try.func62, Try.ntmps62
  go_upto_region 2 with fail
  refine cut_world (fun X => Whole X w.heap.size 111 (byteCells (fun _ => 0) 8).toArray ∧ Below w.heap.size w X ∧ X.heap.size = w.heap.size + 1) ⟨whole_new _ _ rfl, below_alloc (Below.refl _ _) _, by simp⟩ ?_
  rintro W ⟨k1, kb, ks⟩
  have K1 := Lib.hid k1
  have KB := Lib.hid kb
  have KS := Lib.hid ks
  clear k1 kb ks
  generalize hB : w.heap.size = B at K1 KB KS hcl hrl ⊢
  have HB := Lib.hid hB
  clear hB
  have CF : ∀ W2, Whole W2 B 111 (byteCells (fun _ => 0) 8).toArray → Below B w W2 → B < W2.heap.size → ∀ h cp, h ≠ cb → h ≠ B → Whole W2 h 36 #[.slice (some ⟨B, 0, none⟩) 8 8] →
      Calls Try.prog 61 #[.pointer (some ⟨cb, 0, none⟩), .slice (some ⟨h, 0, none⟩) 1 cp] W2 fun e w' => e = .returned (.tuple #[]) ∧ FillW W2 cb 151 B 111 rb (byteCells (fun _ => 0) 8) 0 (fun i => f (S + i)) (n - S) (c - S) 8 w' := by
    intro W2 h1 h2 h4 h cp h5 h6 h3
    have := fill_any cb 151 B 111 rb (byteCells (fun _ => 0) 8) 0 (fun i => f (S + i)) A (n - S) (c - S) (by omega) (by omega) h 0 cp [8] (by simp) (by intro j m hj; rcases j with _ | j <;> simp at hj; omega) (by simp only [sumL]; omega) (by simp only [sumL]; rw [byteCells_length]; omega) (by omega) h5 h6 hrc (by omega) HA.out W2
      ((HC.out.below h2 (by omega))) (HR.out.below h2 (Nat.le_of_eq HB.out)) h1 h3.lt (by
        intro j m hj
        rcases j with _ | j
        · simp at hj
          subst hj
          exact ⟨8, Nat.le_refl _, h3.cell 0⟩
        · simp at hj)
    exact this
  have HCF := Lib.hid CF
  clear CF
  go_upto_region 3 with (
      (go_at_call 61; have hk := KS.out; have hka := (K1.out.alloc (.cells #[.slice (some ⟨B, 0, none⟩) 8 8] 36)); refine (HCF.out _ (by first | exact hka | exact hka.drew) (below_alloc' KB.out (by omega) _) (by simp; omega) _ _ (by omega) (by omega) (Whole.new _ _ _)).mono ?_; rintro e w2 ⟨rfl, hF⟩))
  have hcur := hF.cur
  rw [show n - S - 8 = n - (S + 8) by omega, show c - S - 8 = c - (S + 8) by omega] at hcur
  have HCu := Lib.hid (show Cur w2 cb rb f n c (S + 8) by
    obtain ⟨A', h1, h2, h3⟩ := hcur
    refine ⟨A', h1, ?_, h3⟩
    rcases h2 with h0 | ⟨b, o, e, h4, h5⟩
    · exact .inl h0
    · exact .inr ⟨b, o, e, h4, fun i hi => by rw [h5 i hi]; show some (Value.int .u8 (f (S + (8 + i)) : Nat)) = some (Value.int .u8 (f (S + 8 + i) : Nat)); rw [Nat.add_assoc]⟩)
  have hd := hF.dst
  rw [splice_all] at hd
  have HD := Lib.hid hd
  have HO := Lib.hid (show ∀ k, k < B → k ≠ cb → w2.heap[k]? = w.heap[k]? from fun k hk hk2 => by
    have hs := KS.out
    rw [hF.oth k (by simp; omega) hk2 (by omega)]
    exact (below_alloc' KB.out (by omega) _).block k hk)
  have HBL := Lib.hid (show Below 0 w w2 from (below_alloc' (KB.out.mono (Nat.zero_le _)) (Nat.zero_le _) _).trans hF.bel)
  clear hF hcur hd HC HR HA HCF KB
  have hle : le (fun i => f (S + i)) 0 8 = le f S 8 := le_congr 8 (fun i _ => by simp)
  have CL := Lib.hid (load64_ok B 0 8 8 (fun i => f (S + i)) (fun i => HF.out _) 0 (by omega) (by omega) w2 (fun i hi => HD.out.bytes i hi))
  rw [hle] at CL
  go_wp2_with fail
  refine CL.out.mono ?_
  rintro e w3 ⟨rfl, rfl⟩
  go_wp2_with fail
  go_ret
  exact ⟨rfl, HCu.out, by rw [HB.out]; exact HO.out, HBL.out⟩

/-- what open answers of a kind -/
def openE (f : Nat → Nat) (n k : Nat) : Nat := if kindE f n = 0 then (if kindV f n = k then 0 else 60) else kindE f n
set_option maxRecDepth 100000 in
set_option maxHeartbeats 2000000 in
theorem open_no (A : Option Addr) (n c : Nat) (f : Nat → Nat) (hf : ∀ i, f i < 256) (hn : n ≤ 9223372036854775807) (k : Nat) (hE : openE f n k ≠ 0) (w : World) (hr : Rd w A n f) :
    Calls Try.prog 59 #[.slice A n c, .int .i64 k] w fun e w' => e = .returned (.tuple #[.pointer none, .int .i64 (openE f n k : Nat)]) ∧ w' = w := by
  have C := Lib.hid (kind_any A n c f hf hn w hr)
  clear hr
  by_cases h0 : kindE f n = 0
  · have hv : kindV f n ≠ k := by intro e; exact hE (by unfold openE; rw [if_pos h0, if_pos e])
    have HE : openE f n k = 60 := by unfold openE; rw [if_pos h0, if_neg hv]
    rw [HE]
    rw [h0] at C
    generalize kindV f n = v at C hv
    have d : ((v : Int) != (k : Int)) = true := by rw [bne_iff_ne]; omega
    clear HE hE h0 hv
    go_enter Try.func59, Try.ntmps59
    go_wp2_with fail
    refine C.out.mono ?_
    rintro e w1 ⟨rfl, rfl⟩
    go_wp2_with fail
    go_ret2
    exact ⟨rfl, rfl⟩
  · have HE : openE f n k = kindE f n := by unfold openE; rw [if_neg h0]
    rw [HE]
    generalize kindE f n = e0 at C h0 ⊢
    generalize kindV f n = v at C
    have d : ((e0 : Int) != 0) = true := by rw [bne_iff_ne]; omega
    clear HE hE h0
    go_enter Try.func59, Try.ntmps59
    go_wp2_with fail
    refine C.out.mono ?_
    rintro e w1 ⟨rfl, rfl⟩
    go_wp2_with fail
    go_ret2
    exact ⟨rfl, rfl⟩

set_option maxRecDepth 100000 in
set_option maxHeartbeats 2000000 in
theorem open_ok (rb off n c : Nat) (f : Nat → Nat) (hf : ∀ i, f i < 256) (hnc : n ≤ c) (hcm : c ≤ 9223372036854775807) (k : Nat) (hE : openE f n k = 0) (w : World) (hr : Rd w (some ⟨rb, off, none⟩) n f) (hrl : rb < w.heap.size) :
    Calls Try.prog 59 #[.slice (some ⟨rb, off, none⟩) n c, .int .i64 k] w fun e w' => ∃ cb, e = .returned (.tuple #[.pointer (some ⟨cb, 0, none⟩), .int .i64 0]) ∧ w.heap.size ≤ cb ∧ Cur w' cb rb f n c 4 ∧ Below w.heap.size w w' := by
  have C := Lib.hid (kind_any (some ⟨rb, off, none⟩) n c f hf (by omega) w hr)
  have h0 : kindE f n = 0 := by
    cases h : kindE f n with
    | zero => rfl
    | succ m => unfold openE at hE; rw [h, if_neg (by omega)] at hE; cases hE
  have hv : kindV f n = k := by
    by_cases h : kindV f n = k
    · exact h
    · unfold openE at hE; rw [if_pos h0, if_neg h] at hE; cases hE
  have hn4 : 4 ≤ n := by
    rcases Nat.lt_or_ge n 4 with h | h
    · unfold kindE at h0; rw [if_pos h] at h0; cases h0
    · exact h
  rw [h0, hv] at C
  have HR := Lib.hid hr
  have HF := Lib.hid hf
  clear hr hf hE h0 hv
  have d : ((k : Int) != (k : Int)) = false := by simp
  go_enter Try.func59, Try.ntmps59
  go_upto_region 7 with (go_at_call 25; refine C.out.mono ?_; rintro e W ⟨rfl, rfl⟩)
  refine cut_world (fun X => Cur X W.heap.size rb f n c 0 ∧ Below W.heap.size W X ∧ W.heap.size < X.heap.size) ⟨⟨some ⟨rb, off, none⟩, whole_new _ _ rfl, ?_, ?_⟩, below_alloc (Below.refl _ _) _, ?_⟩ ?_
  · have := HR.out.below (below_alloc (Below.refl _ _) (.cells #[.slice (some ⟨rb, off, none⟩) n c] 151)) (Nat.le_refl _)
    simpa using this
  · intro ad e
    injection e with e
    rw [← e]
  · simp
  rintro X ⟨k1, k2, k3⟩
  have hrc : rb ≠ W.heap.size := by omega
  have hb := k2
  have CN := Lib.hid (number32_any W.heap.size rb f HF.out n c 0 (by omega) hnc hcm hrc X k1 (by omega))
  have KB := Lib.hid k2
  clear k1 k2 hb
  go_wp2_with fail
  refine CN.out.mono ?_
  rintro e w2 ⟨rfl, hc, ho, hb⟩
  have HC := Lib.hid hc
  have HB := Lib.hid (show Below W.heap.size W w2 from KB.out.trans ⟨hb.os, hb.tape, hb.output, hb.size, fun k hk => ho k (by omega) (by omega)⟩)
  clear hc ho hb CN
  go_wp2_with fail
  go_ret2
  exact ⟨W.heap.size, rfl, Nat.le_refl _, HC.out, HB.out⟩

end Wire
end Go.Proofs.Ytfbkppabgogdgaa
