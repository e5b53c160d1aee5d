/- The walk of the law WireOne. -/
import Derived.Test.YtpdgnknabjigbaaWireBackLaw
import Derived.Test.YtpdgnknabjigbaaWireRAnswer
namespace Go.Proofs.Ytpdgnknabjigbaa
namespace WireOne
open Go.ChangeShapes Go.WideShapes Go.ChangeAt Go.RowKit
open Num Mem Words Ref Cuts Chacha Quiet Wire
open WireBack (Wh store_below wpList_call_if)

theorem byteAt_le' (f : Nat → Nat) (hf : ∀ i, f i < 256) (p n i : Nat) (h : i < n) : byteAt (le f p n) i = f (p + i) := by
  rw [show le f p n = le (fun j => f (p + j)) 0 n from le_congr n fun j _ => by show f (p + j) = f (p + (0 + j)); rw [Nat.zero_add], Stamp.byteAt_le _ (fun i => hf _) n i h]
theorem is_kind {f : Nat → Nat} {n k : Nat} (_ : 1 ≤ k) (h : openE f n k = 0) : kindE f n = 0 ∧ kindV f n = k ∧ le f 0 4 = k := by
  unfold openE at h
  split at h
  · rename_i h0
    split at h
    · rename_i hv
      refine ⟨h0, hv, ?_⟩
      unfold kindV at hv
      rwa [if_pos h0] at hv
    · cases h
  · exact absurd h ‹_›
theorem round1 (f : Nat → Nat) (hf : ∀ i, f i < 256) (k : Nat) (hk : le f 0 4 = k) (i : Nat) : out1 k (le f 4 4) (fun i => f (8 + i)) i = f i := by
  unfold out1
  split
  · rw [← hk, byteAt_le' f hf 0 4 i (by omega), Nat.zero_add]
  split
  · rw [byteAt_le' f hf 4 4 _ (by omega)]
    congr 1
    omega
  · show f (8 + (i - 8)) = f i
    congr 1
    omega
theorem round2 (f : Nat → Nat) (hf : ∀ i, f i < 256) (k : Nat) (hk : le f 0 4 = k) (i : Nat) : out2 k (le f 4 4) (le f 8 4) (fun i => f (12 + i)) i = f i := by
  unfold out2
  split
  · rw [← hk, byteAt_le' f hf 0 4 i (by omega), Nat.zero_add]
  split
  · rw [byteAt_le' f hf 4 4 _ (by omega)]
    congr 1
    omega
  split
  · rw [byteAt_le' f hf 8 4 _ (by omega)]
    congr 1
    omega
  · show f (12 + (i - 12)) = f i
    congr 1
    omega
theorem roundD (f : Nat → Nat) (hf : ∀ i, f i < 256) (hk : le f 0 4 = 4) (i : Nat) : outD (le f 4 4) (le f 8 8) (fun i => f (16 + i)) i = f i := by
  unfold outD
  split
  · rw [← hk, byteAt_le' f hf 0 4 i (by omega), Nat.zero_add]
  split
  · rw [byteAt_le' f hf 4 4 _ (by omega)]
    congr 1
    omega
  split
  · rw [byteAt_le' f hf 8 8 _ (by omega)]
    congr 1
    omega
  · show f (16 + (i - 16)) = f i
    congr 1
    omega
theorem le4_lt (f : Nat → Nat) (hf : ∀ i, f i < 256) (p : Nat) : le f p 4 < 4294967296 := le_lt hf p 4
theorem le8_lt (f : Nat → Nat) (hf : ∀ i, f i < 256) (p : Nat) : le f p 8 < 18446744073709551616 := le_lt hf p 8
theorem rd_at {w : World} {A : Option Addr} {n : Nat} {f : Nat → Nat} (h : Rd w A n f) (hn : 0 < n) : ∃ b off, A = some ⟨b, off, none⟩ ∧ b < w.heap.size := by
  rcases h with h | ⟨b, off, h1, h2, _⟩
  · omega
  · exact ⟨b, off, h1, h2⟩

theorem caseHello (A : Option Addr) (n c : Nat) (f : Nat → Nat) (hf : ∀ i, f i < 256) (hnc : n ≤ c) (hcm : c ≤ 9223372036854775807) : ∃ L : List Value, L.length = 141 ∧ L.toArray.all (·.oneCell') = true ∧
    (∀ w, Rd w A n f → Calls Try.prog 23 #[.slice A n c] w fun e w' => e = .returned (.tuple #[.agg L.toArray, .int .i64 (openE f n 1 : Nat)]) ∧ Below w.heap.size w w') ∧
    (openE f n 1 = 0 → n = 148 ∧ ∀ w, Calls Try.prog 14 #[.agg L.toArray] w fun e w' => ∃ A' c', e = .returned (.slice A' 148 c') ∧ Rd w' A' 148 f ∧ Below w.heap.size w w') := by
  by_cases hE : openE f n 1 = 0
  · refine ⟨one (le f 4 4) (fun i => f (8 + i)) 140, one_length _ _ _, one_one _ _ _, fun w hr => ?_, fun _ => ⟨sizeHello hE, fun w => (writeHello_any (le f 4 4) (fun i => f (8 + i)) (le4_lt f hf 4) (fun i => hf _) w).mono ?_⟩⟩
    · obtain ⟨b, off, rfl, hb⟩ := rd_at hr (by have := sizeHello hE; omega)
      rw [hE]
      exact readHello_ok b off n c f hf hnc hcm hE w hr hb
    · rintro e w' ⟨A', c', h1, h2, h3⟩
      exact ⟨A', c', h1, (h2.congr fun i _ => round1 f hf 1 (is_kind (by omega) hE).2.2 i).rd, h3⟩
  · exact ⟨one 0 (fun _ => 0) 140, one_length _ _ _, one_one _ _ _, fun w hr => readHello_no A n c f hf (by omega) hE w hr, fun h => absurd h hE⟩
theorem caseAnswer (A : Option Addr) (n c : Nat) (f : Nat → Nat) (hf : ∀ i, f i < 256) (hnc : n ≤ c) (hcm : c ≤ 9223372036854775807) : ∃ L : List Value, L.length = 82 ∧ L.toArray.all (·.oneCell') = true ∧
    (∀ w, Rd w A n f → Calls Try.prog 24 #[.slice A n c] w fun e w' => e = .returned (.tuple #[.agg L.toArray, .int .i64 (openE f n 2 : Nat)]) ∧ Below w.heap.size w w') ∧
    (openE f n 2 = 0 → n = 92 ∧ ∀ w, Calls Try.prog 16 #[.agg L.toArray] w fun e w' => ∃ A' c', e = .returned (.slice A' 92 c') ∧ Rd w' A' 92 f ∧ Below w.heap.size w w') := by
  by_cases hE : openE f n 2 = 0
  · refine ⟨two (le f 4 4) (le f 8 4) (fun i => f (12 + i)) 80, two_length _ _ _ _, two_one _ _ _ _, fun w hr => ?_, fun _ => ⟨sizeAnswer hE, fun w => (writeAnswer_any (le f 4 4) (le f 8 4) (fun i => f (12 + i)) (le4_lt f hf 4) (le4_lt f hf 8) (fun i => hf _) w).mono ?_⟩⟩
    · obtain ⟨b, off, rfl, hb⟩ := rd_at hr (by have := sizeAnswer hE; omega)
      rw [hE]
      exact readAnswer_ok b off n c f hf hnc hcm hE w hr hb
    · rintro e w' ⟨A', c', h1, h2, h3⟩
      exact ⟨A', c', h1, (h2.congr fun i _ => round2 f hf 2 (is_kind (by omega) hE).2.2 i).rd, h3⟩
  · exact ⟨two 0 0 (fun _ => 0) 80, two_length _ _ _ _, two_one _ _ _ _, fun w hr => readAnswer_no A n c f hf (by omega) hE w hr, fun h => absurd h hE⟩
theorem caseCookie (A : Option Addr) (n c : Nat) (f : Nat → Nat) (hf : ∀ i, f i < 256) (hnc : n ≤ c) (hcm : c ≤ 9223372036854775807) : ∃ L : List Value, L.length = 57 ∧ L.toArray.all (·.oneCell') = true ∧
    (∀ w, Rd w A n f → Calls Try.prog 25 #[.slice A n c] w fun e w' => e = .returned (.tuple #[.agg L.toArray, .int .i64 (openE f n 3 : Nat)]) ∧ Below w.heap.size w w') ∧
    (openE f n 3 = 0 → n = 64 ∧ ∀ w, Calls Try.prog 18 #[.agg L.toArray] w fun e w' => ∃ A' c', e = .returned (.slice A' 64 c') ∧ Rd w' A' 64 f ∧ Below w.heap.size w w') := by
  by_cases hE : openE f n 3 = 0
  · refine ⟨one (le f 4 4) (fun i => f (8 + i)) 56, one_length _ _ _, one_one _ _ _, fun w hr => ?_, fun _ => ⟨sizeCookie hE, fun w => (writeCookie_any (le f 4 4) (fun i => f (8 + i)) (le4_lt f hf 4) (fun i => hf _) w).mono ?_⟩⟩
    · obtain ⟨b, off, rfl, hb⟩ := rd_at hr (by have := sizeCookie hE; omega)
      rw [hE]
      exact readCookie_ok b off n c f hf hnc hcm hE w hr hb
    · rintro e w' ⟨A', c', h1, h2, h3⟩
      exact ⟨A', c', h1, (h2.congr fun i _ => round1 f hf 3 (is_kind (by omega) hE).2.2 i).rd, h3⟩
  · exact ⟨one 0 (fun _ => 0) 56, one_length _ _ _, one_one _ _ _, fun w hr => readCookie_no A n c f hf (by omega) hE w hr, fun h => absurd h hE⟩
theorem caseData (A : Option Addr) (n c : Nat) (f : Nat → Nat) (hf : ∀ i, f i < 256) (hnc : n ≤ c) (hcm : c ≤ 9223372036854775807) : ∃ (X Y N : Nat) (F : Nat → Nat),
    (∀ w, Rd w A n f → Calls Try.prog 26 #[.slice A n c] w fun e w' => ∃ B, e = .returned (.tuple #[.agg #[.int .u32 (X : Nat), .int .u64 (Y : Nat), .slice B N N], .int .i64 (openE f n 4 : Nat)]) ∧ Rd w' B N F ∧ Below w.heap.size w w') ∧
    (openE f n 4 = 0 → ∀ w B, Rd w B N F → Calls Try.prog 10 #[.agg #[.int .u32 (X : Nat), .int .u64 (Y : Nat), .slice B N N]] w fun e w' => ∃ A' c', e = .returned (.tuple #[.slice A' n c', .int .i64 0]) ∧ Rd w' A' n f ∧ Below w.heap.size w w') := by
  by_cases hE : openE f n 4 = 0
  · have hsz := sizeData hE
    refine ⟨le f 4 4, le f 8 8, n - 16, fun i => f (16 + i), fun w hr => ?_, fun _ w B hr => ?_⟩
    · obtain ⟨b, off, rfl, hb⟩ := rd_at hr (by omega)
      rw [hE]
      refine (readData_ok b off n c f hf hnc hcm hE w hr hb).mono ?_
      rintro e w' ⟨gm, h1, h2, h3, h4⟩
      exact ⟨_, h1, Rd.of_whole h2, h4⟩
    · have h := writeData_ok (le f 4 4) (le f 8 8) (le4_lt f hf 4) (le8_lt f hf 8) B (n - 16) (n - 16) (fun i => f (16 + i)) (fun i => hf _) (Nat.le_refl _) (by unfold boxN; simp; omega) w hr
      rw [show 16 + (n - 16) = n by omega] at h
      refine h.mono ?_
      rintro e w' ⟨A', c', h1, h2, h3⟩
      exact ⟨A', c', h1, (h2.congr fun i _ => roundD f hf (is_kind (by omega) hE).2.2 i).rd, h3⟩
  · refine ⟨0, 0, 0, fun _ => 0, fun w hr => (readData_no A n c f hf (by omega) hE w hr).mono ?_, fun h => absurd h hE⟩
    rintro e w' ⟨h1, h2⟩
    exact ⟨none, h1, .inl rfl, h2⟩
theorem five (f : Nat → Nat) (n : Nat) :
    (openE f n 1 = 0 ∧ openE f n 2 ≠ 0 ∧ openE f n 3 ≠ 0 ∧ openE f n 4 ≠ 0 ∧ kindE f n = 0 ∧ kindV f n = 1) ∨ (openE f n 1 ≠ 0 ∧ openE f n 2 = 0 ∧ openE f n 3 ≠ 0 ∧ openE f n 4 ≠ 0 ∧ kindE f n = 0 ∧ kindV f n = 2) ∨
    (openE f n 1 ≠ 0 ∧ openE f n 2 ≠ 0 ∧ openE f n 3 = 0 ∧ openE f n 4 ≠ 0 ∧ kindE f n = 0 ∧ kindV f n = 3) ∨ (openE f n 1 ≠ 0 ∧ openE f n 2 ≠ 0 ∧ openE f n 3 ≠ 0 ∧ openE f n 4 = 0 ∧ kindE f n = 0 ∧ kindV f n = 4) ∨
    (openE f n 1 ≠ 0 ∧ openE f n 2 ≠ 0 ∧ openE f n 3 ≠ 0 ∧ openE f n 4 ≠ 0 ∧ kindE f n ≠ 0 ∧ kindV f n = 0) := by
  by_cases h0 : kindE f n = 0
  · have hv : 1 ≤ kindV f n ∧ kindV f n ≤ 4 := by
      unfold kindV
      rw [if_pos h0]
      unfold kindE at h0
      split at h0
      · cases h0
      split at h0
      · cases h0
      · omega
    unfold openE
    simp only [h0, if_true]
    have : kindV f n = 1 ∨ kindV f n = 2 ∨ kindV f n = 3 ∨ kindV f n = 4 := by omega
    rcases this with h | h | h | h <;> simp [h]
  · unfold openE
    simp only [if_neg h0]
    have : kindV f n = 0 := by unfold kindV; rw [if_neg h0]
    simp [h0, this]

set_option maxRecDepth 100000 in
set_option maxHeartbeats 8000000 in
theorem walk (A : Option Addr) (n c : Nat) (zs : List Int) (w : World) (hrow : IsRow .u8 w A n c zs) :
    Calls Try.prog 6 #[.slice A n c] w fun e w' => e = .returned (.bool true) ∧ Below w.heap.size w w' := by
  obtain ⟨f, hf, hrd, hnc, hcm⟩ := rd_of_row hrow
  have CA := Lib.hid alive_any
  have CK := Lib.hid (fun w h => kind_any A n c f hf (by omega) w h)
  have HRD := Lib.hid hrd
  have h5 := five f n
  obtain ⟨L0, s0, u0, cr0, cw0⟩ := caseHello A n c f hf hnc hcm
  have H0S := Lib.hid s0
  have H0Z := Lib.hid (show L0.toArray.size = 141 by rw [List.size_toArray, s0])
  have H01 := Lib.hid u0
  have CR0 := Lib.hid cr0
  clear s0 u0 cr0
  obtain ⟨L1, s1, u1, cr1, cw1⟩ := caseAnswer A n c f hf hnc hcm
  have H1S := Lib.hid s1
  have H1Z := Lib.hid (show L1.toArray.size = 82 by rw [List.size_toArray, s1])
  have H11 := Lib.hid u1
  have CR1 := Lib.hid cr1
  clear s1 u1 cr1
  obtain ⟨L2, s2, u2, cr2, cw2⟩ := caseCookie A n c f hf hnc hcm
  have H2S := Lib.hid s2
  have H2Z := Lib.hid (show L2.toArray.size = 57 by rw [List.size_toArray, s2])
  have H21 := Lib.hid u2
  have CR2 := Lib.hid cr2
  clear s2 u2 cr2
  obtain ⟨X, Y, N, F, cr3, cw3⟩ := caseData A n c f hf hnc hcm
  have CR3 := Lib.hid cr3
  have CW := Lib.hid (And.intro cw0 (And.intro cw1 (And.intro cw2 cw3)))
  clear cr3 cw0 cw1 cw2 cw3
  obtain ⟨ST, hST⟩ : ∃ ST, strOf f n = ST := ⟨_, rfl⟩
  have HST := Lib.hid hST
  obtain ⟨e0, he0⟩ : ∃ e0, openE f n 1 = e0 := ⟨_, rfl⟩
  obtain ⟨e1, he1⟩ : ∃ e1, openE f n 2 = e1 := ⟨_, rfl⟩
  obtain ⟨e2, he2⟩ : ∃ e2, openE f n 3 = e2 := ⟨_, rfl⟩
  obtain ⟨e3, he3⟩ : ∃ e3, openE f n 4 = e3 := ⟨_, rfl⟩
  obtain ⟨kE, hkE⟩ : ∃ kE, kindE f n = kE := ⟨_, rfl⟩
  obtain ⟨kV, hkV⟩ : ∃ kV, kindV f n = kV := ⟨_, rfl⟩
  rw [he0, he1, he2, he3, hkE, hkV] at h5
  rw [he0] at CR0
  rw [he1] at CR1
  rw [he2] at CR2
  rw [he3] at CR3
  rw [he0, he1, he2, he3] at CW
  rw [hkE, hkV] at CK
  have H5 := Lib.hid h5
  clear h5 hST he0 he1 he2 he3 hkE hkV hf hrow hrd
  go_enter Try.func6, Try.ntmps6
  by_cases h1 : 2000 < n
  · have d1 : decide ((2000 : Int) < (n : Int)) = true := decide_eq_true (by omega)
    go_wp2_with (go_at_call 9; refine (CA.out _).mono ?_; rintro e w1 ⟨rfl, hb⟩)
    go_ret
    exact ⟨rfl, hb⟩
  have d1 : decide ((2000 : Int) < (n : Int)) = false := decide_eq_false (by omega)
  have HW := Lib.hid (show Wh w [] from fun p hp => by cases hp)
  have KB := Lib.hid (Below.refl w.heap.size w)
  go_upto_region 4 with (first
    | (go_at_call 23; refine (CR0.out _ (HRD.out.below KB.out (Nat.le_refl _))).mono ?_; rintro e w1 ⟨rfl, hb1⟩; have HB1 := Lib.hid hb1; clear hb1)
    | (refine wpList_store_row rfl 29 (.tmp 3) (.tmp 23) rfl w1.heap.size L0.toArray rfl rfl 29 _ (Whole.new _ _ _) (by rw [H0Z.out]; kernel_rfl) (by rw [H0Z.out]; rfl) H01.out ?_))
  refine cut_world (fun X => Wh X [(w1.heap.size, 29, L0.toArray)] ∧ Below w.heap.size w X) ⟨(HW.out.below HB1.out).store _ _ _, store_below (below_trans KB.out HB1.out) _ _⟩ ?_
  rintro Y0 ⟨yw, yb⟩
  clear KB HW HB1 CR0
  have KB := Lib.hid yb
  generalize w1.heap.size = g0 at yw ⊢
  have HW := Lib.hid yw
  clear yw yb
  go_upto_region 5 with (first
    | (go_at_call 24; refine (CR1.out _ (HRD.out.below KB.out (Nat.le_refl _))).mono ?_; rintro e w1 ⟨rfl, hb1⟩; have HB1 := Lib.hid hb1; clear hb1)
    | (refine wpList_store_row rfl 31 (.tmp 5) (.tmp 28) rfl w1.heap.size L1.toArray rfl rfl 31 _ (Whole.new _ _ _) (by rw [H1Z.out]; kernel_rfl) (by rw [H1Z.out]; rfl) H11.out ?_))
  refine cut_world (fun X => Wh X [(w1.heap.size, 31, L1.toArray), (g0, 29, L0.toArray)] ∧ Below w.heap.size w X) ⟨(HW.out.below HB1.out).store _ _ _, store_below (below_trans KB.out HB1.out) _ _⟩ ?_
  rintro Y1 ⟨yw, yb⟩
  clear KB HW HB1 CR1
  have KB := Lib.hid yb
  generalize w1.heap.size = g1 at yw ⊢
  have HW := Lib.hid yw
  clear yw yb
  go_upto_region 6 with (first
    | (go_at_call 25; refine (CR2.out _ (HRD.out.below KB.out (Nat.le_refl _))).mono ?_; rintro e w1 ⟨rfl, hb1⟩; have HB1 := Lib.hid hb1; clear hb1)
    | (refine wpList_store_row rfl 34 (.tmp 7) (.tmp 33) rfl w1.heap.size L2.toArray rfl rfl 34 _ (Whole.new _ _ _) (by rw [H2Z.out]; kernel_rfl) (by rw [H2Z.out]; rfl) H21.out ?_))
  refine cut_world (fun X => Wh X [(w1.heap.size, 34, L2.toArray), (g1, 31, L1.toArray), (g0, 29, L0.toArray)] ∧ Below w.heap.size w X) ⟨(HW.out.below HB1.out).store _ _ _, store_below (below_trans KB.out HB1.out) _ _⟩ ?_
  rintro Y2 ⟨yw, yb⟩
  clear KB HW HB1 CR2
  have KB := Lib.hid yb
  generalize w1.heap.size = g2 at yw ⊢
  have HW := Lib.hid yw
  clear yw yb
  go_upto_region 7 with (first
    | (go_at_call 26; refine (CR3.out _ (HRD.out.below KB.out (Nat.le_refl _))).mono ?_; rintro e w1 ⟨B, rfl, hf1, hb1⟩; have HB1 := Lib.hid hb1; have HF1 := Lib.hid hf1; clear hf1 hb1)
    | (refine wpList_store_row rfl 38 (.tmp 9) (.tmp 38) rfl w1.heap.size #[.int .u32 (X : Nat), .int .u64 (Y : Nat), .slice B N N] rfl rfl 38 _ (Whole.new _ _ _) (by kernel_rfl) (by rfl) (data_one _ _ _ _ _) ?_))
  refine cut_world (fun X' => Wh X' [(w1.heap.size, 38, #[.int .u32 (X : Nat), .int .u64 (Y : Nat), .slice B N N]), (g2, 34, L2.toArray), (g1, 31, L1.toArray), (g0, 29, L0.toArray)] ∧ Rd X' B N F ∧ Below w.heap.size w X') ⟨(HW.out.below HB1.out).store _ _ _, HF1.out.below (store_below (Below.refl _ _) _ _) (Nat.le_refl _), store_below (below_trans KB.out HB1.out) _ _⟩ ?_
  rintro Y3 ⟨yw, yr, yb⟩
  clear KB HW HB1 HF1 CR3
  have KB := Lib.hid yb
  have YR := Lib.hid yr
  have HR := Lib.hid (HRD.out.below yb (Nat.le_refl _))
  generalize w1.heap.size = g3 at yw ⊢
  have HW := Lib.hid yw
  clear yw yr yb
  rcases H5.out with ⟨z0, z1, z2, z3, zE, zV⟩ | ⟨z0, z1, z2, z3, zE, zV⟩ | ⟨z0, z1, z2, z3, zE, zV⟩ | ⟨z0, z1, z2, z3, zE, zV⟩ | ⟨z0, z1, z2, z3, zE, zV⟩
  · subst z0
    have y1 : ((e1 : Int) == 0) = false := by rw [beq_eq_false_iff_ne]; omega
    have x1 : ((e1 : Int) = 0) = False := by rw [eq_iff_iff, iff_false]; omega
    have y2 : ((e2 : Int) == 0) = false := by rw [beq_eq_false_iff_ne]; omega
    have x2 : ((e2 : Int) = 0) = False := by rw [eq_iff_iff, iff_false]; omega
    have y3 : ((e3 : Int) == 0) = false := by rw [beq_eq_false_iff_ne]; omega
    have x3 : ((e3 : Int) = 0) = False := by rw [eq_iff_iff, iff_false]; omega
    subst zE
    subst zV
    have CWk := CW.out.1 rfl
    clear CW
    obtain ⟨hN, cwk⟩ := CWk
    have CWK := Lib.hid cwk
    clear cwk
    subst hN
    have J := Lib.hid (HW.out (g0, 29, L0.toArray) (by simp))
    have RS2 := Lib.hid (show ∀ x : World, Below Y3.heap.size Y3 x → ∀ (o : Oper) {a : Act} (ho : o.op = .convert 36 9 (.tmp 47)) (ha : a.eval (.tmp 47) = .slice A 148 c), (execOp a.eval o).run Try.prog x = .ok (.value (.string ST)) x from fun x hx o {a} ho ha => by
      rw [← HST.out]
      exact run_string_op 36 9 5 (.tmp 47) ho ha Try.underlying36 Try.underlying5 Try.underlying9 (HR.out.below hx (Nat.le_refl _)))
    go_upto_region 10 with fail
    refine region_start (fun x => Below Y3.heap.size Y3 x) (by kernel_rfl) (below_drewN (Below.refl _ _) 1) ?_
    intro x1 hS
    refine take 0 _ rfl (by kernel_rfl) (by kernel_rfl) (by kernel_rfl) (fun _ _ _ h => h) (by rfl) hS (fun x hx => run_load_in 29 (.tmp 3) rfl g0 rfl L0.toArray 141 H0Z.out (J.out.below hx J.out.lt) rfl rfl (by kernel_rfl)) ?_
    try simp only [Act.put, List.setIfInBounds_toArray, List.set_cons_zero, List.set_cons_succ]
    refine take 3 _ rfl (by kernel_rfl) (by kernel_rfl) (by kernel_rfl) (fun _ _ _ h => h) (by rfl) hS (by intro w _; go_simp; with_reducible rfl) ?_
    try simp only [Act.put, List.setIfInBounds_toArray, List.set_cons_zero, List.set_cons_succ]
    refine take 4 (.string ST) rfl (by kernel_rfl) (by kernel_rfl) (by kernel_rfl) (fun _ _ _ h => h) (by rfl) hS (fun x hx => RS2.out x hx _ rfl rfl) ?_
    try simp only [Act.put, List.setIfInBounds_toArray, List.set_cons_zero, List.set_cons_succ]
    refine alone 1 rfl (by kernel_rfl) (by rfl) ?_
    intro K hK
    go_simp
    refine (CWK.out _).mono ?_
    rintro e x2 ⟨A', c', rfl, ho, hb⟩
    go_simp
    replace hS := below_trans hS hb
    refine hK.out _ _ hS ?_
    clear hK hb K
    try simp only [Act.put, List.setIfInBounds_toArray, List.set_cons_zero, List.set_cons_succ]
    refine alone_run 2 (.string ST) rfl (by kernel_rfl) (by rfl) hS (by rw [← HST.out]; exact run_string_op 36 9 5 (.tmp 45) rfl rfl Try.underlying36 Try.underlying5 Try.underlying9 ho) ?_
    try simp only [Act.put, List.setIfInBounds_toArray, List.set_cons_zero, List.set_cons_succ]
    refine alone_run 5 (.bool false) rfl (by kernel_rfl) (by rfl) hS (by go_simp; try with_reducible rfl) ?_
    try simp only [Act.put, List.setIfInBounds_toArray, List.set_cons_zero, List.set_cons_succ]
    refine region_end (by kernel_rfl) ?_
    have ZB := Lib.hid (below_trans KB.out hS)
    clear ho hS KB HR RS2 CWK J HW YR
    go_upto_region 26 with (first
      | (go_at_call 21; refine (CK.out _ (HRD.out.below ZB.out (Nat.le_refl _))).mono ?_; rintro e w' ⟨rfl, rfl⟩))
    apply wp_region_lit
    refine wpList_call_if (by rfl) (.bool true) 9 #[] (by go_simp; try with_reducible rfl) (fun w' => Below _ _ w') (CA.out _) ?_
    intro V hv
    have VB := Lib.hid (below_trans ZB.out hv)
    clear hv
    try simp only [Act.put, List.setIfInBounds_toArray, List.set_cons_zero, List.set_cons_succ]
    refine Ops.wpList_value_if (by rfl) _ (by go_simp; try with_reducible rfl) ?_
    try simp only [Act.put, List.setIfInBounds_toArray, List.set_cons_zero, List.set_cons_succ]
    refine Ops.wpList_value_if (by rfl) _ (by go_simp; try with_reducible rfl) ?_
    try simp only [Act.put, List.setIfInBounds_toArray, List.set_cons_zero, List.set_cons_succ]
    refine Ops.wpList_value_if (by rfl) (.bool true) (by go_simp; try with_reducible rfl) ?_
    try simp only [Act.put, List.setIfInBounds_toArray, List.set_cons_zero, List.set_cons_succ]
    refine Ops.wpList_value_if (by rfl) (.bool true) (by go_simp; try with_reducible rfl) ?_
    try simp only [Act.put, List.setIfInBounds_toArray, List.set_cons_zero, List.set_cons_succ]
    refine Ops.wpList_value_if (by rfl) _ (by go_simp; try with_reducible rfl) ?_
    try simp only [Act.put, List.setIfInBounds_toArray, List.set_cons_zero, List.set_cons_succ]
    refine Ops.wpList_value_if (by rfl) _ (by go_simp; try with_reducible rfl) ?_
    try simp only [Act.put, List.setIfInBounds_toArray, List.set_cons_zero, List.set_cons_succ]
    refine Ops.wpList_value_if (by rfl) (.bool true) (by go_simp; try with_reducible rfl) ?_
    try simp only [Act.put, List.setIfInBounds_toArray, List.set_cons_zero, List.set_cons_succ]
    refine Ops.wpList_value_if (by rfl) _ (by go_simp; try with_reducible rfl) ?_
    try simp only [Act.put, List.setIfInBounds_toArray, List.set_cons_zero, List.set_cons_succ]
    refine Ops.wpList_value_if (by rfl) (.bool true) (by go_simp; try with_reducible rfl) ?_
    try simp only [Act.put, List.setIfInBounds_toArray, List.set_cons_zero, List.set_cons_succ]
    refine Ops.wpList_value_if (by rfl) (.bool true) (by go_simp; try with_reducible rfl) ?_
    try simp only [Act.put, List.setIfInBounds_toArray, List.set_cons_zero, List.set_cons_succ]
    refine Ops.wpList_value_if (by rfl) (.bool true) (by go_simp; try with_reducible rfl) ?_
    try simp only [Act.put, List.setIfInBounds_toArray, List.set_cons_zero, List.set_cons_succ]
    refine Ops.wpList_value_if (by rfl) _ (by go_simp; try with_reducible rfl) ?_
    try simp only [Act.put, List.setIfInBounds_toArray, List.set_cons_zero, List.set_cons_succ]
    refine Ops.wpList_value_if (by rfl) _ (by go_simp; try with_reducible rfl) ?_
    try simp only [Act.put, List.setIfInBounds_toArray, List.set_cons_zero, List.set_cons_succ]
    refine Ops.wpList_value_if (by rfl) (.bool true) (by go_simp; try with_reducible rfl) ?_
    try simp only [Act.put, List.setIfInBounds_toArray, List.set_cons_zero, List.set_cons_succ]
    refine Ops.wpList_value_if (by rfl) _ (by go_simp; try with_reducible rfl) ?_
    try simp only [Act.put, List.setIfInBounds_toArray, List.set_cons_zero, List.set_cons_succ]
    refine Ops.wpList_value_if (by rfl) (.bool true) (by go_simp; try with_reducible rfl) ?_
    try simp only [Act.put, List.setIfInBounds_toArray, List.set_cons_zero, List.set_cons_succ]
    refine Ops.wpList_value_if (by rfl) (.bool true) (by go_simp; try with_reducible rfl) ?_
    try simp only [Act.put, List.setIfInBounds_toArray, List.set_cons_zero, List.set_cons_succ]
    refine Ops.wpList_value_if (by rfl) (.bool true) (by go_simp; try with_reducible rfl) ?_
    try simp only [Act.put, List.setIfInBounds_toArray, List.set_cons_zero, List.set_cons_succ]
    refine Ops.wpList_value_if (by rfl) _ (by go_simp; try with_reducible rfl) ?_
    try simp only [Act.put, List.setIfInBounds_toArray, List.set_cons_zero, List.set_cons_succ]
    go_wp2_with fail
    go_ret
    exact ⟨rfl, VB.out⟩
  · have y0 : ((e0 : Int) == 0) = false := by rw [beq_eq_false_iff_ne]; omega
    have x0 : ((e0 : Int) = 0) = False := by rw [eq_iff_iff, iff_false]; omega
    subst z1
    have y2 : ((e2 : Int) == 0) = false := by rw [beq_eq_false_iff_ne]; omega
    have x2 : ((e2 : Int) = 0) = False := by rw [eq_iff_iff, iff_false]; omega
    have y3 : ((e3 : Int) == 0) = false := by rw [beq_eq_false_iff_ne]; omega
    have x3 : ((e3 : Int) = 0) = False := by rw [eq_iff_iff, iff_false]; omega
    subst zE
    subst zV
    have CWk := CW.out.2.1 rfl
    clear CW
    obtain ⟨hN, cwk⟩ := CWk
    have CWK := Lib.hid cwk
    clear cwk
    subst hN
    have J := Lib.hid (HW.out (g1, 31, L1.toArray) (by simp))
    have RS2 := Lib.hid (show ∀ x : World, Below Y3.heap.size Y3 x → ∀ (o : Oper) {a : Act} (ho : o.op = .convert 36 9 (.tmp 57)) (ha : a.eval (.tmp 57) = .slice A 92 c), (execOp a.eval o).run Try.prog x = .ok (.value (.string ST)) x from fun x hx o {a} ho ha => by
      rw [← HST.out]
      exact run_string_op 36 9 5 (.tmp 57) ho ha Try.underlying36 Try.underlying5 Try.underlying9 (HR.out.below hx (Nat.le_refl _)))
    go_upto_region 14 with fail
    refine region_start (fun x => Below Y3.heap.size Y3 x) (by kernel_rfl) (below_drewN (Below.refl _ _) 1) ?_
    intro x1 hS
    refine take 0 _ rfl (by kernel_rfl) (by kernel_rfl) (by kernel_rfl) (fun _ _ _ h => h) (by rfl) hS (fun x hx => run_load_in 31 (.tmp 5) rfl g1 rfl L1.toArray 82 H1Z.out (J.out.below hx J.out.lt) rfl rfl (by kernel_rfl)) ?_
    try simp only [Act.put, List.setIfInBounds_toArray, List.set_cons_zero, List.set_cons_succ]
    refine take 3 _ rfl (by kernel_rfl) (by kernel_rfl) (by kernel_rfl) (fun _ _ _ h => h) (by rfl) hS (by intro w _; go_simp; with_reducible rfl) ?_
    try simp only [Act.put, List.setIfInBounds_toArray, List.set_cons_zero, List.set_cons_succ]
    refine take 4 (.string ST) rfl (by kernel_rfl) (by kernel_rfl) (by kernel_rfl) (fun _ _ _ h => h) (by rfl) hS (fun x hx => RS2.out x hx _ rfl rfl) ?_
    try simp only [Act.put, List.setIfInBounds_toArray, List.set_cons_zero, List.set_cons_succ]
    refine alone 1 rfl (by kernel_rfl) (by rfl) ?_
    intro K hK
    go_simp
    refine (CWK.out _).mono ?_
    rintro e x2 ⟨A', c', rfl, ho, hb⟩
    go_simp
    replace hS := below_trans hS hb
    refine hK.out _ _ hS ?_
    clear hK hb K
    try simp only [Act.put, List.setIfInBounds_toArray, List.set_cons_zero, List.set_cons_succ]
    refine alone_run 2 (.string ST) rfl (by kernel_rfl) (by rfl) hS (by rw [← HST.out]; exact run_string_op 36 9 5 (.tmp 55) rfl rfl Try.underlying36 Try.underlying5 Try.underlying9 ho) ?_
    try simp only [Act.put, List.setIfInBounds_toArray, List.set_cons_zero, List.set_cons_succ]
    refine alone_run 5 (.bool false) rfl (by kernel_rfl) (by rfl) hS (by go_simp; try with_reducible rfl) ?_
    try simp only [Act.put, List.setIfInBounds_toArray, List.set_cons_zero, List.set_cons_succ]
    refine region_end (by kernel_rfl) ?_
    have ZB := Lib.hid (below_trans KB.out hS)
    clear ho hS KB HR RS2 CWK J HW YR
    go_upto_region 26 with (first
      | (go_at_call 21; refine (CK.out _ (HRD.out.below ZB.out (Nat.le_refl _))).mono ?_; rintro e w' ⟨rfl, rfl⟩))
    apply wp_region_lit
    refine wpList_call_if (by rfl) (.bool true) 9 #[] (by go_simp; try with_reducible rfl) (fun w' => Below _ _ w') (CA.out _) ?_
    intro V hv
    have VB := Lib.hid (below_trans ZB.out hv)
    clear hv
    try simp only [Act.put, List.setIfInBounds_toArray, List.set_cons_zero, List.set_cons_succ]
    refine Ops.wpList_value_if (by rfl) _ (by go_simp; try with_reducible rfl) ?_
    try simp only [Act.put, List.setIfInBounds_toArray, List.set_cons_zero, List.set_cons_succ]
    refine Ops.wpList_value_if (by rfl) _ (by go_simp; try with_reducible rfl) ?_
    try simp only [Act.put, List.setIfInBounds_toArray, List.set_cons_zero, List.set_cons_succ]
    refine Ops.wpList_value_if (by rfl) (.bool true) (by go_simp; try with_reducible rfl) ?_
    try simp only [Act.put, List.setIfInBounds_toArray, List.set_cons_zero, List.set_cons_succ]
    refine Ops.wpList_value_if (by rfl) (.bool true) (by go_simp; try with_reducible rfl) ?_
    try simp only [Act.put, List.setIfInBounds_toArray, List.set_cons_zero, List.set_cons_succ]
    refine Ops.wpList_value_if (by rfl) _ (by go_simp; try with_reducible rfl) ?_
    try simp only [Act.put, List.setIfInBounds_toArray, List.set_cons_zero, List.set_cons_succ]
    refine Ops.wpList_value_if (by rfl) _ (by go_simp; try with_reducible rfl) ?_
    try simp only [Act.put, List.setIfInBounds_toArray, List.set_cons_zero, List.set_cons_succ]
    refine Ops.wpList_value_if (by rfl) (.bool true) (by go_simp; try with_reducible rfl) ?_
    try simp only [Act.put, List.setIfInBounds_toArray, List.set_cons_zero, List.set_cons_succ]
    refine Ops.wpList_value_if (by rfl) _ (by go_simp; try with_reducible rfl) ?_
    try simp only [Act.put, List.setIfInBounds_toArray, List.set_cons_zero, List.set_cons_succ]
    refine Ops.wpList_value_if (by rfl) (.bool true) (by go_simp; try with_reducible rfl) ?_
    try simp only [Act.put, List.setIfInBounds_toArray, List.set_cons_zero, List.set_cons_succ]
    refine Ops.wpList_value_if (by rfl) (.bool true) (by go_simp; try with_reducible rfl) ?_
    try simp only [Act.put, List.setIfInBounds_toArray, List.set_cons_zero, List.set_cons_succ]
    refine Ops.wpList_value_if (by rfl) (.bool true) (by go_simp; try with_reducible rfl) ?_
    try simp only [Act.put, List.setIfInBounds_toArray, List.set_cons_zero, List.set_cons_succ]
    refine Ops.wpList_value_if (by rfl) _ (by go_simp; try with_reducible rfl) ?_
    try simp only [Act.put, List.setIfInBounds_toArray, List.set_cons_zero, List.set_cons_succ]
    refine Ops.wpList_value_if (by rfl) _ (by go_simp; try with_reducible rfl) ?_
    try simp only [Act.put, List.setIfInBounds_toArray, List.set_cons_zero, List.set_cons_succ]
    refine Ops.wpList_value_if (by rfl) (.bool true) (by go_simp; try with_reducible rfl) ?_
    try simp only [Act.put, List.setIfInBounds_toArray, List.set_cons_zero, List.set_cons_succ]
    refine Ops.wpList_value_if (by rfl) _ (by go_simp; try with_reducible rfl) ?_
    try simp only [Act.put, List.setIfInBounds_toArray, List.set_cons_zero, List.set_cons_succ]
    refine Ops.wpList_value_if (by rfl) (.bool true) (by go_simp; try with_reducible rfl) ?_
    try simp only [Act.put, List.setIfInBounds_toArray, List.set_cons_zero, List.set_cons_succ]
    refine Ops.wpList_value_if (by rfl) (.bool true) (by go_simp; try with_reducible rfl) ?_
    try simp only [Act.put, List.setIfInBounds_toArray, List.set_cons_zero, List.set_cons_succ]
    refine Ops.wpList_value_if (by rfl) (.bool true) (by go_simp; try with_reducible rfl) ?_
    try simp only [Act.put, List.setIfInBounds_toArray, List.set_cons_zero, List.set_cons_succ]
    refine Ops.wpList_value_if (by rfl) _ (by go_simp; try with_reducible rfl) ?_
    try simp only [Act.put, List.setIfInBounds_toArray, List.set_cons_zero, List.set_cons_succ]
    go_wp2_with fail
    go_ret
    exact ⟨rfl, VB.out⟩
  · have y0 : ((e0 : Int) == 0) = false := by rw [beq_eq_false_iff_ne]; omega
    have x0 : ((e0 : Int) = 0) = False := by rw [eq_iff_iff, iff_false]; omega
    have y1 : ((e1 : Int) == 0) = false := by rw [beq_eq_false_iff_ne]; omega
    have x1 : ((e1 : Int) = 0) = False := by rw [eq_iff_iff, iff_false]; omega
    subst z2
    have y3 : ((e3 : Int) == 0) = false := by rw [beq_eq_false_iff_ne]; omega
    have x3 : ((e3 : Int) = 0) = False := by rw [eq_iff_iff, iff_false]; omega
    subst zE
    subst zV
    have CWk := CW.out.2.2.1 rfl
    clear CW
    obtain ⟨hN, cwk⟩ := CWk
    have CWK := Lib.hid cwk
    clear cwk
    subst hN
    have J := Lib.hid (HW.out (g2, 34, L2.toArray) (by simp))
    have RS2 := Lib.hid (show ∀ x : World, Below Y3.heap.size Y3 x → ∀ (o : Oper) {a : Act} (ho : o.op = .convert 36 9 (.tmp 67)) (ha : a.eval (.tmp 67) = .slice A 64 c), (execOp a.eval o).run Try.prog x = .ok (.value (.string ST)) x from fun x hx o {a} ho ha => by
      rw [← HST.out]
      exact run_string_op 36 9 5 (.tmp 67) ho ha Try.underlying36 Try.underlying5 Try.underlying9 (HR.out.below hx (Nat.le_refl _)))
    go_upto_region 18 with fail
    refine region_start (fun x => Below Y3.heap.size Y3 x) (by kernel_rfl) (below_drewN (Below.refl _ _) 1) ?_
    intro x1 hS
    refine take 0 _ rfl (by kernel_rfl) (by kernel_rfl) (by kernel_rfl) (fun _ _ _ h => h) (by rfl) hS (fun x hx => run_load_in 34 (.tmp 7) rfl g2 rfl L2.toArray 57 H2Z.out (J.out.below hx J.out.lt) rfl rfl (by kernel_rfl)) ?_
    try simp only [Act.put, List.setIfInBounds_toArray, List.set_cons_zero, List.set_cons_succ]
    refine take 3 _ rfl (by kernel_rfl) (by kernel_rfl) (by kernel_rfl) (fun _ _ _ h => h) (by rfl) hS (by intro w _; go_simp; with_reducible rfl) ?_
    try simp only [Act.put, List.setIfInBounds_toArray, List.set_cons_zero, List.set_cons_succ]
    refine take 4 (.string ST) rfl (by kernel_rfl) (by kernel_rfl) (by kernel_rfl) (fun _ _ _ h => h) (by rfl) hS (fun x hx => RS2.out x hx _ rfl rfl) ?_
    try simp only [Act.put, List.setIfInBounds_toArray, List.set_cons_zero, List.set_cons_succ]
    refine alone 1 rfl (by kernel_rfl) (by rfl) ?_
    intro K hK
    go_simp
    refine (CWK.out _).mono ?_
    rintro e x2 ⟨A', c', rfl, ho, hb⟩
    go_simp
    replace hS := below_trans hS hb
    refine hK.out _ _ hS ?_
    clear hK hb K
    try simp only [Act.put, List.setIfInBounds_toArray, List.set_cons_zero, List.set_cons_succ]
    refine alone_run 2 (.string ST) rfl (by kernel_rfl) (by rfl) hS (by rw [← HST.out]; exact run_string_op 36 9 5 (.tmp 65) rfl rfl Try.underlying36 Try.underlying5 Try.underlying9 ho) ?_
    try simp only [Act.put, List.setIfInBounds_toArray, List.set_cons_zero, List.set_cons_succ]
    refine alone_run 5 (.bool false) rfl (by kernel_rfl) (by rfl) hS (by go_simp; try with_reducible rfl) ?_
    try simp only [Act.put, List.setIfInBounds_toArray, List.set_cons_zero, List.set_cons_succ]
    refine region_end (by kernel_rfl) ?_
    have ZB := Lib.hid (below_trans KB.out hS)
    clear ho hS KB HR RS2 CWK J HW YR
    go_upto_region 26 with (first
      | (go_at_call 21; refine (CK.out _ (HRD.out.below ZB.out (Nat.le_refl _))).mono ?_; rintro e w' ⟨rfl, rfl⟩))
    apply wp_region_lit
    refine wpList_call_if (by rfl) (.bool true) 9 #[] (by go_simp; try with_reducible rfl) (fun w' => Below _ _ w') (CA.out _) ?_
    intro V hv
    have VB := Lib.hid (below_trans ZB.out hv)
    clear hv
    try simp only [Act.put, List.setIfInBounds_toArray, List.set_cons_zero, List.set_cons_succ]
    refine Ops.wpList_value_if (by rfl) _ (by go_simp; try with_reducible rfl) ?_
    try simp only [Act.put, List.setIfInBounds_toArray, List.set_cons_zero, List.set_cons_succ]
    refine Ops.wpList_value_if (by rfl) _ (by go_simp; try with_reducible rfl) ?_
    try simp only [Act.put, List.setIfInBounds_toArray, List.set_cons_zero, List.set_cons_succ]
    refine Ops.wpList_value_if (by rfl) (.bool true) (by go_simp; try with_reducible rfl) ?_
    try simp only [Act.put, List.setIfInBounds_toArray, List.set_cons_zero, List.set_cons_succ]
    refine Ops.wpList_value_if (by rfl) (.bool true) (by go_simp; try with_reducible rfl) ?_
    try simp only [Act.put, List.setIfInBounds_toArray, List.set_cons_zero, List.set_cons_succ]
    refine Ops.wpList_value_if (by rfl) _ (by go_simp; try with_reducible rfl) ?_
    try simp only [Act.put, List.setIfInBounds_toArray, List.set_cons_zero, List.set_cons_succ]
    refine Ops.wpList_value_if (by rfl) _ (by go_simp; try with_reducible rfl) ?_
    try simp only [Act.put, List.setIfInBounds_toArray, List.set_cons_zero, List.set_cons_succ]
    refine Ops.wpList_value_if (by rfl) (.bool true) (by go_simp; try with_reducible rfl) ?_
    try simp only [Act.put, List.setIfInBounds_toArray, List.set_cons_zero, List.set_cons_succ]
    refine Ops.wpList_value_if (by rfl) _ (by go_simp; try with_reducible rfl) ?_
    try simp only [Act.put, List.setIfInBounds_toArray, List.set_cons_zero, List.set_cons_succ]
    refine Ops.wpList_value_if (by rfl) (.bool true) (by go_simp; try with_reducible rfl) ?_
    try simp only [Act.put, List.setIfInBounds_toArray, List.set_cons_zero, List.set_cons_succ]
    refine Ops.wpList_value_if (by rfl) (.bool true) (by go_simp; try with_reducible rfl) ?_
    try simp only [Act.put, List.setIfInBounds_toArray, List.set_cons_zero, List.set_cons_succ]
    refine Ops.wpList_value_if (by rfl) (.bool true) (by go_simp; try with_reducible rfl) ?_
    try simp only [Act.put, List.setIfInBounds_toArray, List.set_cons_zero, List.set_cons_succ]
    refine Ops.wpList_value_if (by rfl) _ (by go_simp; try with_reducible rfl) ?_
    try simp only [Act.put, List.setIfInBounds_toArray, List.set_cons_zero, List.set_cons_succ]
    refine Ops.wpList_value_if (by rfl) _ (by go_simp; try with_reducible rfl) ?_
    try simp only [Act.put, List.setIfInBounds_toArray, List.set_cons_zero, List.set_cons_succ]
    refine Ops.wpList_value_if (by rfl) (.bool true) (by go_simp; try with_reducible rfl) ?_
    try simp only [Act.put, List.setIfInBounds_toArray, List.set_cons_zero, List.set_cons_succ]
    refine Ops.wpList_value_if (by rfl) _ (by go_simp; try with_reducible rfl) ?_
    try simp only [Act.put, List.setIfInBounds_toArray, List.set_cons_zero, List.set_cons_succ]
    refine Ops.wpList_value_if (by rfl) (.bool true) (by go_simp; try with_reducible rfl) ?_
    try simp only [Act.put, List.setIfInBounds_toArray, List.set_cons_zero, List.set_cons_succ]
    refine Ops.wpList_value_if (by rfl) (.bool true) (by go_simp; try with_reducible rfl) ?_
    try simp only [Act.put, List.setIfInBounds_toArray, List.set_cons_zero, List.set_cons_succ]
    refine Ops.wpList_value_if (by rfl) (.bool true) (by go_simp; try with_reducible rfl) ?_
    try simp only [Act.put, List.setIfInBounds_toArray, List.set_cons_zero, List.set_cons_succ]
    refine Ops.wpList_value_if (by rfl) _ (by go_simp; try with_reducible rfl) ?_
    try simp only [Act.put, List.setIfInBounds_toArray, List.set_cons_zero, List.set_cons_succ]
    go_wp2_with fail
    go_ret
    exact ⟨rfl, VB.out⟩
  · have y0 : ((e0 : Int) == 0) = false := by rw [beq_eq_false_iff_ne]; omega
    have x0 : ((e0 : Int) = 0) = False := by rw [eq_iff_iff, iff_false]; omega
    have y1 : ((e1 : Int) == 0) = false := by rw [beq_eq_false_iff_ne]; omega
    have x1 : ((e1 : Int) = 0) = False := by rw [eq_iff_iff, iff_false]; omega
    have y2 : ((e2 : Int) == 0) = false := by rw [beq_eq_false_iff_ne]; omega
    have x2 : ((e2 : Int) = 0) = False := by rw [eq_iff_iff, iff_false]; omega
    subst z3
    subst zE
    subst zV
    have CWK := Lib.hid (CW.out.2.2.2 rfl)
    clear CW
    have J := Lib.hid (HW.out (g3, 38, #[.int .u32 (X : Nat), .int .u64 (Y : Nat), .slice B N N]) (by simp))
    go_upto_region 23 with (first
      | (refine Poly.wpList_load_row_if (by rfl) 38 (.tmp 9) rfl g3 rfl 38 [.int .u32 (X : Nat), .int .u64 (Y : Nat), .slice B N N] _ J.out rfl rfl (by kernel_rfl) ?_)
      | (go_at_call 10; refine (CWK.out _ _ YR.out).mono ?_; rintro e x2 ⟨A', c', rfl, ho, hb⟩; have HO := Lib.hid ho; have HB := Lib.hid hb; clear ho hb))
    apply wp_region_lit
    refine Ops.wpList_value_if (by rfl) _ (by go_simp; try with_reducible rfl) ?_
    try simp only [Act.put, List.setIfInBounds_toArray, List.set_cons_zero, List.set_cons_succ]
    refine Ops.wpList_value_if (by rfl) (.bool false) (by go_simp; try with_reducible rfl) ?_
    try simp only [Act.put, List.setIfInBounds_toArray, List.set_cons_zero, List.set_cons_succ]
    refine Ops.wpList_value_if (by rfl) _ (by go_simp; try with_reducible rfl) ?_
    try simp only [Act.put, List.setIfInBounds_toArray, List.set_cons_zero, List.set_cons_succ]
    refine Ops.wpList_value_if (by rfl) _ (by go_simp; try with_reducible rfl) ?_
    try simp only [Act.put, List.setIfInBounds_toArray, List.set_cons_zero, List.set_cons_succ]
    refine Ops.wpList_value_if (by rfl) (.string ST) (by rw [← HST.out]; exact run_string_op 36 9 5 (.tmp 82) rfl rfl Try.underlying36 Try.underlying5 Try.underlying9 HO.out) ?_
    try simp only [Act.put, List.setIfInBounds_toArray, List.set_cons_zero, List.set_cons_succ]
    refine Ops.wpList_value_if (by rfl) _ (by go_simp; try with_reducible rfl) ?_
    try simp only [Act.put, List.setIfInBounds_toArray, List.set_cons_zero, List.set_cons_succ]
    refine Ops.wpList_value_if (by rfl) (.string ST) (by rw [← HST.out]; exact run_string_op 36 9 5 (.tmp 84) rfl rfl Try.underlying36 Try.underlying5 Try.underlying9 (HR.out.below HB.out (Nat.le_refl _))) ?_
    try simp only [Act.put, List.setIfInBounds_toArray, List.set_cons_zero, List.set_cons_succ]
    refine Ops.wpList_value_if (by rfl) (.bool false) (by go_simp; try with_reducible rfl) ?_
    try simp only [Act.put, List.setIfInBounds_toArray, List.set_cons_zero, List.set_cons_succ]
    refine Ops.wpList_value_if (by rfl) (.bool false) (by go_simp; try with_reducible rfl) ?_
    try simp only [Act.put, List.setIfInBounds_toArray, List.set_cons_zero, List.set_cons_succ]
    have ZB := Lib.hid (below_trans KB.out HB.out)
    clear HO HB KB HR CWK J HW YR
    go_upto_region 26 with (first
      | (go_at_call 21; refine (CK.out _ (HRD.out.below ZB.out (Nat.le_refl _))).mono ?_; rintro e w' ⟨rfl, rfl⟩))
    apply wp_region_lit
    refine wpList_call_if (by rfl) (.bool true) 9 #[] (by go_simp; try with_reducible rfl) (fun w' => Below _ _ w') (CA.out _) ?_
    intro V hv
    have VB := Lib.hid (below_trans ZB.out hv)
    clear hv
    try simp only [Act.put, List.setIfInBounds_toArray, List.set_cons_zero, List.set_cons_succ]
    refine Ops.wpList_value_if (by rfl) _ (by go_simp; try with_reducible rfl) ?_
    try simp only [Act.put, List.setIfInBounds_toArray, List.set_cons_zero, List.set_cons_succ]
    refine Ops.wpList_value_if (by rfl) _ (by go_simp; try with_reducible rfl) ?_
    try simp only [Act.put, List.setIfInBounds_toArray, List.set_cons_zero, List.set_cons_succ]
    refine Ops.wpList_value_if (by rfl) (.bool true) (by go_simp; try with_reducible rfl) ?_
    try simp only [Act.put, List.setIfInBounds_toArray, List.set_cons_zero, List.set_cons_succ]
    refine Ops.wpList_value_if (by rfl) (.bool true) (by go_simp; try with_reducible rfl) ?_
    try simp only [Act.put, List.setIfInBounds_toArray, List.set_cons_zero, List.set_cons_succ]
    refine Ops.wpList_value_if (by rfl) _ (by go_simp; try with_reducible rfl) ?_
    try simp only [Act.put, List.setIfInBounds_toArray, List.set_cons_zero, List.set_cons_succ]
    refine Ops.wpList_value_if (by rfl) _ (by go_simp; try with_reducible rfl) ?_
    try simp only [Act.put, List.setIfInBounds_toArray, List.set_cons_zero, List.set_cons_succ]
    refine Ops.wpList_value_if (by rfl) (.bool true) (by go_simp; try with_reducible rfl) ?_
    try simp only [Act.put, List.setIfInBounds_toArray, List.set_cons_zero, List.set_cons_succ]
    refine Ops.wpList_value_if (by rfl) _ (by go_simp; try with_reducible rfl) ?_
    try simp only [Act.put, List.setIfInBounds_toArray, List.set_cons_zero, List.set_cons_succ]
    refine Ops.wpList_value_if (by rfl) (.bool true) (by go_simp; try with_reducible rfl) ?_
    try simp only [Act.put, List.setIfInBounds_toArray, List.set_cons_zero, List.set_cons_succ]
    refine Ops.wpList_value_if (by rfl) (.bool true) (by go_simp; try with_reducible rfl) ?_
    try simp only [Act.put, List.setIfInBounds_toArray, List.set_cons_zero, List.set_cons_succ]
    refine Ops.wpList_value_if (by rfl) (.bool true) (by go_simp; try with_reducible rfl) ?_
    try simp only [Act.put, List.setIfInBounds_toArray, List.set_cons_zero, List.set_cons_succ]
    refine Ops.wpList_value_if (by rfl) _ (by go_simp; try with_reducible rfl) ?_
    try simp only [Act.put, List.setIfInBounds_toArray, List.set_cons_zero, List.set_cons_succ]
    refine Ops.wpList_value_if (by rfl) _ (by go_simp; try with_reducible rfl) ?_
    try simp only [Act.put, List.setIfInBounds_toArray, List.set_cons_zero, List.set_cons_succ]
    refine Ops.wpList_value_if (by rfl) (.bool true) (by go_simp; try with_reducible rfl) ?_
    try simp only [Act.put, List.setIfInBounds_toArray, List.set_cons_zero, List.set_cons_succ]
    refine Ops.wpList_value_if (by rfl) _ (by go_simp; try with_reducible rfl) ?_
    try simp only [Act.put, List.setIfInBounds_toArray, List.set_cons_zero, List.set_cons_succ]
    refine Ops.wpList_value_if (by rfl) (.bool true) (by go_simp; try with_reducible rfl) ?_
    try simp only [Act.put, List.setIfInBounds_toArray, List.set_cons_zero, List.set_cons_succ]
    refine Ops.wpList_value_if (by rfl) (.bool true) (by go_simp; try with_reducible rfl) ?_
    try simp only [Act.put, List.setIfInBounds_toArray, List.set_cons_zero, List.set_cons_succ]
    refine Ops.wpList_value_if (by rfl) (.bool true) (by go_simp; try with_reducible rfl) ?_
    try simp only [Act.put, List.setIfInBounds_toArray, List.set_cons_zero, List.set_cons_succ]
    refine Ops.wpList_value_if (by rfl) _ (by go_simp; try with_reducible rfl) ?_
    try simp only [Act.put, List.setIfInBounds_toArray, List.set_cons_zero, List.set_cons_succ]
    go_wp2_with fail
    go_ret
    exact ⟨rfl, VB.out⟩
  · have y0 : ((e0 : Int) == 0) = false := by rw [beq_eq_false_iff_ne]; omega
    have x0 : ((e0 : Int) = 0) = False := by rw [eq_iff_iff, iff_false]; omega
    have y1 : ((e1 : Int) == 0) = false := by rw [beq_eq_false_iff_ne]; omega
    have x1 : ((e1 : Int) = 0) = False := by rw [eq_iff_iff, iff_false]; omega
    have y2 : ((e2 : Int) == 0) = false := by rw [beq_eq_false_iff_ne]; omega
    have x2 : ((e2 : Int) = 0) = False := by rw [eq_iff_iff, iff_false]; omega
    have y3 : ((e3 : Int) == 0) = false := by rw [beq_eq_false_iff_ne]; omega
    have x3 : ((e3 : Int) = 0) = False := by rw [eq_iff_iff, iff_false]; omega
    have yE : ((kE : Int) == 0) = false := by rw [beq_eq_false_iff_ne]; omega
    subst zV
    have ZB := KB
    clear KB HW YR CW HR
    go_upto_region 26 with (first
      | (go_at_call 21; refine (CK.out _ (HRD.out.below ZB.out (Nat.le_refl _))).mono ?_; rintro e w' ⟨rfl, rfl⟩))
    apply wp_region_lit
    refine wpList_call_if (by rfl) (.bool true) 9 #[] (by go_simp; try with_reducible rfl) (fun w' => Below _ _ w') (CA.out _) ?_
    intro V hv
    have VB := Lib.hid (below_trans ZB.out hv)
    clear hv
    try simp only [Act.put, List.setIfInBounds_toArray, List.set_cons_zero, List.set_cons_succ]
    refine Ops.wpList_value_if (by rfl) _ (by go_simp; try with_reducible rfl) ?_
    try simp only [Act.put, List.setIfInBounds_toArray, List.set_cons_zero, List.set_cons_succ]
    refine Ops.wpList_value_if (by rfl) _ (by go_simp; try with_reducible rfl) ?_
    try simp only [Act.put, List.setIfInBounds_toArray, List.set_cons_zero, List.set_cons_succ]
    refine Ops.wpList_value_if (by rfl) (.bool true) (by go_simp; try with_reducible rfl) ?_
    try simp only [Act.put, List.setIfInBounds_toArray, List.set_cons_zero, List.set_cons_succ]
    refine Ops.wpList_value_if (by rfl) (.bool true) (by go_simp; try with_reducible rfl) ?_
    try simp only [Act.put, List.setIfInBounds_toArray, List.set_cons_zero, List.set_cons_succ]
    refine Ops.wpList_value_if (by rfl) _ (by go_simp; try with_reducible rfl) ?_
    try simp only [Act.put, List.setIfInBounds_toArray, List.set_cons_zero, List.set_cons_succ]
    refine Ops.wpList_value_if (by rfl) _ (by go_simp; try with_reducible rfl) ?_
    try simp only [Act.put, List.setIfInBounds_toArray, List.set_cons_zero, List.set_cons_succ]
    refine Ops.wpList_value_if (by rfl) (.bool false) (by go_simp; try with_reducible rfl) ?_
    try simp only [Act.put, List.setIfInBounds_toArray, List.set_cons_zero, List.set_cons_succ]
    refine Ops.wpList_value_if (by rfl) _ (by go_simp; try with_reducible rfl) ?_
    try simp only [Act.put, List.setIfInBounds_toArray, List.set_cons_zero, List.set_cons_succ]
    refine Ops.wpList_value_if (by rfl) (.bool false) (by go_simp; try with_reducible rfl) ?_
    try simp only [Act.put, List.setIfInBounds_toArray, List.set_cons_zero, List.set_cons_succ]
    refine Ops.wpList_value_if (by rfl) (.bool true) (by go_simp; try with_reducible rfl) ?_
    try simp only [Act.put, List.setIfInBounds_toArray, List.set_cons_zero, List.set_cons_succ]
    refine Ops.wpList_value_if (by rfl) (.bool true) (by go_simp; try with_reducible rfl) ?_
    try simp only [Act.put, List.setIfInBounds_toArray, List.set_cons_zero, List.set_cons_succ]
    refine Ops.wpList_value_if (by rfl) _ (by go_simp; try with_reducible rfl) ?_
    try simp only [Act.put, List.setIfInBounds_toArray, List.set_cons_zero, List.set_cons_succ]
    refine Ops.wpList_value_if (by rfl) _ (by go_simp; try with_reducible rfl) ?_
    try simp only [Act.put, List.setIfInBounds_toArray, List.set_cons_zero, List.set_cons_succ]
    refine Ops.wpList_value_if (by rfl) (.bool false) (by go_simp; try with_reducible rfl) ?_
    try simp only [Act.put, List.setIfInBounds_toArray, List.set_cons_zero, List.set_cons_succ]
    refine Ops.wpList_value_if (by rfl) _ (by go_simp; try with_reducible rfl) ?_
    try simp only [Act.put, List.setIfInBounds_toArray, List.set_cons_zero, List.set_cons_succ]
    refine Ops.wpList_value_if (by rfl) (.bool false) (by go_simp; try with_reducible rfl) ?_
    try simp only [Act.put, List.setIfInBounds_toArray, List.set_cons_zero, List.set_cons_succ]
    refine Ops.wpList_value_if (by rfl) (.bool true) (by go_simp; try with_reducible rfl) ?_
    try simp only [Act.put, List.setIfInBounds_toArray, List.set_cons_zero, List.set_cons_succ]
    refine Ops.wpList_value_if (by rfl) (.bool true) (by go_simp; try with_reducible rfl) ?_
    try simp only [Act.put, List.setIfInBounds_toArray, List.set_cons_zero, List.set_cons_succ]
    refine Ops.wpList_value_if (by rfl) _ (by go_simp; try with_reducible rfl) ?_
    try simp only [Act.put, List.setIfInBounds_toArray, List.set_cons_zero, List.set_cons_succ]
    go_wp2_with fail
    go_ret
    exact ⟨rfl, VB.out⟩

end WireOne
end Go.Proofs.Ytpdgnknabjigbaa
