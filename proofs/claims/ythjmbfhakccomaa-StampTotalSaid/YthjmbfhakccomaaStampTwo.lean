/- The calls of package stamp, each by what it answers: Read, After, Later, Span. -/
import Derived.Test.YthjmbfhakccomaaStampOne
import Derived.Test.YthjmbfhakccomaaQuietB
import Derived.Test.YthjmbfhakccomaaEqual
import Derived.WalkMore
namespace Go.Proofs.Ythjmbfhakccomaa
namespace Stamp
open Go.ChangeShapes Go.WideShapes Go.ChangeAt Go.RowKit
open Num Mem Words Chacha Aead

set_option maxRecDepth 100000 in
theorem read_any (f : Nat → Nat) (hf : ∀ i, f i < 256) (w : World) : Calls Try.prog 13 #[.agg (byteCells f 12).toArray] w fun e w' => e = .returned (.tuple #[.int .i64 (readV f : Nat), .int .i64 (readE f : Nat)]) ∧ Below w.heap.size w w' := by
  have hS := be_lt hf 0 8
  have hL := be_lt hf 8 4
  have HF := Lib.hid hf
  have HV := Lib.hid (show readV f = if IsLabel f then timeOf f else 0 from rfl)
  have HE := Lib.hid (show readE f = if IsLabel f then 0 else 3 from rfl)
  have HI := Lib.hid (show IsLabel f ↔ (4611686018427387914 ≤ be f 0 8 ∧ be f 0 8 - 4611686018427387914 ≤ 1099511627 ∧ be f 8 4 % 1000000 = 0 ∧ be f 8 4 / 1000000 < 1000 ∧ timeOf f ≤ 1099511627776) from Iff.rfl)
  have HT := Lib.hid (show timeOf f = (be f 0 8 - 4611686018427387914) * 1000 + be f 8 4 / 1000000 from rfl)
  clear hf
  rw [byteCells_lit12]
  go_enter Try.func13, Try.ntmps13
  go_upto_region 1 with fail
  rw [← byteCells_lit12]
  refine cut_world (fun W => Whole W w.heap.size 22 (byteCells f 12).toArray ∧ Below w.heap.size w W) ⟨whole_new _ _ rfl, below_alloc (Below.refl _ _) _⟩ ?_
  rintro W ⟨k1, kb⟩
  have K1 := Lib.hid k1
  have KB := Lib.hid kb
  clear k1 kb
  generalize hB : w.heap.size = B at K1 KB ⊢
  have HB := Lib.hid hB
  clear hB
  go_wp2_with fail
  refine (big_ok B 0 12 12 f HF.out 0 8 (by omega) (by omega) (by omega) (by omega) _ (fun i hi => K1.out.bytes i hi)).mono ?_
  rintro e w1 ⟨rfl, rfl⟩
  go_wp2_with fail
  refine (big_ok B 0 12 12 f HF.out 8 4 (by omega) (by omega) (by omega) (by omega) _ (fun i hi => K1.out.bytes i hi)).mono ?_
  rintro e w1 ⟨rfl, rfl⟩
  generalize be f 0 8 = S at hS HI HT ⊢
  generalize be f 8 4 = L at hL HI HT ⊢
  have no : ¬ IsLabel f → readV f = 0 ∧ readE f = 3 := fun h => by rw [HV.out, HE.out, if_neg h, if_neg h]; exact ⟨rfl, rfl⟩
  have NO := Lib.hid no
  clear no
  have hS2 : S < 18446744073709551616 := by simpa using hS
  have hL2 : L < 4294967296 := by simpa using hL
  clear hS hL
  by_cases h1 : S < 4611686018427387914
  · have d1 : decide ((S : Int) < 4611686018427387914) = true := decide_eq_true (by omega)
    have hn := Lib.hid (NO.out (fun h => by have := (HI.out.1 h).1; omega))
    go_wp2_with fail
    go_ret2
    exact ⟨by rw [hn.out.1, hn.out.2]; rfl, by rw [HB.out]; exact KB.out⟩
  have d1 : decide ((S : Int) < 4611686018427387914) = false := decide_eq_false (by omega)
  by_cases h2 : 1099511627 < S - 4611686018427387914
  · have d2 : decide ((1099511627 : Int) < (S : Int) - 4611686018427387914) = true := decide_eq_true (by omega)
    have hn := Lib.hid (NO.out (fun h => by have := (HI.out.1 h).2.1; omega))
    clear h2
    go_wp2_with fail
    go_ret2
    exact ⟨by rw [hn.out.1, hn.out.2]; rfl, by rw [HB.out]; exact KB.out⟩
  have d2 : decide ((1099511627 : Int) < (S : Int) - 4611686018427387914) = false := decide_eq_false (by omega)
  by_cases h3 : L % 1000000 = 0
  case neg =>
    have d3 : (((L : Int) % 1000000) != 0) = true := by
      rw [bne_iff_ne]
      omega
    have d3' : (((L : Int) % 1000000) == 0) = false := by
      rw [beq_eq_false_iff_ne]
      omega
    have hn := Lib.hid (NO.out (fun h => by have := (HI.out.1 h).2.2.1; omega))
    clear h2 h3
    go_wp2_with fail
    go_ret2
    exact ⟨by rw [hn.out.1, hn.out.2]; rfl, by rw [HB.out]; exact KB.out⟩
  have d3 : (((L : Int) % 1000000) != 0) = false := by
    rw [bne_eq_false_iff_eq]
    omega
  have d3' : (((L : Int) % 1000000) == 0) = true := by
    rw [beq_iff_eq]
    omega
  by_cases h4 : L / 1000000 < 1000
  case neg =>
    have d4 : decide ((1000 : Int) ≤ (L : Int) / 1000000) = true := decide_eq_true (by omega)
    have hn := Lib.hid (NO.out (fun h => by have := (HI.out.1 h).2.2.2.1; omega))
    clear h2 h3 h4
    go_wp2_with fail
    go_ret2
    exact ⟨by rw [hn.out.1, hn.out.2]; rfl, by rw [HB.out]; exact KB.out⟩
  have d4 : decide ((1000 : Int) ≤ (L : Int) / 1000000) = false := decide_eq_false (by omega)
  have HX := Lib.hid (show ((timeOf f : Nat) : Int) = ((S : Int) - 4611686018427387914) * 1000 + (L : Int) / 1000000 ∧ S - 4611686018427387914 ≤ 1099511627 from ⟨by rw [HT.out]; omega, by omega⟩)
  by_cases h5 : timeOf f ≤ 1099511627776
  · have hy := Lib.hid (show readV f = timeOf f ∧ readE f = 0 from by
      have : IsLabel f := HI.out.2 ⟨by omega, by omega, h3, h4, h5⟩
      rw [HV.out, HE.out, if_pos this, if_pos this]
      exact ⟨rfl, rfl⟩)
    have b1 : (S : Int) - 4611686018427387914 ≤ 1099511627 := by omega
    have b0 : 0 ≤ (S : Int) - 4611686018427387914 := by omega
    have b2 : (L : Int) / 1000000 < 1000 := by omega
    clear h2 h3 h4
    go_wp2_with fail
    rw [← HX.out.1]
    refine (right_any _ true ⟨fun _ => ⟨by omega, by omega⟩, fun _ => rfl⟩ _).mono ?_
    rintro e w1 ⟨rfl, rfl⟩
    go_wp2_with fail
    go_ret2
    exact ⟨by rw [hy.out.1, hy.out.2]; rfl, by rw [HB.out]; exact KB.out⟩
  · have hn := Lib.hid (NO.out (fun h => by have := (HI.out.1 h).2.2.2.2; omega))
    have b1 : (S : Int) - 4611686018427387914 ≤ 1099511627 := by omega
    have b0 : 0 ≤ (S : Int) - 4611686018427387914 := by omega
    have b2 : (L : Int) / 1000000 < 1000 := by omega
    clear h2 h3 h4
    go_wp2_with fail
    rw [← HX.out.1]
    refine (right_any _ false ⟨fun e => (by cases e), fun k => absurd k.2 (by omega)⟩ _).mono ?_
    rintro e w1 ⟨rfl, rfl⟩
    go_wp2_with fail
    go_ret2
    exact ⟨by rw [hn.out.1, hn.out.2]; rfl, by rw [HB.out]; exact KB.out⟩

set_option maxRecDepth 100000 in
theorem later_any (s t : Int) (b : Bool) (hb : b = true ↔ right s ∧ right t ∧ t < s) (w : World) : Calls Try.prog 21 #[.int .i64 s, .int .i64 t] w fun e w' => e = .returned (.bool b) ∧ w = w' := by
  have HB := Lib.hid hb
  clear hb
  go_enter Try.func21, Try.ntmps21
  by_cases h1 : right s
  · by_cases h2 : right t
    · have HD := Lib.hid (show decide (t < s) = b from by
        rw [Bool.eq_iff_iff, HB.out, decide_eq_true_eq]
        exact ⟨fun h => ⟨h1, h2, h⟩, fun h => h.2.2⟩)
      go_wp2_with fail
      refine (right_any s true ⟨fun _ => h1, fun _ => rfl⟩ _).mono ?_
      rintro e w1 ⟨rfl, rfl⟩
      go_wp2_with fail
      refine (right_any t true ⟨fun _ => h2, fun _ => rfl⟩ _).mono ?_
      rintro e w1 ⟨rfl, rfl⟩
      go_wp2_with fail
      go_ret
      exact ⟨by rw [HD.out]; rfl, rfl⟩
    · obtain rfl : b = false := by
        rcases b with _ | _
        · rfl
        · exact absurd (HB.out.1 rfl).2.1 h2
      go_wp2_with fail
      refine (right_any s true ⟨fun _ => h1, fun _ => rfl⟩ _).mono ?_
      rintro e w1 ⟨rfl, rfl⟩
      go_wp2_with fail
      refine (right_any t false ⟨fun e => (by cases e), fun k => absurd k h2⟩ _).mono ?_
      rintro e w1 ⟨rfl, rfl⟩
      go_wp2_with fail
      go_ret
      exact ⟨rfl, rfl⟩
  · obtain rfl : b = false := by
      rcases b with _ | _
      · rfl
      · exact absurd (HB.out.1 rfl).1 h1
    go_wp2_with fail
    refine (right_any s false ⟨fun e => (by cases e), fun k => absurd k h1⟩ _).mono ?_
    rintro e w1 ⟨rfl, rfl⟩
    go_wp2_with fail
    go_ret
    exact ⟨rfl, rfl⟩

def spanV (s t : Int) : Int := if right s ∧ right t ∧ s ≤ t then t - s else 0
def spanE (s t : Int) : Int := if right s ∧ right t ∧ s ≤ t then 0 else 1

set_option maxRecDepth 100000 in
theorem span_any (s t : Int) (w : World) : Calls Try.prog 18 #[.int .i64 s, .int .i64 t] w fun e w' => e = .returned (.tuple #[.int .i64 (spanV s t), .int .i64 (spanE s t)]) ∧ w = w' := by
  have HV := Lib.hid (show spanV s t = if right s ∧ right t ∧ s ≤ t then t - s else 0 from rfl)
  have HE := Lib.hid (show spanE s t = if right s ∧ right t ∧ s ≤ t then 0 else 1 from rfl)
  go_enter Try.func18, Try.ntmps18
  by_cases h1 : right s
  · by_cases h2 : right t
    · have b1 := h1.1
      have b2 := h1.2
      have b3 := h2.1
      have b4 := h2.2
      by_cases h3 : s ≤ t
      · have d : decide (t < s) = false := decide_eq_false (by omega)
        go_wp2_with fail
        refine (right_any s true ⟨fun _ => h1, fun _ => rfl⟩ _).mono ?_
        rintro e w1 ⟨rfl, rfl⟩
        go_wp2_with fail
        refine (right_any t true ⟨fun _ => h2, fun _ => rfl⟩ _).mono ?_
        rintro e w1 ⟨rfl, rfl⟩
        go_wp2_with fail
        go_ret2
        exact ⟨by rw [HV.out, HE.out, if_pos ⟨h1, h2, h3⟩, if_pos ⟨h1, h2, h3⟩]; rfl, rfl⟩
      · have d : decide (t < s) = true := decide_eq_true (by omega)
        go_wp2_with fail
        refine (right_any s true ⟨fun _ => h1, fun _ => rfl⟩ _).mono ?_
        rintro e w1 ⟨rfl, rfl⟩
        go_wp2_with fail
        refine (right_any t true ⟨fun _ => h2, fun _ => rfl⟩ _).mono ?_
        rintro e w1 ⟨rfl, rfl⟩
        go_wp2_with fail
        go_ret2
        exact ⟨by rw [HV.out, HE.out, if_neg (fun h => absurd h.2.2 (by omega)), if_neg (fun h => absurd h.2.2 (by omega))]; rfl, rfl⟩
    · go_wp2_with fail
      refine (right_any s true ⟨fun _ => h1, fun _ => rfl⟩ _).mono ?_
      rintro e w1 ⟨rfl, rfl⟩
      go_wp2_with fail
      refine (right_any t false ⟨fun e => (by cases e), fun k => absurd k h2⟩ _).mono ?_
      rintro e w1 ⟨rfl, rfl⟩
      go_wp2_with fail
      go_ret2
      exact ⟨by rw [HV.out, HE.out, if_neg (fun h => h2 h.2.1), if_neg (fun h => h2 h.2.1)]; rfl, rfl⟩
  · go_wp2_with fail
    refine (right_any s false ⟨fun e => (by cases e), fun k => absurd k h1⟩ _).mono ?_
    rintro e w1 ⟨rfl, rfl⟩
    go_wp2_with fail
    go_ret2
    exact ⟨by rw [HV.out, HE.out, if_neg (fun h => h1 h.1), if_neg (fun h => h1 h.1)]; rfl, rfl⟩

set_option maxRecDepth 100000 in
set_option maxHeartbeats 1000000 in
theorem after_any (f g : Nat → Nat) (hf : ∀ i, f i < 256) (hg : ∀ i, g i < 256) (w : World) : Calls Try.prog 20 #[.agg (byteCells f 12).toArray, .agg (byteCells g 12).toArray] w fun e w' => e = .returned (.bool (decide (whole g < whole f))) ∧ Below w.heap.size w w' := by
  have HF := Lib.hid hf
  have HG := Lib.hid hg
  clear hf hg
  rw [byteCells_lit12 f, byteCells_lit12 g]
  go_enter Try.func20, Try.ntmps20
  go_upto_region 1 with fail
  rw [← byteCells_lit12 f, ← byteCells_lit12 g]
  refine cut_world (fun W => Whole W w.heap.size 22 (byteCells f 12).toArray ∧ Whole W (w.heap.size + 1) 22 (byteCells g 12).toArray ∧ Below w.heap.size w W) ⟨(whole_new _ _ rfl).alloc _, whole_new _ _ (by simp), below_alloc (below_alloc (Below.refl _ _) _) _⟩ ?_
  rintro W ⟨k1, k2, kb⟩
  have K1 := Lib.hid k1
  have K2 := Lib.hid k2
  have KB := Lib.hid kb
  clear k1 k2 kb
  generalize hB : w.heap.size = B at K1 K2 KB ⊢
  have HB := Lib.hid hB
  clear hB
  go_step3
  go_wp2_with fail
  go_step3
  go_wp2_with fail
  go_loopw [5, 7] (fun v i wr => ∃ k : Nat, k ≤ 12 ∧ i = .int .i64 k ∧ v = .bool false ∧ be f 0 k = be g 0 k ∧ ∃ q, wr = W.drewN q) (fun _ i _ => 12 - (intOf i).toNat)
  case atStart => exact ⟨0, Nat.zero_le _, rfl, rfl, rfl, 0, rfl⟩
  case round =>
    obtain ⟨k, hk, rfl, rfl, heq, q, rfl⟩ := hrel
    have HQ := Lib.hid heq
    clear heq
    by_cases hlt : k < 12
    · have c1 := K1.out.cell k
      have c2 := K2.out.cell k
      rw [List.getElem?_toArray, byteCells_get _ _ _ hlt] at c1 c2
      have ltI : (k : Int) < 12 := by omega
      have HP1 := Lib.hid (fun h => be_part f g HG.out 0 k 12 hlt HQ.out (by rw [Nat.zero_add]; exact h))
      have HP2 := Lib.hid (fun h => be_part g f HF.out 0 k 12 hlt HQ.out.symm (by rw [Nat.zero_add]; exact h))
      have HN := Lib.hid (show f k = g k → be f 0 (k + 1) = be g 0 (k + 1) from fun h => by
        rw [show be f 0 (k + 1) = be f 0 k * 256 + f (0 + k) from rfl, show be g 0 (k + 1) = be g 0 k * 256 + g (0 + k) from rfl, HQ.out, Nat.zero_add, h])
      have hfk := HF.out k
      have hgk := HG.out k
      obtain ⟨x, hx⟩ : ∃ x, f k = x := ⟨_, rfl⟩
      obtain ⟨y, hy⟩ : ∃ y, g k = y := ⟨_, rfl⟩
      rw [hx] at c1 HP1 HP2 HN hfk
      rw [hy] at c2 HP1 HP2 HN hgk
      clear hx hy
      rcases Nat.lt_trichotomy x y with h | h | h
      · have d1 : decide ((y : Int) < (x : Int)) = false := decide_eq_false (by omega)
        have d2 : decide ((x : Int) < (y : Int)) = true := decide_eq_true (by omega)
        have HR := Lib.hid (show decide (whole g < whole f) = false from decide_eq_false (by have := HP2.out h; unfold whole; omega))
        go_wp2_with fail
        go_quiet (fail)
        go_wp2_with fail
        go_quiet (fail)
        go_wp2_with fail
        rw [Exit.noGoto_ret]
        go_ret
        exact ⟨by rw [HR.out]; rfl, by rw [HB.out]; exact below_drewN (below_drewN (below_drewN KB.out _) _) _⟩
      · have d1 : decide ((y : Int) < (x : Int)) = false := decide_eq_false (by omega)
        have d2 : decide ((x : Int) < (y : Int)) = false := decide_eq_false (by omega)
        have HE := Lib.hid (HN.out h)
        clear HP1 HP2
        go_wp2_with fail
        go_quiet (fail)
        go_wp2_with fail
        go_quiet (fail)
        go_wp2_with fail
        go_roundw
        case rel => exact ⟨k + 1, by omega, by go_num, rfl, HE.out, _, rfl⟩
        case measure => simp [intOf]; omega
      · have d1 : decide ((y : Int) < (x : Int)) = true := decide_eq_true (by omega)
        have HR := Lib.hid (show decide (whole g < whole f) = true from decide_eq_true (by have := HP1.out h; unfold whole; omega))
        go_wp2_with fail
        go_quiet (fail)
        go_wp2_with fail
        rw [Exit.noGoto_ret]
        go_ret
        exact ⟨by rw [HR.out]; rfl, by rw [HB.out]; exact below_drewN (below_drewN KB.out _) _⟩
    · obtain rfl : k = 12 := by omega
      have HR := Lib.hid (show decide (whole g < whole f) = false from decide_eq_false (by have := HQ.out; unfold whole; omega))
      rw [show ((12 : Nat) : Int) = 12 from rfl]
      go_wp2_with fail
      rw [Exit.noGoto_ret]
      go_ret
      exact ⟨by rw [HR.out]; rfl, by rw [HB.out]; exact below_drewN KB.out _⟩

end Stamp
end Go.Proofs.Ythjmbfhakccomaa
