/- Package trie: sameDigits; rootOf. -/
import Derived.Test.YtcpfchfhcfdcpaaTrDig
import Derived.Lib.Tables
import Derived.BigQuiet
import Derived.Laws.BitsAllLaws
namespace Go.Proofs.Ytcpfchfhcfdcpaa
namespace Tri
open Go.ChangeShapes Go.WideShapes Go.ChangeAt Go.RowKit
open Num Mem Words Chacha Aead Poly Quiet Ops Adr

set_option maxRecDepth 100000 in
theorem len8_any (x : Nat) (hx : x < 256) (w : World) : Calls Try.prog 56 #[.int .u8 (x : Nat)] w fun e w' => e = .returned (.int .i64 (Lib.len8 (x : Nat))) ∧ w = w' := by
  have hi : ∀ w : World, (Instr.index 9 (.string Lib.len8tab) (.int .u8 (x : Nat))).run Try.prog w = .ok (.int .u8 (Lib.len8 (x : Nat))) w := fun w => Lib.run_index_len8tab w 9 .u8 (x : Int) Try.underlying9 (by omega) (by omega)
  have hb : 0 ≤ Lib.len8 (x : Nat) ∧ Lib.len8 (x : Nat) ≤ 8 := by
    have : ∀ x : Nat, x < 256 → 0 ≤ Lib.len8 (x : Nat) ∧ Lib.len8 (x : Nat) ≤ 8 := by decide +kernel
    exact this x hx
  generalize Lib.len8 (x : Nat) = v at hi hb ⊢
  have hw1 : IntKind.i64.wrap v = v := by rw [IntKind.wrap_i64]; omega
  go_enter Try.func56, Try.ntmps56
  go_wp2_with fail
  go_ret
  exact ⟨rfl, rfl⟩
theorem len8_le : ∀ x : Nat, x < 256 → 0 ≤ Lib.len8 (x : Nat) ∧ Lib.len8 (x : Nat) ≤ 8 := by decide +kernel
/-- how many digits ahead of the first one that is 1 -/
def lz (x : Nat) : Nat := (8 - Lib.len8 (x : Nat)).toNat
theorem lz_spec : ∀ x : Nat, x < 256 → x ≠ 0 → lz x < 8 ∧ (∀ j, j < lz x → (x / 2 ^ (7 - j) % 2 == 1) = false) ∧ (x / 2 ^ (7 - lz x) % 2 == 1) = true := by decide +kernel
set_option maxRecDepth 100000 in
theorem lz_any (x : Nat) (hx : x < 256) (w : World) : Calls Try.prog 55 #[.int .u8 (x : Nat)] w fun e w' => e = .returned (.int .i64 (lz x : Nat)) ∧ w = w' := by
  have H := Lib.hid (len8_any x hx w)
  have hb := len8_le x hx
  have HL := Lib.hid (show (lz x : Int) = 8 - Lib.len8 (x : Nat) from by unfold lz; omega)
  generalize Lib.len8 (x : Nat) = v at H hb HL
  have hw1 : IntKind.i64.wrap (8 - v) = 8 - v := by rw [IntKind.wrap_i64]; omega
  go_enter Try.func55, Try.ntmps55
  go_wp2_with fail
  refine H.out.mono ?_
  rintro e w1 ⟨rfl, rfl⟩
  go_wp2_with fail
  go_ret
  exact ⟨by rw [HL.out]; rfl, rfl⟩
theorem xor_digit (x y k : Nat) : ((x ^^^ y) / 2 ^ k % 2 == 1) = ((x / 2 ^ k % 2 == 1) ^^ (y / 2 ^ k % 2 == 1)) := by
  rw [bit_testBit, bit_testBit, bit_testBit, Nat.testBit_xor]
theorem xor_lt {x y : Nat} (hx : x < 256) (hy : y < 256) : x ^^^ y < 256 := Nat.xor_lt_two_pow (n := 8) hx hy
theorem xor_zero_iff {x y : Nat} : x ^^^ y = 0 ↔ x = y := by
  constructor
  · intro h
    have : x ^^^ (x ^^^ y) = x ^^^ 0 := by rw [h]
    rw [← Nat.xor_assoc, Nat.xor_self, Nat.zero_xor, Nat.xor_zero] at this
    exact this.symm
  · rintro rfl
    exact Nat.xor_self _
theorem cpl_lz {f g : Nat → Nat} (hf : ∀ i, f i < 256) (hg : ∀ i, g i < 256) {m n i : Nat} (he : ∀ j, j < i → f j = g j) (hn : f i ^^^ g i ≠ 0) : cpl (bs f m) (bs g n) = min (min m n) (8 * i + lz (f i ^^^ g i)) := by
  obtain ⟨h1, h2, h3⟩ := lz_spec _ (xor_lt (hf i) (hg i)) hn
  refine cpl_byte hf hg he h1 (fun j hj => ?_) ?_
  · have := h2 j hj
    rw [xor_digit] at this
    revert this
    cases (f i / 2 ^ (7 - j) % 2 == 1) <;> cases (g i / 2 ^ (7 - j) % 2 == 1) <;> simp
  · intro e
    rw [xor_digit, e, Bool.xor_self] at h3
    cases h3
structure SdW (w : World) (s : Bool) (f : Nat → Nat) (m : Nat) (t : Bool) (g : Nat → Nat) (n : Nat) (N : Nat) (X : World) : Prop where
  a : Whole X N 29 (prefL s f m).toArray
  b : Whole X (N + 1) 29 (prefL t g n).toArray
  bel : Below N w X
theorem SdW.below {w X Y : World} {s t : Bool} {f g : Nat → Nat} {m n N : Nat} (h : SdW w s f m t g n N X) (hb : Below X.heap.size X Y) : SdW w s f m t g n N Y :=
  ⟨h.a.below hb h.a.lt, h.b.below hb h.b.lt, h.bel.trans (hb.mono (Nat.le_of_lt h.a.lt))⟩
set_option maxRecDepth 100000 in
set_option maxHeartbeats 2000000 in
theorem sd_any (s : Bool) (f : Nat → Nat) (hf : ∀ i, f i < 256) (m : Nat) (hm : m ≤ 128) (t : Bool) (g : Nat → Nat) (hg : ∀ i, g i < 256) (n : Nat) (hn : n ≤ 128) (w : World) :
    Calls Try.prog 50 #[.agg (prefL s f m).toArray, .agg (prefL t g n).toArray] w fun e w' => e = .returned (.int .i64 (cpl (bs f m) (bs g n) : Nat)) ∧ Below w.heap.size w w' := by
  have HC := Lib.hid (fun i (he : ∀ j, j < i → f j = g j) (hn : f i ^^^ g i ≠ 0) => cpl_lz (m := m) (n := n) hf hg he hn)
  have HS := Lib.hid (fun he => cpl_same (f := f) (g := g) hm hn he)
  generalize cpl (bs f m) (bs g n) = R at HC HS ⊢
  obtain ⟨L, hL⟩ : ∃ L, prefL s f m = L := ⟨_, rfl⟩
  obtain ⟨M, hM⟩ : ∃ M, prefL t g n = M := ⟨_, rfl⟩
  rw [hL, hM]
  go_enter Try.func50, Try.ntmps50
  go_upto_region 1 with fail
  refine cut_world (fun X => Whole X w.heap.size 29 L.toArray ∧ Whole X (w.heap.size + 1) 29 M.toArray ∧ Below w.heap.size w X) ⟨(Whole.new _ _ _).alloc _, whole_new _ _ (by simp), below_alloc (below_alloc (Below.refl _ _) _) _⟩ ?_
  rintro W ⟨p1, p2, pb⟩
  subst hL hM
  have H0 := Lib.hid (show SdW w s f m t g n w.heap.size W from ⟨p1, p2, pb⟩)
  clear p1 p2 pb
  obtain ⟨N, hNN⟩ : ∃ N, w.heap.size = N := ⟨_, rfl⟩
  have HNN := Lib.hid hNN
  rw [hNN] at H0 ⊢
  clear hNN
  have cm : W.cell? ⟨N, 17, none⟩ = some (.int .i64 (m : Nat)) := by rw [H0.out.a.cell, List.getElem?_toArray]; exact pref_bits _ _ _
  have cn : W.cell? ⟨N + 1, 17, none⟩ = some (.int .i64 (n : Nat)) := by rw [H0.out.b.cell, List.getElem?_toArray]; exact pref_bits _ _ _
  rcases Nat.lt_or_ge n m with hmn | hmn
  · have hmn1 : (n : Int) < (m : Int) := by omega
    have HQ := Lib.hid (show min m n = n by omega)
    go_upto_region 3 with fail
    clear cm cn
    go_loopw [6, 7, 13] (fun _ _ i X => ∃ k : Nat, k ≤ 16 ∧ i = .int .i64 k ∧ (∀ j, j < k → f j = g j) ∧ SdW w s f m t g n N X) (fun _ _ i _ => 16 - (intOf i).toNat)
    case atStart => exact ⟨0, Nat.zero_le _, rfl, fun j hj => absurd hj (Nat.not_lt_zero _), H0.out⟩
    case round =>
      obtain ⟨k, hk, rfl, he, hw⟩ := hrel
      have HE := Lib.hid he
      have HW := Lib.hid hw
      clear he hw H0
      by_cases hlt : k < 16
      · have cf : wr.cell? ⟨N, 1 + k, none⟩ = some (.int .u8 (f k : Nat)) := by rw [HW.out.a.cell, List.getElem?_toArray]; exact pref_byte _ _ _ _ hlt
        have cg : wr.cell? ⟨N + 1, 1 + k, none⟩ = some (.int .u8 (g k : Nat)) := by rw [HW.out.b.cell, List.getElem?_toArray]; exact pref_byte _ _ _ _ hlt
        have hX : bits .xor .u8 ((f k : Nat) : Int) ((g k : Nat) : Int) = ((f k ^^^ g k : Nat) : Int) := u8_xor_nat _ _ (hf k) (hg k)
        have hx8 := xor_lt (hf k) (hg k)
        have HXZ := Lib.hid (show f k ^^^ g k = 0 → f k = g k from xor_zero_iff.1)
        have HCK := Lib.hid (HC.out k HE.out)
        have hlt' : (k : Int) < 16 := by omega
        generalize f k ^^^ g k = x at hX hx8 HXZ HCK
        generalize f k = fk at cf hX
        generalize g k = gk at cg hX
        by_cases hx : x = 0
        · subst hx
          have HFG := Lib.hid (HXZ.out rfl)
          clear HCK HXZ
          go_wp2_with fail
          go_quiet (fail)
          go_wp2_with fail
          go_round
          case rel => exact ⟨k + 1, by omega, by go_num, fun j hj => (Nat.lt_or_eq_of_le (Nat.le_of_lt_succ hj)).elim (HE.out j) (fun e => e ▸ HFG.out), HW.out.below (Mem.below_drewN (Below.refl _ _) _)⟩
          case measure => simp [intOf]; omega
        · have HLZ := Lib.hid (fun w => lz_any x hx8 w)
          have hcl := HCK.out hx
          have hz8 : lz x < 8 := (lz_spec x hx8 hx).1
          generalize lz x = z at HLZ hcl hz8
          have hw1 : IntKind.i64.wrap (8 * (k : Int)) = 8 * (k : Int) := by rw [IntKind.wrap_i64]; omega
          have hw2 : IntKind.i64.wrap (8 * (k : Int) + (z : Int)) = 8 * (k : Int) + (z : Int) := by rw [IntKind.wrap_i64]; omega
          rcases Nat.lt_or_ge (8 * k + z) n with hc | hc
          · have hc1 : 8 * (k : Int) + (z : Int) < (n : Int) := by omega
            have HR := Lib.hid (show R = 8 * k + z by rw [hcl, HQ.out]; omega)
            clear HCK HXZ hcl hc
            go_wp2_with fail
            go_quiet (fail)
            go_wp2_with fail
            refine (HLZ.out _).mono ?_
            rintro e w1 ⟨rfl, rfl⟩
            go_wp2_with fail
            go_ret
            exact ⟨by rw [HR.out]; rfl, by rw [HNN.out]; exact Mem.below_drewN HW.out.bel _⟩
          · have hc1 : ¬ 8 * (k : Int) + (z : Int) < (n : Int) := by omega
            have HR := Lib.hid (show R = n by rw [hcl, HQ.out]; omega)
            clear HCK HXZ hcl hc
            go_wp2_with fail
            go_quiet (fail)
            go_wp2_with fail
            refine (HLZ.out _).mono ?_
            rintro e w1 ⟨rfl, rfl⟩
            go_wp2_with fail
            go_ret
            exact ⟨by rw [HR.out]; rfl, by rw [HNN.out]; exact Mem.below_drewN HW.out.bel _⟩
      · have HR := Lib.hid (show R = n by rw [HS.out (fun j hj => HE.out j (by omega)), HQ.out])
        go_wp2_with fail
        go_ret
        exact ⟨by rw [HR.out]; rfl, by rw [HNN.out]; exact HW.out.bel⟩
  · have hmn1 : ¬ (n : Int) < (m : Int) := by omega
    have HQ := Lib.hid (show min m n = m by omega)
    go_upto_region 3 with fail
    clear cm cn
    go_loopw [6, 7, 13] (fun _ _ i X => ∃ k : Nat, k ≤ 16 ∧ i = .int .i64 k ∧ (∀ j, j < k → f j = g j) ∧ SdW w s f m t g n N X) (fun _ _ i _ => 16 - (intOf i).toNat)
    case atStart => exact ⟨0, Nat.zero_le _, rfl, fun j hj => absurd hj (Nat.not_lt_zero _), H0.out⟩
    case round =>
      obtain ⟨k, hk, rfl, he, hw⟩ := hrel
      have HE := Lib.hid he
      have HW := Lib.hid hw
      clear he hw H0
      by_cases hlt : k < 16
      · have cf : wr.cell? ⟨N, 1 + k, none⟩ = some (.int .u8 (f k : Nat)) := by rw [HW.out.a.cell, List.getElem?_toArray]; exact pref_byte _ _ _ _ hlt
        have cg : wr.cell? ⟨N + 1, 1 + k, none⟩ = some (.int .u8 (g k : Nat)) := by rw [HW.out.b.cell, List.getElem?_toArray]; exact pref_byte _ _ _ _ hlt
        have hX : bits .xor .u8 ((f k : Nat) : Int) ((g k : Nat) : Int) = ((f k ^^^ g k : Nat) : Int) := u8_xor_nat _ _ (hf k) (hg k)
        have hx8 := xor_lt (hf k) (hg k)
        have HXZ := Lib.hid (show f k ^^^ g k = 0 → f k = g k from xor_zero_iff.1)
        have HCK := Lib.hid (HC.out k HE.out)
        have hlt' : (k : Int) < 16 := by omega
        generalize f k ^^^ g k = x at hX hx8 HXZ HCK
        generalize f k = fk at cf hX
        generalize g k = gk at cg hX
        by_cases hx : x = 0
        · subst hx
          have HFG := Lib.hid (HXZ.out rfl)
          clear HCK HXZ
          go_wp2_with fail
          go_quiet (fail)
          go_wp2_with fail
          go_round
          case rel => exact ⟨k + 1, by omega, by go_num, fun j hj => (Nat.lt_or_eq_of_le (Nat.le_of_lt_succ hj)).elim (HE.out j) (fun e => e ▸ HFG.out), HW.out.below (Mem.below_drewN (Below.refl _ _) _)⟩
          case measure => simp [intOf]; omega
        · have HLZ := Lib.hid (fun w => lz_any x hx8 w)
          have hcl := HCK.out hx
          have hz8 : lz x < 8 := (lz_spec x hx8 hx).1
          generalize lz x = z at HLZ hcl hz8
          have hw1 : IntKind.i64.wrap (8 * (k : Int)) = 8 * (k : Int) := by rw [IntKind.wrap_i64]; omega
          have hw2 : IntKind.i64.wrap (8 * (k : Int) + (z : Int)) = 8 * (k : Int) + (z : Int) := by rw [IntKind.wrap_i64]; omega
          rcases Nat.lt_or_ge (8 * k + z) m with hc | hc
          · have hc1 : 8 * (k : Int) + (z : Int) < (m : Int) := by omega
            have HR := Lib.hid (show R = 8 * k + z by rw [hcl, HQ.out]; omega)
            clear HCK HXZ hcl hc
            go_wp2_with fail
            go_quiet (fail)
            go_wp2_with fail
            refine (HLZ.out _).mono ?_
            rintro e w1 ⟨rfl, rfl⟩
            go_wp2_with fail
            go_ret
            exact ⟨by rw [HR.out]; rfl, by rw [HNN.out]; exact Mem.below_drewN HW.out.bel _⟩
          · have hc1 : ¬ 8 * (k : Int) + (z : Int) < (m : Int) := by omega
            have HR := Lib.hid (show R = m by rw [hcl, HQ.out]; omega)
            clear HCK HXZ hcl hc
            go_wp2_with fail
            go_quiet (fail)
            go_wp2_with fail
            refine (HLZ.out _).mono ?_
            rintro e w1 ⟨rfl, rfl⟩
            go_wp2_with fail
            go_ret
            exact ⟨by rw [HR.out]; rfl, by rw [HNN.out]; exact Mem.below_drewN HW.out.bel _⟩
      · have HR := Lib.hid (show R = m by rw [HS.out (fun j hj => HE.out j (by omega)), HQ.out])
        go_wp2_with fail
        go_ret
        exact ⟨by rw [HR.out]; rfl, by rw [HNN.out]; exact HW.out.bel⟩
end Tri
end Go.Proofs.Ytcpfchfhcfdcpaa
