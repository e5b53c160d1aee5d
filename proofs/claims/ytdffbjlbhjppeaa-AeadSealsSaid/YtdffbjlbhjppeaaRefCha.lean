/- The document's own answers of layer 2 (package aditref02): numbers, bytes, First. -/
import Derived.Test.YtdffbjlbhjppeaaRefQu
import Derived.Test.YtdffbjlbhjppeaaCat
namespace Go.Proofs.Ytdffbjlbhjppeaa
namespace Ref
open Go.ChangeShapes Go.WideShapes Go.ChangeAt Go.RowKit
open Num Mem Words State Chacha

theorem info_u32 : (Try.prog.info? 68).map (fun i => (i.zero, i.size, i.bytes)) = some (some (.int .u32 0), 1, 4) := by kernel_rfl

set_option maxRecDepth 100000 in
theorem two_ref (g c B : Nat) (s : List Nat) (hl : s.length = 16) (hf : Fits s) (w : World) (hw : OwnW w B g c s) :
    Calls Try.prog 63 #[.slice (some ⟨g, 0, none⟩) 16 c] w fun e w' => e = .returned (.tuple #[]) ∧ OwnW w' B g c (two s) ∧ w.grownBy w' (some g) := by
  have HL0 := Lib.hid hl
  have HF0 := Lib.hid hf
  have HQ0 := Lib.hid hw
  have HG0 := Lib.hid (World.grownBy.refl w (some g))
  clear hl hf hw
  go_enter Try.func63, Try.ntmps63
  go_wp2_with fail
  refine (quarter_ref g c 0 4 8 12 B _ HL0.out HF0.out (by omega) (by omega) (by omega) (by omega) _ HQ0.out).mono ?_
  rintro e w1 ⟨rfl, q, gr⟩
  have HQ1 := Lib.hid q
  have HG1 := Lib.hid (grown_trans HG0.out gr)
  have HF1 := Lib.hid (quarter_fits HF0.out 0 4 8 12)
  have HL1 := Lib.hid ((quarter_length _ 0 4 8 12).trans HL0.out)
  clear q gr
  go_wp2_with fail
  refine (quarter_ref g c 1 5 9 13 B _ HL1.out HF1.out (by omega) (by omega) (by omega) (by omega) _ HQ1.out).mono ?_
  rintro e w2 ⟨rfl, q, gr⟩
  have HQ2 := Lib.hid q
  have HG2 := Lib.hid (grown_trans HG1.out gr)
  have HF2 := Lib.hid (quarter_fits HF1.out 1 5 9 13)
  have HL2 := Lib.hid ((quarter_length _ 1 5 9 13).trans HL1.out)
  clear q gr
  go_wp2_with fail
  refine (quarter_ref g c 2 6 10 14 B _ HL2.out HF2.out (by omega) (by omega) (by omega) (by omega) _ HQ2.out).mono ?_
  rintro e w3 ⟨rfl, q, gr⟩
  have HQ3 := Lib.hid q
  have HG3 := Lib.hid (grown_trans HG2.out gr)
  have HF3 := Lib.hid (quarter_fits HF2.out 2 6 10 14)
  have HL3 := Lib.hid ((quarter_length _ 2 6 10 14).trans HL2.out)
  clear q gr
  go_wp2_with fail
  refine (quarter_ref g c 3 7 11 15 B _ HL3.out HF3.out (by omega) (by omega) (by omega) (by omega) _ HQ3.out).mono ?_
  rintro e w4 ⟨rfl, q, gr⟩
  have HQ4 := Lib.hid q
  have HG4 := Lib.hid (grown_trans HG3.out gr)
  have HF4 := Lib.hid (quarter_fits HF3.out 3 7 11 15)
  have HL4 := Lib.hid ((quarter_length _ 3 7 11 15).trans HL3.out)
  clear q gr
  go_wp2_with fail
  refine (quarter_ref g c 0 5 10 15 B _ HL4.out HF4.out (by omega) (by omega) (by omega) (by omega) _ HQ4.out).mono ?_
  rintro e w5 ⟨rfl, q, gr⟩
  have HQ5 := Lib.hid q
  have HG5 := Lib.hid (grown_trans HG4.out gr)
  have HF5 := Lib.hid (quarter_fits HF4.out 0 5 10 15)
  have HL5 := Lib.hid ((quarter_length _ 0 5 10 15).trans HL4.out)
  clear q gr
  go_wp2_with fail
  refine (quarter_ref g c 1 6 11 12 B _ HL5.out HF5.out (by omega) (by omega) (by omega) (by omega) _ HQ5.out).mono ?_
  rintro e w6 ⟨rfl, q, gr⟩
  have HQ6 := Lib.hid q
  have HG6 := Lib.hid (grown_trans HG5.out gr)
  have HF6 := Lib.hid (quarter_fits HF5.out 1 6 11 12)
  have HL6 := Lib.hid ((quarter_length _ 1 6 11 12).trans HL5.out)
  clear q gr
  go_wp2_with fail
  refine (quarter_ref g c 2 7 8 13 B _ HL6.out HF6.out (by omega) (by omega) (by omega) (by omega) _ HQ6.out).mono ?_
  rintro e w7 ⟨rfl, q, gr⟩
  have HQ7 := Lib.hid q
  have HG7 := Lib.hid (grown_trans HG6.out gr)
  have HF7 := Lib.hid (quarter_fits HF6.out 2 7 8 13)
  have HL7 := Lib.hid ((quarter_length _ 2 7 8 13).trans HL6.out)
  clear q gr
  go_wp2_with fail
  refine (quarter_ref g c 3 4 9 14 B _ HL7.out HF7.out (by omega) (by omega) (by omega) (by omega) _ HQ7.out).mono ?_
  rintro e w8 ⟨rfl, q, gr⟩
  have HQ8 := Lib.hid q
  have HG8 := Lib.hid (grown_trans HG7.out gr)
  have HF8 := Lib.hid (quarter_fits HF7.out 3 4 9 14)
  have HL8 := Lib.hid ((quarter_length _ 3 4 9 14).trans HL7.out)
  clear q gr
  go_wp2_with fail
  go_end0
  exact ⟨rfl, HQ8.out, HG8.out⟩

theorem nums_succ (f : Nat → Nat) (p k : Nat) : nums f p (k + 1) = nums f p k ++ [le f (p + 4 * k) 4] := by
  simp [nums, List.range_succ]
theorem wcells_append (s t : List Nat) : wcells (s ++ t) = wcells s ++ wcells t := by simp [wcells]
theorem le_from (f : Nat → Nat) (p k : Nat) : le (fun i => f (p + i)) 0 k = le f p k := le_congr k fun i _ => by show f _ = f _; rw [Nat.zero_add]
theorem wcells_each (s : List Nat) : ∀ v ∈ wcells s, v.oneCell' = true := by
  intro v hv
  obtain ⟨i, _, rfl⟩ := List.mem_map.1 hv
  rfl

set_option maxRecDepth 100000 in
theorem numbers_ref (b off n c : Nat) (f : Nat → Nat) (hf : ∀ i, f i < 256) (hn1 : 1 ≤ n) (hn : n ≤ 1000) (hc : n ≤ c) (hcm : c ≤ 9223372036854775807) (w : World) (hblk : b < w.heap.size) (hcell : ∀ i, i < n → w.cell? ⟨b, off + i, none⟩ = some (.int .u8 (f i))) :
    Calls Try.prog 73 #[.slice (some ⟨b, off, none⟩) n c] w fun e w' => ∃ A c', e = .returned (.slice A (n / 4) c') ∧ w'.ownsRow w.heap.size 68 1 (.slice A (n / 4) c') (n / 4) (wcells (nums f 0 (n / 4))) ∧ Below w.heap.size w w' := by
  have HC := Lib.hid hcell
  have HF := Lib.hid hf
  clear hcell hf
  go_enter Try.func73, Try.ntmps73
  go_wp2_with fail
  go_loopw [3, 4] (fun o i wr => ∃ (k : Nat) (A : Option Addr) (c' : Nat), k ≤ n / 4 ∧ i = .int .i64 (4 * k : Nat) ∧ o = .slice A k c' ∧ wr.ownsRow w.heap.size 68 1 (.slice A k c') k (wcells (nums f 0 k)) ∧ Below w.heap.size w wr) (fun _ i _ => n - (intOf i).toNat)
  case atStart => exact ⟨0, none, 0, Nat.zero_le _, rfl, rfl, World.ownsRow_nil _ _ _ _, Below.refl _ _⟩
  case round =>
    obtain ⟨k, A, c', hk, rfl, rfl, hown, hbel⟩ := hrel
    have HO := Lib.hid hown
    have HL := Lib.hid hbel
    have hsz := hbel.size
    clear hown hbel
    by_cases hlt : k < n / 4
    · obtain ⟨j, hj⟩ : ∃ j, j = 4 * k := ⟨_, rfl⟩
      rw [← hj]
      have i1 : (j : Int) + 4 ≤ (n : Int) := by omega
      have i2 : j + 4 ≤ n := by omega
      have i3 : ¬ c = j := by omega
      have i4 : (j : Int) + 4 ≤ (c : Int) := by omega
      have i5 : ((j : Int) + 4).toNat - j = 4 := by omega
      have HJ := Lib.hid hj
      clear hj
      go_wp2_with fail
      refine (least_any _ 4 (c - j) (fun i => f (j + i)) (fun i => HF.out _) (by omega) _ (.inr ⟨b, off + j, rfl, by omega, fun i hi => by rw [Nat.add_assoc]; exact (HL.out.cell (p := ⟨b, off + (j + i), none⟩) hblk).trans (HC.out (j + i) (by omega))⟩)).mono ?_
      rintro e w1 ⟨rfl, rfl⟩
      rw [le_from]
      have hle : le f j 4 < 4294967296 := le_lt HF.out j 4
      have HE := Lib.hid (show wcells (nums f 0 k) ++ [Value.int .u32 (le f j 4 : Nat)] = wcells (nums f 0 (k + 1)) by rw [nums_succ, wcells_append, Nat.zero_add, HJ.out]; rfl)
      have hle2 : ((le f j 4 : Nat) : Int) < 4294967296 := by omega
      generalize le f j 4 = v at hle HE hle2 ⊢
      clear i5
      go_wp2_with (first
        | (at_builtin; refine wpList_cat rfl _ _ 94 68 (.int .u32 0) 4 Try.underlying94 info_u32 rfl rfl rfl (World.ownsRow.alloc HO.out _) (HL.out.alloc hsz _) (by simp; omega) _ 1 1 rfl [.int .u32 (v : Nat)] rfl (one_at _ _ _) (by intro u hu; simp at hu; subst hu; rfl) (by omega) (by omega) ?_; intro A' c'' w2 hown2 hbel2 hsz2 _; rw [HE.out] at hown2; have HO2 := Lib.hid hown2; have HL2 := Lib.hid hbel2; clear hown2 hbel2))
      go_roundw
      case rel => exact ⟨k + 1, A', c'', by omega, by rw [HJ.out]; go_num, rfl, HO2.out, HL2.out⟩
      case measure => simp [intOf]; omega
    · obtain rfl : k = n / 4 := by omega
      have i1 : ¬ (4 * ((n / 4 : Nat) : Int)) + 4 ≤ (n : Int) := by omega
      go_wp2_with fail
      go_ret
      exact ⟨A, c', rfl, HO.out, HL.out⟩

end Ref
end Go.Proofs.Ytdffbjlbhjppeaa
