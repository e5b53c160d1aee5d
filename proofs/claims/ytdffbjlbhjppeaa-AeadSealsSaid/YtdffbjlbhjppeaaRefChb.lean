/- The document's own answers of layer 2 (package aditref02): bytes, First. -/
import Derived.Test.YtdffbjlbhjppeaaRefCha
import Derived.Test.YtdffbjlbhjppeaaAliveTwo
namespace Go.Proofs.Ytdffbjlbhjppeaa
namespace Ref
open Go.ChangeShapes Go.WideShapes Go.ChangeAt Go.RowKit
open Num Mem Words State Chacha

/-- the bytes of a row of numbers, four each -/
def spread (s : List Nat) (j : Nat) : Nat := byteAt (s.getD (j / 4) 0) (j % 4)
theorem spread_lt (s : List Nat) (j : Nat) : spread s j < 256 := byteAt_lt _ _
theorem spread_snoc (s : List Nat) (k : Nat) : byteCells (spread s) (4 * k) ++ byteCells (byteAt (s.getD k 0)) 4 = byteCells (spread s) (4 * (k + 1)) := by
  rw [byteCells_append, show 4 * k + 4 = 4 * (k + 1) by omega]
  refine byteCells_congr fun i hi => ?_
  by_cases h : i < 4 * k
  · rw [if_pos h]
  · rw [if_neg h]
    unfold spread
    rw [show i / 4 = k by omega, show i % 4 = i - 4 * k by omega]

set_option maxRecDepth 100000 in
theorem bytes_row (g off n c : Nat) (s : List Nat) (hs : ∀ i, i < n → s.getD i 0 < 4294967296) (hn : n ≤ 1000) (w : World) (hblk : g < w.heap.size) (hcell : ∀ i, i < n → w.cell? ⟨g, off + i, none⟩ = some (.int .u32 (s.getD i 0 : Nat))) :
    Calls Try.prog 64 #[.slice (some ⟨g, off, none⟩) n c] w fun e w' => ∃ A c', e = .returned (.slice A (4 * n) c') ∧ Own w' w.heap.size 5 A (4 * n) c' (spread s) ∧ Below w.heap.size w w' := by
  have HC := Lib.hid hcell
  have HS := Lib.hid hs
  clear hcell hs
  go_enter Try.func64, Try.ntmps64
  go_wp2_with fail
  go_loopw [3, 4] (fun o i wr => ∃ (k : Nat) (A : Option Addr) (c' : Nat), k ≤ n ∧ i = .int .i64 k ∧ o = .slice A (4 * k) c' ∧ Own wr w.heap.size 5 A (4 * k) c' (spread s) ∧ Below w.heap.size w wr) (fun _ i _ => n - (intOf i).toNat)
  case atStart => exact ⟨0, none, 0, Nat.zero_le _, rfl, rfl, Own.nil _ _ _ _, Below.refl _ _⟩
  case round =>
    obtain ⟨k, A, c', hk, rfl, rfl, hown, hbel⟩ := hrel
    have HO := Lib.hid hown
    have HL := Lib.hid hbel
    have hsz := hbel.size
    clear hown hbel
    by_cases hlt : k < n
    · have hc1 := (HL.out.cell (p := ⟨g, off + k, none⟩) hblk).trans (HC.out k hlt)
      have hv := HS.out k hlt
      have HE := Lib.hid (spread_snoc s k)
      have i1 : (k : Int) < (n : Int) := by omega
      generalize s.getD k 0 = v at hc1 hv HE
      go_wp2_with fail
      refine (bytes_any v 4 (by omega) (by omega) _).mono ?_
      rintro e w1 ⟨A1, c1, rfl, ho1, hb1⟩
      obtain ⟨g1, rfl, hg1, hg1'⟩ := owns_some ho1 (by omega)
      have hsz1 : w.heap.size ≤ w1.heap.size := Nat.le_trans hsz hb1.size
      have HO1 := Lib.hid (owns_below HO.out hb1 (Nat.le_refl _))
      have HL1 := Lib.hid (HL.out.trans (hb1.mono hsz))
      have HS1 := Lib.hid (World.ownsRow.cells ho1 (g := g1) rfl)
      clear ho1 hb1 hg1 hg1'
      go_wp2_with (first
        | (at_builtin; refine wpList_cat rfl _ _ 23 5 (.int .u8 0) 1 Try.underlying23 info_u8 rfl rfl rfl HO1.out HL1.out hsz1 _ 4 c1 rfl (byteCells (byteAt v) 4) (byteCells_length _ _) HS1.out (bytes_each _ _) (by omega) (by omega) ?_; intro A' c'' w2 hown2 hbel2 hsz2 _; rw [HE.out, show 4 * k + 4 = 4 * (k + 1) by omega] at hown2; rw [show 4 * k + 4 = 4 * (k + 1) by omega]; have HO2 := Lib.hid hown2; have HL2 := Lib.hid hbel2; clear hown2 hbel2))
      go_roundw
      case rel => exact ⟨k + 1, A', c'', by omega, by go_num, rfl, HO2.out, HL2.out⟩
      case measure => simp [intOf]; omega
    · obtain rfl : k = n := by omega
      go_wp2_with fail
      go_ret
      exact ⟨A, c', rfl, HO.out, HL.out⟩

theorem four_nums (f : Nat → Nat) : nums f 0 4 = [le f 0 4, le f 4 4, le f 8 4, le f 12 4] := rfl

set_option maxRecDepth 100000 in
theorem first_ref (b off c b' off' c' : Nat) (f f' : Nat → Nat) (hf : ∀ i, f i < 256) (hf' : ∀ i, f' i < 256) (hc : 32 ≤ c) (hcm : c ≤ 9223372036854775807) (hc' : 16 ≤ c') (hcm' : c' ≤ 9223372036854775807) (w : World) (hblk : b < w.heap.size) (hblk' : b' < w.heap.size)
    (hcell : ∀ i, i < 32 → w.cell? ⟨b, off + i, none⟩ = some (.int .u8 (f i))) (hcell' : ∀ i, i < 16 → w.cell? ⟨b', off' + i, none⟩ = some (.int .u8 (f' i))) :
    Calls Try.prog 62 #[.slice (some ⟨b, off, none⟩) 32 c, .slice (some ⟨b', off', none⟩) 16 c'] w fun e w' => ∃ g d, e = .returned (.slice (some ⟨g, 0, none⟩) 16 d) ∧ OwnW w' w.heap.size g d (first f [le f' 0 4, le f' 4 4, le f' 8 4, le f' 12 4]) ∧ Below w.heap.size w w' := by
  have HC := Lib.hid hcell
  have HC' := Lib.hid hcell'
  have HF := Lib.hid hf
  have HF' := Lib.hid hf'
  clear hcell hcell' hf hf'
  go_enter Try.func62, Try.ntmps62
  go_wp2_with fail
  refine cut_call (fun X => X.ownsRow w.heap.size 68 1 (.slice (some ⟨w.heap.size, 0, none⟩) 4 4) 4 (wcells [1634760805, 857760878, 2036477234, 1797285236]) ∧ Below w.heap.size w X) ⟨World.ownsRow_lit w #[.int .u32 1634760805, .int .u32 857760878, .int .u32 2036477234, .int .u32 1797285236] 4 (Nat.le_refl _) (by simp [maxLen]) rfl, below_alloc (Below.refl _ _) _⟩ ?_
  rintro w0 ⟨ho0, hb0⟩
  refine (numbers_ref b off 32 c f HF.out (by omega) (by omega) hc hcm w0 (Nat.lt_of_lt_of_le hblk hb0.size) (fun i hi => (hb0.cell (p := ⟨b, off + i, none⟩) hblk).trans (HC.out i hi))).mono ?_
  rintro e w1 ⟨A1, c1, rfl, ho1, hb1⟩
  obtain ⟨g1, rfl, hg1, hg1'⟩ := owns_some ho1 (by omega)
  have hsz1 : w.heap.size ≤ w1.heap.size := Nat.le_trans hb0.size hb1.size
  have HO1 := Lib.hid (owns_below ho0 hb1 (Nat.le_refl _))
  have HL1 := Lib.hid (hb0.trans (hb1.mono hb0.size))
  have HS1 := Lib.hid (World.ownsRow.cells ho1 (g := g1) rfl)
  clear ho0 hb0 ho1 hb1 hg1 hg1'
  go_wp2_with (first
    | (at_builtin; refine wpList_cat rfl _ _ 94 68 (.int .u32 0) 4 Try.underlying94 info_u32 rfl rfl rfl HO1.out HL1.out hsz1 _ 8 c1 rfl (wcells (nums f 0 8)) (by simp [wcells, nums]) HS1.out (wcells_each _) (by omega) (by omega) ?_; intro A2 c2 w2 ho2 hb2 hsz2 _; have HO2 := Lib.hid ho2; have HL2 := Lib.hid hb2; clear ho2 hb2))
  refine (numbers_ref b' off' 16 c' f' HF'.out (by omega) (by omega) hc' hcm' w2 (Nat.lt_of_lt_of_le hblk' HL2.out.size) (fun i hi => (HL2.out.cell (p := ⟨b', off' + i, none⟩) hblk').trans (HC'.out i hi))).mono ?_
  rintro e w3 ⟨A3, c3, rfl, ho3, hb3⟩
  obtain ⟨g3, rfl, hg3, hg3'⟩ := owns_some ho3 (by omega)
  have hsz3 : w.heap.size ≤ w3.heap.size := Nat.le_trans hsz2 hb3.size
  have HO3 := Lib.hid (owns_below HO2.out hb3 (Nat.le_refl _))
  have HL3 := Lib.hid (HL2.out.trans (hb3.mono hsz2))
  have HS3 := Lib.hid (World.ownsRow.cells ho3 (g := g3) rfl)
  clear ho3 hb3 hg3 hg3'
  go_wp2_with (first
    | (at_builtin; refine wpList_cat rfl _ _ 94 68 (.int .u32 0) 4 Try.underlying94 info_u32 rfl rfl rfl HO3.out HL3.out hsz3 _ 4 c3 rfl (wcells (nums f' 0 4)) (by simp [wcells, nums]) HS3.out (wcells_each _) (by omega) (by omega) ?_; intro A4 c4 w4 ho4 hb4 hsz4 _; have HO4 := Lib.hid ho4; have HL4 := Lib.hid hb4; clear ho4 hb4))
  go_ret
  obtain ⟨g4, rfl, _, _⟩ := owns_some HO4.out (by omega)
  refine ⟨g4, c4, rfl, ?_, HL4.out⟩
  have h := HO4.out
  rw [← wcells_append, ← wcells_append] at h
  exact h

end Ref
end Go.Proofs.Ytdffbjlbhjppeaa
