/- The calls of package words at any arguments, each by what it answers: fits, Big, Put32, Put64, PutBig. -/
import Derived.Test.YthjmbfhakccomaaWords
import Derived.Test.YthjmbfhakccomaaMem
import Derived.LoopN
namespace Go.Proofs.Ythjmbfhakccomaa
namespace Words
open Go.ChangeShapes Go.WideShapes Go.ChangeAt Go.RowKit
open Num Mem

/-- byte i of a number, the least first -/
def byteAt (v i : Nat) : Nat := v / 2 ^ (8 * i) % 256
theorem byteAt_lt (v i : Nat) : byteAt v i < 256 := Nat.mod_lt _ (by omega)
theorem byteAt_int (v i : Nat) : ((v : Int) / 2 ^ (8 * i) % 256) = ((byteAt v i : Nat) : Int) := by
  unfold byteAt
  rw [Int.natCast_emod, Int.natCast_ediv, Int.natCast_pow]
  rfl

theorem le_byteAt (v k : Nat) (h : v < 2 ^ (8 * k)) : le (byteAt v) 0 k = v := by
  have := le_digits v k
  rw [Nat.mod_eq_of_lt h] at this
  exact this
/-- the greatest first, likewise -/
theorem be_byteAt (v k : Nat) (h : v < 2 ^ (8 * k)) : be (fun i => byteAt v (k - 1 - i)) 0 k = v := by
  rw [be_le, ← le_byteAt v k h]
  refine le_congr k fun i hi => ?_
  show byteAt _ _ = byteAt _ _
  rw [le_byteAt v k h]
  congr 1
  omega

theorem bytes4 (v : Nat) (hv : v < 4294967296) : (#[.int .u8 ((v : Int) % 256), .int .u8 ((v : Int) / 256 % 256), .int .u8 ((v : Int) / 65536 % 256), .int .u8 ((v : Int) / 16777216)] : Array Value) = (byteCells (byteAt v) 4).toArray := by
  have e3 : byteAt v 3 = v / 16777216 := by
    show v / 2 ^ 24 % 256 = _
    omega
  show _ = (#[.int .u8 ((byteAt v 0 : Nat) : Int), .int .u8 ((byteAt v 1 : Nat) : Int), .int .u8 ((byteAt v 2 : Nat) : Int), .int .u8 ((byteAt v 3 : Nat) : Int)] : Array Value)
  rw [e3]
  simp [byteAt]

theorem bytes8 (v : Nat) (hv : v < 18446744073709551616) : (#[.int .u8 ((v : Int) % 256), .int .u8 ((v : Int) / 256 % 256), .int .u8 ((v : Int) / 65536 % 256), .int .u8 ((v : Int) / 16777216 % 256),
      .int .u8 ((v : Int) / 4294967296 % 256), .int .u8 ((v : Int) / 1099511627776 % 256), .int .u8 ((v : Int) / 281474976710656 % 256), .int .u8 ((v : Int) / 72057594037927936)] : Array Value) = (byteCells (byteAt v) 8).toArray := by
  have e7 : byteAt v 7 = v / 72057594037927936 := by
    show v / 2 ^ 56 % 256 = _
    omega
  show _ = (#[.int .u8 ((byteAt v 0 : Nat) : Int), .int .u8 ((byteAt v 1 : Nat) : Int), .int .u8 ((byteAt v 2 : Nat) : Int), .int .u8 ((byteAt v 3 : Nat) : Int),
    .int .u8 ((byteAt v 4 : Nat) : Int), .int .u8 ((byteAt v 5 : Nat) : Int), .int .u8 ((byteAt v 6 : Nat) : Int), .int .u8 ((byteAt v 7 : Nat) : Int)] : Array Value)
  rw [e7]
  simp [byteAt]

set_option maxRecDepth 100000 in
theorem fits_yes (s : Int) (h0 : 1 ≤ s) (h1 : s ≤ 8) (w : World) : Calls Try.prog 46 #[.int .i64 s] w fun e w' => e = .returned (.bool true) ∧ w = w' := by
  go_enter Try.func46, Try.ntmps46
  go_wp2
  go_ret
  exact ⟨rfl, rfl⟩

set_option maxRecDepth 100000 in
theorem fits_no (s : Int) (h : s < 1 ∨ 8 < s) (w : World) : Calls Try.prog 46 #[.int .i64 s] w fun e w' => e = .returned (.bool false) ∧ w = w' := by
  rcases h with h | h
  · go_enter Try.func46, Try.ntmps46
    go_wp2
    go_ret
    exact ⟨rfl, rfl⟩
  · have h2 : 1 ≤ s := by omega
    have hd : decide (s ≤ 8) = false := by simpa using h
    go_enter Try.func46, Try.ntmps46
    go_wp2
    go_ret
    exact ⟨rfl, rfl⟩

set_option maxRecDepth 100000 in
theorem big_arg (A : Option Addr) (n c : Nat) (p s : Int) (h : s < 1 ∨ 8 < s) (w : World) :
    Calls Try.prog 35 #[.slice A n c, .int .i64 p, .int .i64 s] w fun e w' => e = .returned (.tuple #[.int .u64 0, .int .i64 1]) ∧ w = w' := by
  go_enter Try.func35, Try.ntmps35
  go_wp2_with (go_at_call 46; refine (fits_no _ h _).mono ?_; rintro e w' ⟨rfl, rfl⟩)
  go_ret2
  exact ⟨rfl, rfl⟩

set_option maxRecDepth 100000 in
theorem big_no (A : Option Addr) (n c : Nat) (p : Int) (s : Nat) (h0 : 1 ≤ s) (h1 : s ≤ 8) (hn : n ≤ 9223372036854775807) (h : p < 0 ∨ (n : Int) - s < p) (w : World) :
    Calls Try.prog 35 #[.slice A n c, .int .i64 p, .int .i64 s] w fun e w' => e = .returned (.tuple #[.int .u64 0, .int .i64 (wrongI p)]) ∧ w = w' := by
  by_cases hp : p < 0
  · go_enter Try.func35, Try.ntmps35
    go_wp2_with (first
      | (go_at_call 46; refine (fits_yes _ (by omega) (by omega) _).mono ?_; rintro e w' ⟨rfl, rfl⟩)
      | (go_at_call 47; refine (lacks_any _ _ _ _ _ (by omega) (by omega) (by omega) _).mono ?_; rintro e w' ⟨rfl, rfl⟩; rw [lackI_neg hp]))
    go_ret2
    exact ⟨by rw [show wrongI p = 1 from if_pos hp]; rfl, rfl⟩
  · have hp' : 0 ≤ p := by omega
    have hq : (n : Int) - s < p := by omega
    clear hp h
    go_enter Try.func35, Try.ntmps35
    go_wp2_with (first
      | (go_at_call 46; refine (fits_yes _ (by omega) (by omega) _).mono ?_; rintro e w' ⟨rfl, rfl⟩)
      | (go_at_call 47; refine (lacks_any _ _ _ _ _ (by omega) (by omega) (by omega) _).mono ?_; rintro e w' ⟨rfl, rfl⟩; rw [lackI_far hp' hq]))
    go_ret2
    exact ⟨by rw [show wrongI p = 10 from if_neg (by omega)]; rfl, rfl⟩

set_option maxRecDepth 100000 in
theorem big_ok (b off n c : Nat) (f : Nat → Nat) (hf : ∀ i, f i < 256) (p s : Nat) (h0 : 1 ≤ s) (h1 : s ≤ 8) (h : p + s ≤ n) (hn : n ≤ 9223372036854775807) (w : World)
    (hc : ∀ i, i < n → w.cell? ⟨b, off + i, none⟩ = some (.int .u8 (f i))) :
    Calls Try.prog 35 #[.slice (some ⟨b, off, none⟩) n c, .int .i64 p, .int .i64 s] w fun e w' => e = .returned (.tuple #[.int .u64 (be f p s), .int .i64 0]) ∧ w = w' := by
  have HC := Lib.hid hc
  clear hc
  have HF := Lib.hid hf
  clear hf
  go_enter Try.func35, Try.ntmps35
  go_wp2_with (first
      | (go_at_call 46; refine (fits_yes _ (by omega) (by omega) _).mono ?_; rintro e w' ⟨rfl, rfl⟩)
      | (go_at_call 47; refine (lacks_any _ _ _ _ _ (by omega) (by omega) (by omega) _).mono ?_; rintro e w' ⟨rfl, rfl⟩; rw [lackI_ok (by omega) (by omega)]))
  go_loop [9, 10, 22] (fun v _ i => ∃ k : Nat, k ≤ s ∧ i = .int .i64 k ∧ v = .int .u64 (be f p k)) (fun _ _ i => s - (intOf i).toNat)
  case atStart => exact ⟨0, Nat.zero_le _, rfl, rfl⟩
  case round =>
    obtain ⟨k, hk, rfl, rfl⟩ := hrel
    by_cases hlt : k < s
    · have hcell := HC.out (p + k) (by omega)
      go_wp2
      go_round
      case rel => exact ⟨k + 1, by omega, by go_num, by rw [or_high _ _ k (by omega) (be_lt HF.out p k) (HF.out _)]; rfl⟩
      case measure => simp [intOf]; omega
    · go_wp2
      go_ret2
      exact ⟨by rw [show k = s from by omega]; rfl, rfl⟩

/-- what a row of n bytes is made as -/
theorem made_bytes (n : Nat) (hn : n ≤ 140737488355328) (w : World) :
    (Instr.makeSlice 26 (.int .i64 n) (.int .i64 n)).run Try.prog w = .ok (.slice (some ⟨w.heap.size, 0, none⟩) n n) (w.alloc (.cells (byteCells (fun _ => 0) n).toArray 5)) := by
  obtain ⟨i0, hi, hz0, hz1, hz2⟩ := info_parts (show (Try.prog.info? 5).map (fun i => (i.zero, i.size, i.bytes)) = some (some (.int .u8 0), 1, 1) by kernel_rfl)
  rw [run_make w 26 5 i0 (.int .u8 0) Try.underlying26 hi hz0 .i64 .i64 n n (by omega) (by omega) (by rw [hz2]; omega) (by omega)]
  have e : madeCells (Value.int .u8 0).cells (((n : Int)).toNat * i0.size) = (byteCells (fun _ => 0) n).toArray := by
    rw [hz1]
    apply Array.ext_getElem?
    intro i
    by_cases hi : i < n <;> simp [madeCells, Value.cells, byteCells, hi, Nat.mod_one]
  rw [e]
  rfl

set_option maxRecDepth 100000 in
theorem putBig_arg (v : Int) (s : Int) (h : s < 1 ∨ 8 < s) (w : World) :
    Calls Try.prog 32 #[.int .u64 v, .int .i64 s] w fun e w' => e = .returned (.tuple #[.slice none 0 0, .int .i64 1]) ∧ w = w' := by
  go_enter Try.func32, Try.ntmps32
  go_wp2_with (go_at_call 46; refine (fits_no _ h _).mono ?_; rintro e w' ⟨rfl, rfl⟩)
  go_ret2
  exact ⟨rfl, rfl⟩

set_option maxRecDepth 100000 in
theorem putBig_long (v s : Nat) (h0 : 1 ≤ s) (h1 : s ≤ 8) (h : v / 2 ^ (8 * s) ≠ 0) (w : World) :
    Calls Try.prog 32 #[.int .u64 v, .int .i64 s] w fun e w' => e = .returned (.tuple #[.slice none 0 0, .int .i64 2]) ∧ w = w' := by
  have hd : (((v : Int) / 2 ^ (8 * s)) == 0) = false := by
    rw [show ((v : Int) / 2 ^ (8 * s)) = ((v / 2 ^ (8 * s) : Nat) : Int) by rw [Int.natCast_ediv, Int.natCast_pow]; rfl]
    generalize v / 2 ^ (8 * s) = q at h
    exact beq_eq_false_iff_ne.2 (by omega)
  have hd' : (((v : Int) / 2 ^ (8 * s)) != 0) = true := by unfold bne; rw [hd]; rfl
  clear h
  go_enter Try.func32, Try.ntmps32
  go_wp2_with (go_at_call 46; refine (fits_yes _ (by omega) (by omega) _).mono ?_; rintro e w' ⟨rfl, rfl⟩)
  go_ret2
  exact ⟨rfl, rfl⟩

set_option maxRecDepth 100000 in
theorem putBig_ok (v s : Nat) (h0 : 1 ≤ s) (h1 : s ≤ 8) (h : v / 2 ^ (8 * s) = 0) (w : World) :
    Calls Try.prog 32 #[.int .u64 v, .int .i64 s] w fun e w' => e = .returned (.tuple #[.slice (some ⟨w.heap.size, 0, none⟩) s s, .int .i64 0]) ∧
      Whole w' w.heap.size 5 (byteCells (fun i => byteAt v (s - 1 - i)) s).toArray ∧ Below w.heap.size w w' := by
  have hd : (((v : Int) / 2 ^ (8 * s)) == 0) = true := by
    rw [show ((v : Int) / 2 ^ (8 * s)) = ((v / 2 ^ (8 * s) : Nat) : Int) by rw [Int.natCast_ediv, Int.natCast_pow]; rfl]
    generalize v / 2 ^ (8 * s) = q at h
    exact beq_iff_eq.2 (by omega)
  have hd' : (((v : Int) / 2 ^ (8 * s)) != 0) = false := by unfold bne; rw [hd]; rfl
  clear h hd
  have hmk := made_bytes s (by omega) w
  go_enter Try.func32, Try.ntmps32
  go_wp2_with (go_at_call 46; refine (fits_yes _ (by omega) (by omega) _).mono ?_; rintro e w' ⟨rfl, rfl⟩)
  clear hmk hd'
  go_loopw [7, 19] (fun _ i wr => ∃ k : Nat, k ≤ s ∧ i = .int .i64 k ∧ Whole wr w.heap.size 5 (byteCells (fun i => if s - 1 - i < k then byteAt v (s - 1 - i) else 0) s).toArray ∧ Below w.heap.size w wr) (fun _ i _ => s - (intOf i).toNat)
  case atStart => exact ⟨0, Nat.zero_le _, rfl, Whole.new _ _ _, (Below.refl _ _).alloc (Nat.le_refl _) _⟩
  case round =>
    obtain ⟨k, hk, rfl, hblk, hbel⟩ := hrel
    by_cases hlt : k < s
    · have hcell := hblk.cell (s - 1 - k)
      rw [List.getElem?_toArray, byteCells_get _ _ _ (by omega)] at hcell
      have hfree := hblk.free (s - 1 - k)
      have HB := Lib.hid hblk
      have HL := Lib.hid hbel
      clear hblk hbel
      go_wp2
      go_roundw
      case rel =>
        refine ⟨k + 1, by omega, by go_num, ?_, HL.out.setCell (by simp) _⟩
        have h := HB.out.put (s - 1 - k) (.int .u8 ((v : Int) / 2 ^ (8 * k) % 256))
        rw [byteAt_int, byteCells_set, byteCells_congr (g := fun i => if s - 1 - i < k + 1 then byteAt v (s - 1 - i) else 0) (fun i hi => ?_)] at h
        · rw [byteAt_int]
          exact h
        · by_cases e : i = s - 1 - k
          · subst e
            rw [if_pos rfl, if_pos (by omega), show s - 1 - (s - 1 - k) = k from by omega]
          · rw [if_neg e]
            by_cases l : s - 1 - i < k
            · rw [if_pos l, if_pos (by omega)]
            · rw [if_neg l, if_neg (by omega)]
      case measure => simp [intOf]; omega
    · have HB := Lib.hid hblk
      have HL := Lib.hid hbel
      clear hblk hbel
      go_wp2
      go_ret2
      refine ⟨rfl, ?_, HL.out⟩
      have := HB.out
      rwa [byteCells_congr (g := fun i => byteAt v (s - 1 - i)) (fun i hi => if_pos (by omega))] at this

end Words
end Go.Proofs.Ythjmbfhakccomaa
