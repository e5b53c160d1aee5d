/- Joined texts (mkpack.py): Words State WordsTwo Turn First Block PolyNum Limbs. -/
import Derived.Test.YtdhjgenijieeaaaKit
import Derived.Test.YtdhjgenijieeaaaFloatK
import Derived.Laws.BitsAllLaws
import Derived.Test.YtdhjgenijieeaaaRows
import Derived.WalkKit
import Derived.ProofKit
import Derived.OpenShut
import Derived.BigQuiet
import Derived.Deep.QuietTactic
import Derived.Lib.Hide
import Derived.Below
import Derived.Laws.OwnMore
import Derived.Laws.Rows
import Derived.Deep.Draws
import Derived.OwnWalk
import Derived.LoopN
import Derived.Deep.RegionWith
import Derived.BigRegion
import Derived.RegionTactic
import Derived.Outline
import Derived.Laws.CopyOwn
import Derived.Deep.RegionLaw
import Derived.Laws.BytesArg
import Derived.Laws.BytesString
import Derived.Deep.RegionHeld3
import Derived.Deep.MidRow
import Derived.Deep.Cut
/-! from Words -/
namespace Go.Proofs.Ytdhjgenijieeaaa
namespace Words
open Go.ChangeShapes Go.WideShapes Go.ChangeAt Go.RowKit
open Num
set_option maxRecDepth 100000 in
theorem rotate_any (v u : Nat) (n : Int) (hu : n % 32 = (u : Int)) (hv : v < 2 ^ 32) (w : World) :
    Calls Try.prog 66 #[.int .u32 v, .int .i64 n] w fun e w' => e = .returned (.int .u32 (rotl v u : Nat)) ∧ ∃ k, w' = w.drewN k := by
  have hb : bits .and .i64 n 31 = (u : Int) := by rw [and31, hu]
  have hu2 : u ≤ 31 := by omega
  have HR := Lib.hid (or_rot v u hv)
  clear hu
  go_enter Try.func66, Try.ntmps66
  go_wp2
  go_quiet (fail)
  go_wp2
  go_ret
  exact ⟨by rw [HR.out]; rfl, _, rfl⟩
set_option maxRecDepth 100000 in
theorem little_ok (b off n c : Nat) (f : Nat → Nat) (hf : ∀ i, f i < 256) (p size : Nat) (h0 : 1 ≤ size) (h1 : size ≤ 8) (h : p + size ≤ n) (hn : n ≤ 9223372036854775807) (w : World)
    (hc : ∀ i, i < n → w.cell? ⟨b, off + i, none⟩ = some (.int .u8 (f i))) :
    Calls Try.prog 61 #[.slice (some ⟨b, off, none⟩) n c, .int .i64 p, .int .i64 size] w fun e w' => e = .returned (.tuple #[.int .u64 (le f p size), .int .i64 0]) ∧ w = w' := by
  have HC := Lib.hid hc
  clear hc
  have HF := Lib.hid hf
  clear hf
  go_enter Try.func61, Try.ntmps61
  go_wp2_with (go_at_call 65; refine (lacks_any _ _ _ _ _ (by omega) (by omega) (by omega) _).mono ?_; rintro e w' ⟨rfl, rfl⟩; rw [lackI_ok (by omega) (by omega)])
  go_loop [9, 10, 19] (fun v _ i => ∃ k : Nat, k ≤ size ∧ i = .int .i64 k ∧ v = .int .u64 (le f p k)) (fun _ _ i => size - (intOf i).toNat)
  case atStart => exact ⟨0, Nat.zero_le _, rfl, rfl⟩
  case round =>
    obtain ⟨k, hk, rfl, rfl⟩ := hrel
    by_cases hlt : k < size
    · have hcell := HC.out (p + k) (by omega)
      go_wp2
      go_round
      case rel => exact ⟨k + 1, by omega, by go_num, by rw [or_low _ _ k (by omega) (le_lt HF.out p k) (HF.out _)]; rfl⟩
      case measure => simp [intOf]; omega
    · go_wp2
      go_ret2
      exact ⟨by rw [show k = size from by omega]; rfl, rfl⟩
set_option maxRecDepth 100000 in
theorem little_no (A : Option Addr) (n c : Nat) (p : Int) (size : Nat) (h0 : 1 ≤ size) (h1 : size ≤ 8) (hn : n ≤ 9223372036854775807) (h : p < 0 ∨ (n : Int) - size < p) (w : World) :
    Calls Try.prog 61 #[.slice A n c, .int .i64 p, .int .i64 size] w fun e w' => e = .returned (.tuple #[.int .u64 0, .int .i64 (wrongI p)]) ∧ w = w' := by
  by_cases hp : p < 0
  · go_enter Try.func61, Try.ntmps61
    go_wp2_with (go_at_call 65; refine (lacks_any _ _ _ _ _ (by omega) (by omega) (by omega) _).mono ?_; rintro e w' ⟨rfl, rfl⟩; rw [lackI_neg hp])
    go_ret2
    exact ⟨by rw [show wrongI p = 1 from if_pos hp]; rfl, rfl⟩
  · have hp' : 0 ≤ p := by omega
    have hq : (n : Int) - size < p := by omega
    clear hp h
    go_enter Try.func61, Try.ntmps61
    go_wp2_with (go_at_call 65; refine (lacks_any _ _ _ _ _ (by omega) (by omega) (by omega) _).mono ?_; rintro e w' ⟨rfl, rfl⟩; rw [lackI_far hp' hq])
    go_ret2
    exact ⟨by rw [show wrongI p = 10 from if_neg (by omega)]; rfl, rfl⟩
set_option maxRecDepth 100000 in
theorem load32_ok (b off n c : Nat) (f : Nat → Nat) (hf : ∀ i, f i < 256) (p : Nat) (h : p + 4 ≤ n) (hn : n ≤ 9223372036854775807) (w : World)
    (hc : ∀ i, i < n → w.cell? ⟨b, off + i, none⟩ = some (.int .u8 (f i))) :
    Calls Try.prog 53 #[.slice (some ⟨b, off, none⟩) n c, .int .i64 p] w fun e w' => e = .returned (.tuple #[.int .u32 (le f p 4), .int .i64 0]) ∧ w = w' := by
  have HC := Lib.hid hc
  clear hc
  have HF := Lib.hid hf
  clear hf
  have hl : le f p 4 < 4294967296 := le_lt HF.out p 4
  go_enter Try.func53, Try.ntmps53
  go_wp2_with (go_at_call 61; refine (little_ok b off n c f HF.out p 4 (by omega) (by omega) h hn _ HC.out).mono ?_; rintro e w' ⟨rfl, rfl⟩)
  go_ret2
  exact ⟨rfl, rfl⟩
set_option maxRecDepth 100000 in
theorem load32_no (A : Option Addr) (n c : Nat) (p : Int) (hn : n ≤ 9223372036854775807) (h : p < 0 ∨ (n : Int) - 4 < p) (w : World) :
    Calls Try.prog 53 #[.slice A n c, .int .i64 p] w fun e w' => e = .returned (.tuple #[.int .u32 0, .int .i64 (wrongI p)]) ∧ w = w' := by
  go_enter Try.func53, Try.ntmps53
  go_wp2_with (go_at_call 61; refine (little_no A n c p 4 (by omega) (by omega) hn h _).mono ?_; rintro e w' ⟨rfl, rfl⟩)
  go_ret2
  exact ⟨rfl, rfl⟩
set_option maxRecDepth 100000 in
theorem load64_ok (b off n c : Nat) (f : Nat → Nat) (hf : ∀ i, f i < 256) (p : Nat) (h : p + 8 ≤ n) (hn : n ≤ 9223372036854775807) (w : World)
    (hc : ∀ i, i < n → w.cell? ⟨b, off + i, none⟩ = some (.int .u8 (f i))) :
    Calls Try.prog 59 #[.slice (some ⟨b, off, none⟩) n c, .int .i64 p] w fun e w' => e = .returned (.tuple #[.int .u64 (le f p 8), .int .i64 0]) ∧ w = w' := by
  have HC := Lib.hid hc
  clear hc
  have HF := Lib.hid hf
  clear hf
  go_enter Try.func59, Try.ntmps59
  go_wp2_with (go_at_call 61; refine (little_ok b off n c f HF.out p 8 (by omega) (by omega) h hn _ HC.out).mono ?_; rintro e w' ⟨rfl, rfl⟩)
  go_ret2
  exact ⟨rfl, rfl⟩
set_option maxRecDepth 100000 in
theorem load64_no (A : Option Addr) (n c : Nat) (p : Int) (hn : n ≤ 9223372036854775807) (h : p < 0 ∨ (n : Int) - 8 < p) (w : World) :
    Calls Try.prog 59 #[.slice A n c, .int .i64 p] w fun e w' => e = .returned (.tuple #[.int .u64 0, .int .i64 (wrongI p)]) ∧ w = w' := by
  go_enter Try.func59, Try.ntmps59
  go_wp2_with (go_at_call 61; refine (little_no A n c p 8 (by omega) (by omega) hn h _).mono ?_; rintro e w' ⟨rfl, rfl⟩)
  go_ret2
  exact ⟨rfl, rfl⟩
end Words
end Go.Proofs.Ytdhjgenijieeaaa

/-! from State -/
namespace Go.Proofs.Ytdhjgenijieeaaa
namespace State
open Num
def M : Nat := 4294967296
/-- the number at place 'to' grows by that at 'from_', the one at 'by_' is xor'ed with it and turned by n -/
def turn (s : List Nat) (to from_ by_ n : Nat) : List Nat :=
  let x := (s.getD to 0 + s.getD from_ 0) % 4294967296
  let t := s.set to x
  t.set by_ (rotl (t.getD by_ 0 ^^^ t.getD to 0) n)
def quarter (s : List Nat) (a b c d : Nat) : List Nat := turn (turn (turn (turn s a b d 16) c d b 12) a b d 8) c d b 7
def two (s : List Nat) : List Nat :=
  quarter (quarter (quarter (quarter (quarter (quarter (quarter (quarter s 0 4 8 12) 1 5 9 13) 2 6 10 14) 3 7 11 15) 0 5 10 15) 1 6 11 12) 2 7 8 13) 3 4 9 14
def rounds : Nat → List Nat → List Nat
  | 0, s => s
  | k + 1, s => two (rounds k s)
def stir (s : List Nat) : List Nat := rounds 10 s
/-- k numbers of four bytes each, from place p on -/
def nums (f : Nat → Nat) (p k : Nat) : List Nat := (List.range k).map fun i => le f (p + 4 * i) 4
def first (key : Nat → Nat) (four : List Nat) : List Nat := [1634760805, 857760878, 2036477234, 1797285236] ++ nums key 0 8 ++ four
/-- a row of numbers below 2^32 -/
def Fits (s : List Nat) : Prop := ∀ i, s.getD i 0 < 4294967296
theorem getD_set (s : List Nat) (i j v : Nat) (hi : i < s.length) : (s.set i v).getD j 0 = if j = i then v else s.getD j 0 := by
  simp only [List.getD_eq_getElem?_getD, List.getElem?_set]
  by_cases h : i = j
  · subst h
    simp [hi]
  · have h' : ¬ j = i := fun e => h e.symm
    simp [h, h']
theorem Fits.set {s : List Nat} (h : Fits s) (i v : Nat) (hv : v < 4294967296) : Fits (s.set i v) := by
  intro j
  by_cases hi : i < s.length
  · rw [getD_set s i j v hi]
    split
    · exact hv
    · exact h j
  · rw [List.set_eq_of_length_le (by omega)]
    exact h j
theorem turn_length (s : List Nat) (a b c n : Nat) : (turn s a b c n).length = s.length := by simp [turn]
theorem turn_fits {s : List Nat} (h : Fits s) (a b c n : Nat) (hn : n ≤ 31) : Fits (turn s a b c n) := by
  unfold turn
  have h1 : Fits (s.set a ((s.getD a 0 + s.getD b 0) % 4294967296)) := h.set _ _ (Nat.mod_lt _ (by omega))
  exact h1.set _ _ (rotl_lt _ _ (Nat.xor_lt_two_pow (h1 _) (h1 _)) hn)
theorem quarter_length (s : List Nat) (a b c d : Nat) : (quarter s a b c d).length = s.length := by simp [quarter, turn_length]
theorem quarter_fits {s : List Nat} (h : Fits s) (a b c d : Nat) : Fits (quarter s a b c d) :=
  turn_fits (turn_fits (turn_fits (turn_fits h _ _ _ _ (by omega)) _ _ _ _ (by omega)) _ _ _ _ (by omega)) _ _ _ _ (by omega)
theorem two_length (s : List Nat) : (two s).length = s.length := by simp [two, quarter_length]
theorem two_fits {s : List Nat} (h : Fits s) : Fits (two s) :=
  quarter_fits (quarter_fits (quarter_fits (quarter_fits (quarter_fits (quarter_fits (quarter_fits (quarter_fits h _ _ _ _) _ _ _ _) _ _ _ _) _ _ _ _) _ _ _ _) _ _ _ _) _ _ _ _) _ _ _ _
theorem rounds_length (k : Nat) (s : List Nat) : (rounds k s).length = s.length := by
  induction k with
  | zero => rfl
  | succ k ih => rw [rounds, two_length, ih]
theorem rounds_fits (k : Nat) {s : List Nat} (h : Fits s) : Fits (rounds k s) := by
  induction k with
  | zero => exact h
  | succ k ih => exact two_fits ih
/-- the cells of a row of numbers -/
def wcells (s : List Nat) : List Value := s.map fun x => .int .u32 (x : Nat)
theorem wcells_length (s : List Nat) : (wcells s).length = s.length := by simp [wcells]
theorem wcells_get (s : List Nat) (i : Nat) (h : i < s.length) : (wcells s)[i]? = some (.int .u32 (s.getD i 0 : Nat)) := by
  simp [wcells, h, List.getD]
theorem wcells_set (s : List Nat) (i v : Nat) : (wcells s).toArray.setIfInBounds i (.int .u32 (v : Nat)) = (wcells (s.set i v)).toArray := by
  simp [wcells, List.map_set]
end State
end Go.Proofs.Ytdhjgenijieeaaa

/-! from WordsTwo -/
namespace Go.Proofs.Ytdhjgenijieeaaa
namespace Words
open Go.ChangeShapes Go.WideShapes Go.ChangeAt Go.RowKit
open Num Mem
set_option maxRecDepth 100000 in
theorem put32_lit (v : Nat) (hv : v < 4294967296) (w : World) :
    Calls Try.prog 48 #[.int .u32 v] w fun e w' => e = .returned (.agg #[.int .u8 ((v : Int) % 256), .int .u8 ((v : Int) / 256 % 256), .int .u8 ((v : Int) / 65536 % 256), .int .u8 ((v : Int) / 16777216)]) ∧ Below w.heap.size w w' := by
  go_enter Try.func48, Try.ntmps48
  go_wp2
  refine wp_loop_rounds 5 ?_
  rw [rounds_succ]; go_wp2
  rw [rounds_succ]; go_wp2
  rw [rounds_succ]; go_wp2
  rw [rounds_succ]; go_wp2
  rw [rounds_succ]; go_wp2
  refine bodyPost_ret (v := .agg #[.int .u8 ((v : Int) % 256), .int .u8 ((v : Int) / 256 % 256), .int .u8 ((v : Int) / 65536 % 256), .int .u8 ((v : Int) / 16777216)]) ?_ rfl ⟨rfl, ?_⟩
  · simp [results, Try.results48, go_sem]
  · exact ((Below.refl _ _).alloc (Nat.le_refl _) _).alloc (by simp) _
set_option maxRecDepth 100000 in
theorem put64_lit (v : Nat) (hv : v < 18446744073709551616) (w : World) :
    Calls Try.prog 34 #[.int .u64 v] w fun e w' => e = .returned (.agg #[.int .u8 ((v : Int) % 256), .int .u8 ((v : Int) / 256 % 256), .int .u8 ((v : Int) / 65536 % 256), .int .u8 ((v : Int) / 16777216 % 256),
      .int .u8 ((v : Int) / 4294967296 % 256), .int .u8 ((v : Int) / 1099511627776 % 256), .int .u8 ((v : Int) / 281474976710656 % 256), .int .u8 ((v : Int) / 72057594037927936)]) ∧ Below w.heap.size w w' := by
  go_enter Try.func34, Try.ntmps34
  go_wp2
  refine wp_loop_rounds 9 ?_
  rw [rounds_succ]; go_wp2
  rw [rounds_succ]; go_wp2
  rw [rounds_succ]; go_wp2
  rw [rounds_succ]; go_wp2
  rw [rounds_succ]; go_wp2
  rw [rounds_succ]; go_wp2
  rw [rounds_succ]; go_wp2
  rw [rounds_succ]; go_wp2
  rw [rounds_succ]; go_wp2
  refine bodyPost_ret (v := .agg #[.int .u8 ((v : Int) % 256), .int .u8 ((v : Int) / 256 % 256), .int .u8 ((v : Int) / 65536 % 256), .int .u8 ((v : Int) / 16777216 % 256),
      .int .u8 ((v : Int) / 4294967296 % 256), .int .u8 ((v : Int) / 1099511627776 % 256), .int .u8 ((v : Int) / 281474976710656 % 256), .int .u8 ((v : Int) / 72057594037927936)]) ?_ rfl ⟨rfl, ?_⟩
  · simp [results, Try.results34, go_sem]
  · exact ((Below.refl _ _).alloc (Nat.le_refl _) _).alloc (by simp) _
/-- Put32: the four bytes -/
theorem put32_any (v : Nat) (hv : v < 4294967296) (w : World) :
    Calls Try.prog 48 #[.int .u32 v] w fun e w' => e = .returned (.agg (byteCells (byteAt v) 4).toArray) ∧ Below w.heap.size w w' := by
  have h := put32_lit v hv w
  rw [bytes4 v hv] at h
  exact h
/-- Put64: the eight bytes -/
theorem put64_any (v : Nat) (hv : v < 18446744073709551616) (w : World) :
    Calls Try.prog 34 #[.int .u64 v] w fun e w' => e = .returned (.agg (byteCells (byteAt v) 8).toArray) ∧ Below w.heap.size w w' := by
  have h := put64_lit v hv w
  rw [bytes8 v hv] at h
  exact h
end Words
end Go.Proofs.Ytdhjgenijieeaaa

/-! from Turn -/
namespace Go.Proofs.Ytdhjgenijieeaaa
namespace Chacha
open Go.ChangeShapes Go.WideShapes Go.ChangeAt Go.RowKit
open Num Mem Words State
theorem grown_set (w : World) (g i : Nat) (v : Value) : w.grownBy (w.setCell ⟨g, i, none⟩ v) (some g) :=
  ⟨rfl, rfl, rfl, by simp [World.setCell], fun k _ hk => Below.heap_setCell w ⟨g, i, none⟩ v k (fun e => hk (by rw [e]))⟩
theorem grown_trans {a b c : World} {row : Option Nat} (h : a.grownBy b row) (k : b.grownBy c row) : a.grownBy c row :=
  ⟨k.os.trans h.os, k.tape.trans h.tape, k.output.trans h.output, Nat.le_trans h.size k.size, fun i hi hne => (k.block i (Nat.lt_of_lt_of_le hi h.size) hne).trans (h.block i hi hne)⟩
theorem grown_drewN (w : World) (g n : Nat) : w.grownBy (w.drewN n) (some g) := ⟨rfl, rfl, rfl, Nat.le_refl _, fun _ _ _ => rfl⟩
set_option maxRecDepth 100000 in
theorem turn_any (g to from_ by_ n : Nat) (s : List Nat) (hl : s.length = 16) (hf : Fits s) (h1 : to < 16) (h2 : from_ < 16) (h3 : by_ < 16) (hn : n ≤ 31) (w : World) (hw : Whole w g 98 (wcells s).toArray) :
    Calls Try.prog 62 #[.pointer (some ⟨g, 0, none⟩), .int .i64 to, .int .i64 from_, .int .i64 by_, .int .i64 n] w fun e w' => e = .returned (.tuple #[]) ∧ Whole w' g 98 (wcells (turn s to from_ by_ n)).toArray ∧ w.grownBy w' (some g) := by
  have c1 := hw.cell to
  have c2 := hw.cell from_
  have f1 := hw.free to
  rw [List.getElem?_toArray, wcells_get _ _ (by omega)] at c1 c2
  have b1 := hf to
  have b2 := hf from_
  have hz : ((s.getD to 0 : Nat) + (s.getD from_ 0 : Nat) : Int) % 4294967296 = (((s.getD to 0 + s.getD from_ 0) % 4294967296 : Nat) : Int) := by omega
  have hw1 := hw.put to (.int .u32 (((s.getD to 0 + s.getD from_ 0) % 4294967296 : Nat) : Int))
  have hg1 := grown_set w g to (.int .u32 (((s.getD to 0 + s.getD from_ 0) % 4294967296 : Nat) : Int))
  have hf1 : Fits (s.set to ((s.getD to 0 + s.getD from_ 0) % 4294967296)) := hf.set _ _ (Nat.mod_lt _ (by omega))
  have hl1 : (s.set to ((s.getD to 0 + s.getD from_ 0) % 4294967296)).length = 16 := by simp [hl]
  have ht : turn s to from_ by_ n = (s.set to ((s.getD to 0 + s.getD from_ 0) % 4294967296)).set by_ (rotl ((s.set to ((s.getD to 0 + s.getD from_ 0) % 4294967296)).getD by_ 0 ^^^ (s.set to ((s.getD to 0 + s.getD from_ 0) % 4294967296)).getD to 0) n) := rfl
  rw [ht]
  rw [wcells_set] at hw1
  generalize s.set to ((s.getD to 0 + s.getD from_ 0) % 4294967296) = t at hw1 hf1 hl1 ⊢
  have HZ := Lib.hid hz
  have HW1 := Lib.hid hw1
  have HG1 := Lib.hid hg1
  clear hz hw hl hf ht hw1 hg1
  generalize s.getD to 0 = x at c1 b1 HZ HW1 HG1
  generalize s.getD from_ 0 = y at c2 b2 HZ HW1 HG1
  have d1 := hf1 by_
  have d2 := hf1 to
  have k1 := wcells_get t by_ (by omega)
  have k2 := wcells_get t to (by omega)
  have HT := Lib.hid (wcells_set t by_ (rotl (t.getD by_ 0 ^^^ t.getD to 0) n))
  have hx32 : t.getD by_ 0 ^^^ t.getD to 0 < 2 ^ 32 := Nat.xor_lt_two_pow d1 d2
  have hxor := u32_xor_nat (t.getD by_ 0) (t.getD to 0) d1 d2
  clear hf1
  generalize t.getD by_ 0 = p at d1 k1 HT hx32 hxor ⊢
  generalize t.getD to 0 = q at d2 k2 HT hx32 hxor ⊢
  have K1 := Lib.hid k1
  have K2 := Lib.hid k2
  have HL1 := Lib.hid hl1
  clear k1 k2 hl1
  go_enter Try.func62, Try.ntmps62
  go_wp2
  go_region
  rw [HZ.out]
  have hw2 : Whole (w.setCell ⟨g, to, none⟩ (.int .u32 (((x + y) % 4294967296 : Nat) : Int))).drew g 98 (wcells t).toArray := HW1.out
  have hg2 : w.grownBy (w.setCell ⟨g, to, none⟩ (.int .u32 (((x + y) % 4294967296 : Nat) : Int))).drew (some g) := ⟨HG1.out.os, HG1.out.tape, HG1.out.output, HG1.out.size, HG1.out.block⟩
  generalize (w.setCell ⟨g, to, none⟩ (.int .u32 (((x + y) % 4294967296 : Nat) : Int))).drew = w2 at hw2 hg2 ⊢
  have e1 := hw2.cell by_
  have e2 := hw2.cell to
  have f2 := hw2.free by_
  rw [List.getElem?_toArray, K1.out] at e1
  rw [List.getElem?_toArray, K2.out] at e2
  have HW2 := Lib.hid hw2
  have HG2 := Lib.hid hg2
  clear hw2 hg2 c1 c2 f1
  go_wp2_with fail
  have i1 : (by_ : Int) < 16 := by omega
  have i2 : (to : Int) < 16 := by omega
  go_region_with (go_at_call 66; refine (rotate_any (p ^^^ q) n n (by omega) hx32 _).mono ?_; rintro e w3 ⟨rfl, k3, rfl⟩)
  all_goals go_wp2
  all_goals
    go_end0
    refine ⟨rfl, ?_, grown_trans HG2.out (grown_trans (grown_drewN w2 g _) (grown_set _ _ _ _))⟩
    have h := (HW2.out.drewN (1 + k3)).put by_ (.int .u32 (rotl (p ^^^ q) n : Nat))
    rw [HT.out] at h
    exact h
set_option maxRecDepth 100000 in
theorem quarter_any (g a b c d : Nat) (s : List Nat) (hl : s.length = 16) (hf : Fits s) (h1 : a < 16) (h2 : b < 16) (h3 : c < 16) (h4 : d < 16) (w : World) (hw : Whole w g 98 (wcells s).toArray) :
    Calls Try.prog 54 #[.pointer (some ⟨g, 0, none⟩), .int .i64 a, .int .i64 b, .int .i64 c, .int .i64 d] w fun e w' => e = .returned (.tuple #[]) ∧ Whole w' g 98 (wcells (quarter s a b c d)).toArray ∧ w.grownBy w' (some g) := by
  have HL := Lib.hid hl
  have HF := Lib.hid hf
  have HW := Lib.hid hw
  clear hl hf hw
  go_enter Try.func54, Try.ntmps54
  go_wp2_with fail
  refine (turn_any g a b d 16 s HL.out HF.out h1 h2 h4 (by omega) _ HW.out).mono ?_
  rintro e w1 ⟨rfl, q1, g1⟩
  have HQ1 := Lib.hid q1
  have HG1 := Lib.hid g1
  clear q1 g1
  go_wp2_with fail
  refine (turn_any g c d b 12 _ (by rw [turn_length]; exact HL.out) (turn_fits HF.out _ _ _ _ (by omega)) h3 h4 h2 (by omega) _ HQ1.out).mono ?_
  rintro e w2 ⟨rfl, q2, g2⟩
  have HQ2 := Lib.hid q2
  have HG2 := Lib.hid (grown_trans HG1.out g2)
  clear q2 g2
  go_wp2_with fail
  refine (turn_any g a b d 8 _ (by rw [turn_length, turn_length]; exact HL.out) (turn_fits (turn_fits HF.out _ _ _ _ (by omega)) _ _ _ _ (by omega)) h1 h2 h4 (by omega) _ HQ2.out).mono ?_
  rintro e w3 ⟨rfl, q3, g3⟩
  have HQ3 := Lib.hid q3
  have HG3 := Lib.hid (grown_trans HG2.out g3)
  clear q3 g3
  go_wp2_with fail
  refine (turn_any g c d b 7 _ (by rw [turn_length, turn_length, turn_length]; exact HL.out) (turn_fits (turn_fits (turn_fits HF.out _ _ _ _ (by omega)) _ _ _ _ (by omega)) _ _ _ _ (by omega)) h3 h4 h2 (by omega) _ HQ3.out).mono ?_
  rintro e w4 ⟨rfl, q4, g4⟩
  have HQ4 := Lib.hid q4
  have HG4 := Lib.hid (grown_trans HG3.out g4)
  clear q4 g4
  go_wp2_with fail
  go_end0
  exact ⟨rfl, HQ4.out, HG4.out⟩
set_option maxRecDepth 100000 in
theorem stir_any (g : Nat) (s : List Nat) (hl : s.length = 16) (hf : Fits s) (w : World) (hw : Whole w g 98 (wcells s).toArray) :
    Calls Try.prog 47 #[.pointer (some ⟨g, 0, none⟩)] w fun e w' => e = .returned (.tuple #[]) ∧ Whole w' g 98 (wcells (stir s)).toArray ∧ w.grownBy w' (some g) := by
  have HL := Lib.hid hl
  have HF := Lib.hid hf
  have HW := Lib.hid hw
  clear hl hf hw
  go_enter Try.func47, Try.ntmps47
  go_wp2_with fail
  go_loopw [2] (fun i wr => ∃ k : Nat, k ≤ 10 ∧ i = .int .i64 k ∧ Whole wr g 98 (wcells (rounds k s)).toArray ∧ w.grownBy wr (some g)) (fun i _ => 10 - (intOf i).toNat)
  case atStart => exact ⟨0, by omega, rfl, HW.out, World.grownBy.refl _ _⟩
  case round =>
    obtain ⟨k, hk, rfl, hq, hg⟩ := hrel
    have HQ := Lib.hid hq
    have HG := Lib.hid hg
    clear hq hg
    by_cases hlt : k < 10
    · have hsl : (rounds k s).length = 16 := by rw [rounds_length]; exact HL.out
      have hsf : Fits (rounds k s) := rounds_fits k HF.out
      generalize ht : rounds k s = t at HQ hsl hsf
      have HX : ∀ x, Whole x g 98 (wcells (two t)).toArray → Whole x g 98 (wcells (rounds (k + 1) s)).toArray := fun x hx => by rw [← ht] at hx; exact hx
      have HSL := Lib.hid hsl
      have HSF := Lib.hid hsf
      have HT := Lib.hid HX
      clear hsl hsf ht HX
      go_wp2_with fail
      refine (quarter_any g 0 4 8 12 _ HSL.out HSF.out (by omega) (by omega) (by omega) (by omega) _ HQ.out).mono ?_
      rintro e w1 ⟨rfl, q1, g1⟩
      have HQ1 := Lib.hid q1
      have HG1 := Lib.hid (grown_trans HG.out g1)
      have HF1 := Lib.hid (quarter_fits HSF.out 0 4 8 12)
      have HL1 := Lib.hid ((quarter_length t 0 4 8 12).trans HSL.out)
      clear q1 g1
      go_wp2_with fail
      refine (quarter_any g 1 5 9 13 _ HL1.out HF1.out (by omega) (by omega) (by omega) (by omega) _ HQ1.out).mono ?_
      rintro e w2 ⟨rfl, q2, g2⟩
      have HQ2 := Lib.hid q2
      have HG2 := Lib.hid (grown_trans HG1.out g2)
      have HF2 := Lib.hid (quarter_fits HF1.out 1 5 9 13)
      have HL2 := Lib.hid ((quarter_length _ 1 5 9 13).trans HL1.out)
      clear q2 g2
      go_wp2_with fail
      refine (quarter_any g 2 6 10 14 _ HL2.out HF2.out (by omega) (by omega) (by omega) (by omega) _ HQ2.out).mono ?_
      rintro e w3 ⟨rfl, q3, g3⟩
      have HQ3 := Lib.hid q3
      have HG3 := Lib.hid (grown_trans HG2.out g3)
      have HF3 := Lib.hid (quarter_fits HF2.out 2 6 10 14)
      have HL3 := Lib.hid ((quarter_length _ 2 6 10 14).trans HL2.out)
      clear q3 g3
      go_wp2_with fail
      refine (quarter_any g 3 7 11 15 _ HL3.out HF3.out (by omega) (by omega) (by omega) (by omega) _ HQ3.out).mono ?_
      rintro e w4 ⟨rfl, q4, g4⟩
      have HQ4 := Lib.hid q4
      have HG4 := Lib.hid (grown_trans HG3.out g4)
      have HF4 := Lib.hid (quarter_fits HF3.out 3 7 11 15)
      have HL4 := Lib.hid ((quarter_length _ 3 7 11 15).trans HL3.out)
      clear q4 g4
      go_wp2_with fail
      refine (quarter_any g 0 5 10 15 _ HL4.out HF4.out (by omega) (by omega) (by omega) (by omega) _ HQ4.out).mono ?_
      rintro e w5 ⟨rfl, q5, g5⟩
      have HQ5 := Lib.hid q5
      have HG5 := Lib.hid (grown_trans HG4.out g5)
      have HF5 := Lib.hid (quarter_fits HF4.out 0 5 10 15)
      have HL5 := Lib.hid ((quarter_length _ 0 5 10 15).trans HL4.out)
      clear q5 g5
      go_wp2_with fail
      refine (quarter_any g 1 6 11 12 _ HL5.out HF5.out (by omega) (by omega) (by omega) (by omega) _ HQ5.out).mono ?_
      rintro e w6 ⟨rfl, q6, g6⟩
      have HQ6 := Lib.hid q6
      have HG6 := Lib.hid (grown_trans HG5.out g6)
      have HF6 := Lib.hid (quarter_fits HF5.out 1 6 11 12)
      have HL6 := Lib.hid ((quarter_length _ 1 6 11 12).trans HL5.out)
      clear q6 g6
      go_wp2_with fail
      refine (quarter_any g 2 7 8 13 _ HL6.out HF6.out (by omega) (by omega) (by omega) (by omega) _ HQ6.out).mono ?_
      rintro e w7 ⟨rfl, q7, g7⟩
      have HQ7 := Lib.hid q7
      have HG7 := Lib.hid (grown_trans HG6.out g7)
      have HF7 := Lib.hid (quarter_fits HF6.out 2 7 8 13)
      have HL7 := Lib.hid ((quarter_length _ 2 7 8 13).trans HL6.out)
      clear q7 g7
      go_wp2_with fail
      refine (quarter_any g 3 4 9 14 _ HL7.out HF7.out (by omega) (by omega) (by omega) (by omega) _ HQ7.out).mono ?_
      rintro e w8 ⟨rfl, q8, g8⟩
      have HQ8 := Lib.hid q8
      have HG8 := Lib.hid (grown_trans HG7.out g8)
      have HF8 := Lib.hid (quarter_fits HF7.out 3 4 9 14)
      have HL8 := Lib.hid ((quarter_length _ 3 4 9 14).trans HL7.out)
      clear q8 g8
      go_wp2_with fail
      go_roundw
      case rel => exact ⟨k + 1, by omega, by go_num, HT.out _ HQ8.out, HG8.out⟩
      case measure => simp [intOf]; omega
    · obtain rfl : k = 10 := by omega
      go_wp2_with fail
      go_end0
      exact ⟨rfl, HQ.out, HG.out⟩
end Chacha
end Go.Proofs.Ytdhjgenijieeaaa

/-! from First -/
namespace Go.Proofs.Ytdhjgenijieeaaa
namespace Chacha
open Go.ChangeShapes Go.WideShapes Go.ChangeAt Go.RowKit
open Num Mem Words State
def fill (f : Nat → Nat) (k : Nat) : List Nat := [1634760805, 857760878, 2036477234, 1797285236] ++ nums f 0 k ++ List.replicate (12 - k) 0
theorem fill_set (f : Nat → Nat) (k : Nat) (h : k < 8) : (fill f k).set (4 + k) (le f (4 * k) 4) = fill f (k + 1) := by
  match k, h with
  | 0, _ => rfl
  | 1, _ => rfl
  | 2, _ => rfl
  | 3, _ => rfl
  | 4, _ => rfl
  | 5, _ => rfl
  | 6, _ => rfl
  | 7, _ => rfl
theorem fill_length (f : Nat → Nat) (k : Nat) (h : k ≤ 8) : (fill f k).length = 16 := by simp [fill, nums]; omega
theorem first_size (f : Nat → Nat) (x0 x1 x2 x3 : Nat) : (wcells (first f [x0, x1, x2, x3])).toArray.size = 16 := by simp [wcells, first, nums]
theorem wcells_one (s : List Nat) : (wcells s).toArray.all (·.oneCell') = true := by
  simp [wcells, Value.oneCell']
set_option maxRecDepth 100000 in
theorem number_any (b off n c : Nat) (f : Nat → Nat) (hf : ∀ i, f i < 256) (i : Nat) (h : 4 * i + 4 ≤ n) (hn : n ≤ 1000000) (w : World)
    (hc : ∀ i, i < n → w.cell? ⟨b, off + i, none⟩ = some (.int .u8 (f i))) :
    Calls Try.prog 46 #[.slice (some ⟨b, off, none⟩) n c, .int .i64 i] w fun e w' => e = .returned (.int .u32 (le f (4 * i) 4)) ∧ w = w' := by
  have HC := Lib.hid hc
  have HF := Lib.hid hf
  clear hc hf
  have e := Lib.hid (show (4 * (i : Int)) = ((4 * i : Nat) : Int) by omega)
  go_enter Try.func46, Try.ntmps46
  go_wp2_with fail
  rw [e.out]
  refine (load32_ok b off n c f HF.out (4 * i) h (by omega) _ HC.out).mono ?_
  rintro e w1 ⟨rfl, rfl⟩
  go_wp2_with fail
  go_ret
  exact ⟨rfl, rfl⟩
set_option maxRecDepth 100000 in
theorem first_any (f : Nat → Nat) (hf : ∀ i, f i < 256) (x0 x1 x2 x3 : Nat) (w : World) :
    Calls Try.prog 45 #[.agg (byteCells f 32).toArray, .agg #[.int .u32 x0, .int .u32 x1, .int .u32 x2, .int .u32 x3]] w fun e w' => e = .returned (.agg (wcells (first f [x0, x1, x2, x3])).toArray) ∧ Below w.heap.size w w' := by
  have HF := Lib.hid hf
  clear hf
  rw [byteCells_lit32]
  go_enter Try.func45, Try.ntmps45
  go_wp2_with fail
  refine cut_world (fun W => Whole W w.heap.size 24 (byteCells f 32).toArray ∧ Whole W (w.heap.size + 1) 101 (wcells [x0, x1, x2, x3]).toArray ∧ Whole W (w.heap.size + 1 + 1) 98 (wcells (List.replicate 16 0)).toArray ∧ Whole W (w.heap.size + 1 + 1 + 1) 98 (wcells (fill f 0)).toArray ∧ Below w.heap.size w W) ⟨?_, ?_, ?_, ?_, ?_⟩ ?_
  · rw [byteCells_lit32]
    exact (((whole_new _ _ rfl).alloc _).alloc _).alloc _
  · exact ((whole_new _ _ (by simp)).alloc _).alloc _
  · exact (whole_new _ _ (by simp)).alloc _
  · exact whole_new _ _ (by simp)
  · exact below_alloc (below_alloc (below_alloc (below_alloc (Below.refl _ _) _) _) _) _
  rintro W ⟨k1, k2, k3, k4, kb⟩
  have K1 := Lib.hid k1
  have K2 := Lib.hid k2
  have K3 := Lib.hid k3
  have K4 := Lib.hid k4
  have KB := Lib.hid kb
  clear k1 k2 k3 k4 kb
  generalize hB : w.heap.size = B at K1 K2 K3 K4 KB ⊢
  go_loopw [8] (fun i wr => ∃ k : Nat, k ≤ 8 ∧ i = .int .i64 k ∧ Whole wr (B + 1 + 1 + 1) 98 (wcells (fill f k)).toArray ∧ W.grownBy wr (some (B + 1 + 1 + 1))) (fun i _ => 8 - (intOf i).toNat)
  case atStart => exact ⟨0, by omega, rfl, K4.out, World.grownBy.refl _ _⟩
  case round =>
    obtain ⟨k, hk, rfl, hq, hg⟩ := hrel
    by_cases hlt : k < 8
    · have HQ := Lib.hid hq
      have HG := Lib.hid hg
      have c1 := hq.cell (4 + k)
      have f1 := hq.free (4 + k)
      rw [List.getElem?_toArray, wcells_get _ _ (by rw [fill_length f k hk]; omega)] at c1
      have e1 := fill_set f k hlt
      have HE := Lib.hid e1
      have HK := Lib.hid (whole_grown K1.out hg (by omega))
      clear hq hg e1
      go_wp2_with fail
      refine (number_any B 0 32 32 f HF.out k (by omega) (by omega) _ (fun i hi => HK.out.bytes i hi)).mono ?_
      rintro e w1 ⟨rfl, rfl⟩
      go_wp2_with fail
      go_roundw
      case rel =>
        refine ⟨k + 1, by omega, by go_num, ?_, grown_trans HG.out (grown_set _ _ _ _)⟩
        have h := HQ.out.put (4 + k) (.int .u32 (le f (4 * k) 4 : Nat))
        rw [wcells_set, HE.out] at h
        exact h
      case measure => simp [intOf]; omega
    · obtain rfl : k = 8 := by omega
      have KB2 := Lib.hid (below_grown KB.out hg (by omega) (by have := KB.out.size; omega))
      have K2' := Lib.hid (whole_grown K2.out hg (by omega))
      have K3' := Lib.hid (whole_grown K3.out hg (by omega))
      have HQ := Lib.hid hq
      have HS := Lib.hid (row_reads K2'.out)
      have hb0 := below_drewN (B := B + 1 + 1 + 1) (Below.refl (B + 1 + 1 + 1) wr) 1
      clear hq hg
      go_wp2_with fail
      go_region_law (refine step_copy_splice rfl (.tmp 18) (.tmp 19) 37 37 rfl 25 rfl (by kernel_rfl) (some ⟨B + 1 + 1 + 1, 12, none⟩) (some ⟨B + 1, 0, none⟩) 4 4 4 4 rfl rfl (B + 1 + 1 + 1) 12 (wcells (fill f 8)) 98 HQ.out (wcells [x0, x1, x2, x3]) rfl (fun _ => ⟨rfl, _, rfl, HS.out⟩) (by simp [wcells, fill, nums]) (by simp [wcells, Value.oneCell']) (B + 1 + 1 + 1) wr hb0 (Nat.le_refl _) ?_; intro w4 hg4 hb4)
      have k4 : Whole w4 (B + 1 + 1 + 1) 98 (wcells (first f [x0, x1, x2, x3])).toArray := hg4.out
      have K4' := Lib.hid k4
      have K3'' := Lib.hid (K3'.out.below hb4 (by omega))
      have HB4 := Lib.hid (below_setRow (KB2.out.trans (hb4.mono (by omega))) (show B ≤ B + 1 + 1 by omega) (wcells (first f [x0, x1, x2, x3])).toArray)
      have hsz := Lib.hid (first_size f x0 x1 x2 x3)
      clear hg4 hb4 k4 hb0
      go_wp2_with (first | (refine wpList_load_row rfl 98 (.tmp 5) rfl (B + 1 + 1 + 1) rfl 98 (wcells (first f [x0, x1, x2, x3])).toArray (0, 0) _ K4'.out rfl rfl (by rw [hsz.out]; kernel_rfl) ?_) | (refine wpList_store_row rfl 98 (.tmp 4) (.tmp 21) rfl (B + 1 + 1) (wcells (first f [x0, x1, x2, x3])).toArray rfl rfl 98 _ K3''.out (by rw [hsz.out]; kernel_rfl) (by rw [hsz.out]; rfl) (wcells_one _) ?_))
      have hret : Whole (w4.setRow (B + 1 + 1) (wcells (first f [x0, x1, x2, x3])).toArray) (B + 1 + 1) 98 (wcells (first f [x0, x1, x2, x3])).toArray := setRow_heap w4 _ _ _ _ _ K3''.out
      refine bodyPost_ret (results_cell_row rfl _ _ (B + 1 + 1) 98 _ (0, 0) _ rfl hret rfl rfl (by rw [hsz.out]; kernel_rfl)) rfl ?_
      exact ⟨rfl, by rw [hB]; exact HB4.out⟩
end Chacha
end Go.Proofs.Ytdhjgenijieeaaa

/-! from Block -/
namespace Go.Proofs.Ytdhjgenijieeaaa
namespace Chacha
open Go.ChangeShapes Go.WideShapes Go.ChangeAt Go.RowKit
open Num Mem Words State Quiet
/-- the sixteen numbers of a block -/
def sums (key : Nat → Nat) (four : List Nat) (i : Nat) : Nat := ((stir (first key four)).getD i 0 + (first key four).getD i 0) % 4294967296
/-- a block, byte by byte -/
def blk (key nonce : Nat → Nat) (ctr j : Nat) : Nat := byteAt (sums key [ctr, le nonce 0 4, le nonce 4 4, le nonce 8 4] (j / 4)) (j % 4)
theorem fits_mem {s : List Nat} (h : ∀ x ∈ s, x < 4294967296) : Fits s := by
  intro i
  by_cases hi : i < s.length
  · rw [List.getD_eq_getElem?_getD, List.getElem?_eq_getElem hi]
    exact h _ (List.getElem_mem hi)
  · rw [List.getD_eq_getElem?_getD, List.getElem?_eq_none (by omega)]
    exact (by omega : (0 : Nat) < 4294967296)
theorem first_fits (key : Nat → Nat) (hk : ∀ i, key i < 256) (a b c d : Nat) (h1 : a < 4294967296) (h2 : b < 4294967296) (h3 : c < 4294967296) (h4 : d < 4294967296) : Fits (first key [a, b, c, d]) := by
  refine fits_mem fun x hx => ?_
  have hl := le_lt hk
  simp only [first, nums, List.mem_append, List.mem_cons, List.not_mem_nil, or_false, List.mem_map] at hx
  rcases hx with ((rfl | rfl | rfl | rfl) | ⟨i, _, rfl⟩) | rfl | rfl | rfl | rfl
  · omega
  · omega
  · omega
  · omega
  · exact hl _ 4
  all_goals assumption
theorem wcells_size (s : List Nat) (h : s.length = 16) : (wcells s).toArray.size = 16 := by simp [wcells, h]
/-- the first n of G, noughts behind -/
def bpart (G : Nat → Nat) (n j : Nat) : Nat := if j < n then G j else 0
set_option maxRecDepth 100000 in
theorem block_any (key nonce : Nat → Nat) (hk : ∀ i, key i < 256) (hn : ∀ i, nonce i < 256) (ctr : Nat) (hc : ctr < 4294967296) (w : World) :
    Calls Try.prog 41 #[.agg (byteCells key 32).toArray, .agg (byteCells nonce 12).toArray, .int .u32 ctr] w fun e w' => e = .returned (.agg (byteCells (blk key nonce ctr) 64).toArray) ∧ Below w.heap.size w w' := by
  have HKF := Lib.hid hk
  have HNF := Lib.hid hn
  clear hk hn
  rw [byteCells_lit32, byteCells_lit12]
  go_enter Try.func41, Try.ntmps41
  go_wp2_with fail
  refine cut_world (fun W => Whole W w.heap.size 24 (byteCells key 32).toArray ∧ Whole W (w.heap.size + 1) 76 (byteCells nonce 12).toArray ∧ Whole W (w.heap.size + 1 + 1) 92 (byteCells (fun _ => 0) 64).toArray ∧ Below w.heap.size w W) ⟨?_, ?_, ?_, ?_⟩ ?_
  · rw [byteCells_lit32]
    exact ((whole_new _ _ rfl).alloc _).alloc _
  · rw [byteCells_lit12]
    exact (whole_new _ _ (by simp)).alloc _
  · rw [byteCells_lit64]
    exact whole_new _ _ (by simp)
  · exact below_alloc (below_alloc (below_alloc (Below.refl _ _) _) _) _
  rintro W ⟨k1, k2, k3, kb⟩
  have HK := Lib.hid k1
  have HN := Lib.hid k2
  have HR := Lib.hid k3
  have HB := Lib.hid kb
  clear k1 k2 k3 kb
  generalize hB : w.heap.size = B at HK HN HR HB ⊢
  refine region_start (fun w' => Below W.heap.size W w') (by kernel_rfl) (below_drewN (Below.refl _ _) 1) ?_
  intro w0 hS
  refine take 0 _ rfl (by kernel_rfl) (by kernel_rfl) (by kernel_rfl) (fun _ _ _ h => h) (by rfl) hS (fun w hw => run_load_op 24 (.tmp 3) rfl (B) rfl (HK.out.below hw HK.out.lt) rfl rfl (by kernel_rfl)) ?_
  try simp only [Act.put, List.setIfInBounds_toArray, List.set_cons_zero, List.set_cons_succ]
  refine take 1 _ rfl (by kernel_rfl) (by kernel_rfl) (by kernel_rfl) (fun _ _ _ h => h) (by rfl) hS (by intro w _; go_simp; with_reducible rfl) ?_
  try simp only [Act.put, List.setIfInBounds_toArray, List.set_cons_zero, List.set_cons_succ]
  refine take 2 _ rfl (by kernel_rfl) (by kernel_rfl) (by kernel_rfl) (fun _ _ _ h => h) (by rfl) hS (by intro w _; go_simp; with_reducible rfl) ?_
  try simp only [Act.put, List.setIfInBounds_toArray, List.set_cons_zero, List.set_cons_succ]
  refine take_call 3 (.int .u32 (le nonce 0 4 : Nat)) 46 (#[.slice (some ⟨B + 1, 0, none⟩) 12 12, .int .i64 0]) rfl (by kernel_rfl) (by kernel_rfl) (by kernel_rfl) (fun _ _ _ h => h) (by rfl) hS (by intro w; go_simp; try with_reducible rfl) (fun w hw => number_any (B + 1) 0 12 12 nonce HNF.out 0 (by omega) (by omega) _ (fun i hi => (HN.out.below hw HN.out.lt).bytes i hi)) ?_
  try simp only [Act.put, List.setIfInBounds_toArray, List.set_cons_zero, List.set_cons_succ]
  refine take 4 _ rfl (by kernel_rfl) (by kernel_rfl) (by kernel_rfl) (fun _ _ _ h => h) (by rfl) hS (by intro w _; go_simp; with_reducible rfl) ?_
  try simp only [Act.put, List.setIfInBounds_toArray, List.set_cons_zero, List.set_cons_succ]
  refine take_call 5 (.int .u32 (le nonce 4 4 : Nat)) 46 (#[.slice (some ⟨B + 1, 0, none⟩) 12 12, .int .i64 1]) rfl (by kernel_rfl) (by kernel_rfl) (by kernel_rfl) (fun _ _ _ h => h) (by rfl) hS (by intro w; go_simp; try with_reducible rfl) (fun w hw => number_any (B + 1) 0 12 12 nonce HNF.out 1 (by omega) (by omega) _ (fun i hi => (HN.out.below hw HN.out.lt).bytes i hi)) ?_
  try simp only [Act.put, List.setIfInBounds_toArray, List.set_cons_zero, List.set_cons_succ]
  refine take 6 _ rfl (by kernel_rfl) (by kernel_rfl) (by kernel_rfl) (fun _ _ _ h => h) (by rfl) hS (by intro w _; go_simp; with_reducible rfl) ?_
  try simp only [Act.put, List.setIfInBounds_toArray, List.set_cons_zero, List.set_cons_succ]
  refine take_call 7 (.int .u32 (le nonce 8 4 : Nat)) 46 (#[.slice (some ⟨B + 1, 0, none⟩) 12 12, .int .i64 2]) rfl (by kernel_rfl) (by kernel_rfl) (by kernel_rfl) (fun _ _ _ h => h) (by rfl) hS (by intro w; go_simp; try with_reducible rfl) (fun w hw => number_any (B + 1) 0 12 12 nonce HNF.out 2 (by omega) (by omega) _ (fun i hi => (HN.out.below hw HN.out.lt).bytes i hi)) ?_
  try simp only [Act.put, List.setIfInBounds_toArray, List.set_cons_zero, List.set_cons_succ]
  refine take 8 _ rfl (by kernel_rfl) (by kernel_rfl) (by kernel_rfl) (fun _ _ _ h => h) (by rfl) hS (by intro w _; go_simp; with_reducible rfl) ?_
  try simp only [Act.put, List.setIfInBounds_toArray, List.set_cons_zero, List.set_cons_succ]
  refine call_alloc_store 9 10 11 45 _ 98 21 7 (wcells (List.replicate 16 0)).toArray (wcells (first key [ctr, le nonce 0 4, le nonce 4 4, le nonce 8 4])).toArray rfl rfl rfl (by kernel_rfl) (by kernel_rfl) (by kernel_rfl) (by kernel_rfl) (by kernel_rfl) (by decide) rfl rfl rfl rfl rfl rfl (by decide) (by simp) (by simp) rfl (by intro a w; go_simp; rfl) (by rw [first_size]; kernel_rfl) (by rw [first_size]; rfl) (wcells_one _) (by intro w; go_simp) (by intro p w; go_simp) (fun w hw => first_any key HKF.out ctr _ _ _ w) hS ?_
  intro g7 w1 hg7 h7 hb1
  simp only [Act.put, List.setIfInBounds_toArray, List.set_cons_zero, List.set_cons_succ]
  have l6 := HR.out.lt
  have l7 := h7.lt
  have H7 := Lib.hid h7
  have HR1 := Lib.hid (HR.out.below hb1 HR.out.lt)
  have HB1 := Lib.hid (HB.out.trans (hb1.mono (by have := HB.out.size; omega)))
  have hs1 : B ≤ w1.heap.size := by have := HB1.out.size; omega
  have hlen : (first key [ctr, le nonce 0 4, le nonce 4 4, le nonce 8 4]).length = 16 := by simp [first, nums]
  have hfits : Fits (first key [ctr, le nonce 0 4, le nonce 4 4, le nonce 8 4]) := first_fits key HKF.out ctr _ _ _ hc (le_lt HNF.out 0 4) (le_lt HNF.out 4 4) (le_lt HNF.out 8 4)
  have hsum : ∀ j, blk key nonce ctr j = byteAt (((stir (first key [ctr, le nonce 0 4, le nonce 4 4, le nonce 8 4])).getD (j / 4) 0 + (first key [ctr, le nonce 0 4, le nonce 4 4, le nonce 8 4]).getD (j / 4) 0) % 4294967296) (j % 4) := fun _ => rfl
  generalize first key [ctr, le nonce 0 4, le nonce 4 4, le nonce 8 4] = F at H7 hlen hfits hsum ⊢
  have HL := Lib.hid hlen
  have HF := Lib.hid hfits
  have HS := Lib.hid hsum
  have hsz := Lib.hid (wcells_size F HL.out)
  clear h7 hb1 hlen hfits hsum hS HK HN HR HB
  go_wp2_with (first | (refine wpList_load_row rfl 98 (.tmp 7) rfl g7 rfl 98 (wcells F).toArray (0, 0) _ H7.out rfl rfl (by rw [hsz.out]; kernel_rfl) ?_) | (refine wpList_store_row rfl 98 (.tmp 8) (.tmp 22) rfl w1.heap.size (wcells F).toArray rfl rfl 98 _ (Whole.new _ _ _) (by rw [hsz.out]; kernel_rfl) (by rw [hsz.out]; rfl) (wcells_one _) ?_))
  refine (stir_any w1.heap.size F HL.out HF.out _ (setRow_heap _ _ _ _ _ _ (Whole.new _ _ _))).mono ?_
  rintro e w2 ⟨rfl, h8, hg⟩
  have h7' := whole_grown (Whole.farRow (H7.out.alloc _) (Nat.ne_of_lt l7) _) hg (Nat.ne_of_gt l7)
  have hr' := whole_grown (Whole.farRow (HR1.out.alloc _) (Nat.ne_of_lt HR1.out.lt) _) hg (Nat.ne_of_gt HR1.out.lt)
  have hb' := below_grown (below_setRow (below_alloc' HB1.out hs1 _) hs1 _) hg hs1 (by simp [World.setRow]; omega)
  generalize w1.heap.size = g8 at h8 h7' hr' hb' l7 ⊢
  have l8 := h8.lt
  have H8 := Lib.hid h8
  have H7' := Lib.hid h7'
  have HR' := Lib.hid hr'
  have HB' := Lib.hid hb'
  clear h8 h7' hr' hb' hg H7 HR1 HB1
  go_wp2_with fail
  refine cut_world (fun X => Whole X g7 98 (wcells F).toArray ∧ Whole X g8 98 (wcells (stir F)).toArray ∧ Whole X (B + 1 + 1) 92 (byteCells (fun _ => 0) 64).toArray ∧ Whole X w2.heap.size 92 (byteCells (fun _ => 0) 64).toArray ∧ Below B w X) ⟨H7'.out.alloc _, H8.out.alloc _, HR'.out.alloc _, ?_, below_alloc' HB'.out (by have := HB'.out.size; omega) _⟩ ?_
  · rw [byteCells_lit64]
    exact Whole.new _ _ _
  rintro X ⟨x7, x8, x6, x9, xb⟩
  generalize w2.heap.size = g9 at x9 l8 ⊢
  have X7 := Lib.hid x7
  have X8 := Lib.hid x8
  have X6 := Lib.hid x6
  have X9 := Lib.hid x9
  have XB := Lib.hid xb
  clear x7 x8 x6 x9 xb H7' H8 HR' HB'
  go_loopw [24] (fun i wr => ∃ k : Nat, k ≤ 16 ∧ i = .int .i64 k ∧ Whole wr g7 98 (wcells F).toArray ∧ Whole wr g8 98 (wcells (stir F)).toArray ∧ Whole wr (B + 1 + 1) 92 (byteCells (fun _ => 0) 64).toArray ∧ Whole wr g9 92 (byteCells (bpart (blk key nonce ctr) (4 * k)) 64).toArray ∧ Below B w wr) (fun i _ => 16 - (intOf i).toNat)
  case atStart => exact ⟨0, by omega, rfl, X7.out, X8.out, X6.out, X9.out, XB.out⟩
  case round =>
    obtain ⟨k, hk, rfl, q7, q8, q6, q9, qb⟩ := hrel
    by_cases hlt : k < 16
    · have c7 : ∀ x, Below wr.heap.size wr x → x.cell? ⟨g7, k, none⟩ = some (.int .u32 (F.getD k 0 : Nat)) := fun x hx => by
        rw [(q7.below hx q7.lt).cell, List.getElem?_toArray, wcells_get _ _ (by rw [HL.out]; omega)]
      have c8 : ∀ x, Below wr.heap.size wr x → x.cell? ⟨g8, k, none⟩ = some (.int .u32 ((stir F).getD k 0 : Nat)) := fun x hx => by
        rw [(q8.below hx q8.lt).cell, List.getElem?_toArray, wcells_get _ _ (by rw [stir, rounds_length, HL.out]; omega)]
      have hsum : ∀ i, i < 4 → blk key nonce ctr (4 * k + i) = byteAt (((stir F).getD k 0 + F.getD k 0) % 4294967296) i := fun i hi => by
        rw [HS.out, show (4 * k + i) / 4 = k by omega, show (4 * k + i) % 4 = i by omega]
      have b7 : F.getD k 0 < 4294967296 := HF.out k
      have b8 : (stir F).getD k 0 < 4294967296 := rounds_fits 10 HF.out k
      generalize F.getD k 0 = y at c7 hsum b7
      generalize (stir F).getD k 0 = x at c8 hsum b8
      have hz : IntKind.u32.wrap ((x : Int) + (y : Int)) = (((x + y) % 4294967296 : Nat) : Int) := by rw [IntKind.wrap_u32]; omega
      have HZ := Lib.hid hz
      have hz32 : (x + y) % 4294967296 < 4294967296 := Nat.mod_lt _ (by omega)
      generalize (x + y) % 4294967296 = z at HZ hsum hz32
      have C7 := Lib.hid c7
      have C8 := Lib.hid c8
      have Q7 := Lib.hid q7
      have Q8 := Lib.hid q8
      have Q6 := Lib.hid q6
      have Q9 := Lib.hid q9
      have QB := Lib.hid qb
      have HSUM := Lib.hid hsum
      clear c7 c8 q7 q8 q6 q9 qb hsum hz
      go_wp2_with fail
      have hk16 : (k : Int) < 16 := by omega
      refine region_start (fun w' => Below wr.heap.size wr w') (by kernel_rfl) (below_drewN (Below.refl _ _) 1) ?_
      intro w3 hS
      refine take 0 _ rfl (by kernel_rfl) (by kernel_rfl) (by kernel_rfl) (fun _ _ _ h => h) (by rfl) hS (by intro w _; go_simp; with_reducible rfl) ?_
      try simp only [Act.put, List.setIfInBounds_toArray, List.set_cons_zero, List.set_cons_succ]
      refine take 1 _ rfl (by kernel_rfl) (by kernel_rfl) (by kernel_rfl) (fun _ _ _ h => h) (by rfl) hS (by intro w _; go_simp; with_reducible rfl) ?_
      try simp only [Act.put, List.setIfInBounds_toArray, List.set_cons_zero, List.set_cons_succ]
      refine take 2 _ rfl (by kernel_rfl) (by kernel_rfl) (by kernel_rfl) (fun _ _ _ h => h) (by rfl) hS (by intro w hw; have hcl := C8.out w hw; go_simp; with_reducible rfl) ?_
      try simp only [Act.put, List.setIfInBounds_toArray, List.set_cons_zero, List.set_cons_succ]
      refine take 3 _ rfl (by kernel_rfl) (by kernel_rfl) (by kernel_rfl) (fun _ _ _ h => h) (by rfl) hS (by intro w _; go_simp; with_reducible rfl) ?_
      try simp only [Act.put, List.setIfInBounds_toArray, List.set_cons_zero, List.set_cons_succ]
      refine take 4 _ rfl (by kernel_rfl) (by kernel_rfl) (by kernel_rfl) (fun _ _ _ h => h) (by rfl) hS (by intro w _; go_simp; with_reducible rfl) ?_
      try simp only [Act.put, List.setIfInBounds_toArray, List.set_cons_zero, List.set_cons_succ]
      refine take 5 _ rfl (by kernel_rfl) (by kernel_rfl) (by kernel_rfl) (fun _ _ _ h => h) (by rfl) hS (by intro w hw; have hcl := C7.out w hw; go_simp; with_reducible rfl) ?_
      try simp only [Act.put, List.setIfInBounds_toArray, List.set_cons_zero, List.set_cons_succ]
      refine take 6 _ rfl (by kernel_rfl) (by kernel_rfl) (by kernel_rfl) (fun _ _ _ h => h) (by rfl) hS (by intro w _; go_simp; with_reducible rfl) ?_
      try simp only [Act.put, List.setIfInBounds_toArray, List.set_cons_zero, List.set_cons_succ]
      rw [HZ.out]
      refine call_alloc_store 7 8 9 48 _ 102 34 11 (byteCells (fun _ => 0) 4).toArray (byteCells (byteAt z) 4).toArray rfl rfl rfl (by kernel_rfl) (by kernel_rfl) (by kernel_rfl) (by kernel_rfl) (by kernel_rfl) (by decide) rfl rfl rfl rfl rfl rfl (by decide) (by simp) (by simp) rfl (by intro a w; go_simp; rfl) (by kernel_rfl) rfl (bytes_one _ _) (by intro w; go_simp) (by intro p w; go_simp) (fun w hw => put32_any z hz32 w) hS ?_
      intro g11 w4 hg11 h11 hb4
      simp only [Act.put, List.setIfInBounds_toArray, List.set_cons_zero, List.set_cons_succ]
      have l11 : g9 < g11 := Nat.lt_of_lt_of_le Q9.out.lt hg11
      have Q7' := Lib.hid (Q7.out.below hb4 Q7.out.lt)
      have Q8' := Lib.hid (Q8.out.below hb4 Q8.out.lt)
      have Q6' := Lib.hid (Q6.out.below hb4 Q6.out.lt)
      have Q9' := Lib.hid (Q9.out.below hb4 Q9.out.lt)
      have H11 := Lib.hid (row_reads h11)
      have hs4 : B ≤ wr.heap.size := by have := Q9.out.lt; omega
      have QB' := Lib.hid (QB.out.trans (hb4.mono hs4))
      have hb0 := below_drewN (B := g9) (Below.refl g9 w4) 1
      have m1 : IntKind.i64.wrap (4 * (k : Int)) = 4 * (k : Int) := by rw [IntKind.wrap_i64]; omega
      have m2 : (4 * (k : Int)).toNat = 4 * k := by omega
      have m3 : 4 * (k : Int) ≤ 64 := by omega
      have m4 : 0 ≤ 4 * (k : Int) := by omega
      have m5 : ¬ 64 = 4 * k := by omega
      clear h11 hb4 hS Q7 Q8 Q6 Q9 C7 C8 QB
      go_wp2_with fail
      go_region_law (refine step_copy_splice rfl (.tmp 37) (.tmp 38) 38 38 rfl 5 rfl (by kernel_rfl) (some ⟨g9, 4 * k, none⟩) (some ⟨g11, 0, none⟩) (64 - 4 * k) (64 - 4 * k) 4 4 rfl rfl g9 (4 * k) (byteCells (bpart (blk key nonce ctr) (4 * k)) 64) 92 Q9'.out (byteCells (byteAt z) 4) (by rw [byteCells_length]; exact (Nat.min_eq_left (by omega)).symm) (fun _ => ⟨rfl, _, rfl, H11.out⟩) (by rw [byteCells_length, byteCells_length]; omega) (bytes_each _ _) g9 w4 hb0 (Nat.le_refl _) ?_; intro w5 hg5 hb5)
      have hg5' : Whole w5 g9 92 (byteCells (bpart (blk key nonce ctr) (4 * (k + 1))) 64).toArray := by
        have h := hg5.out
        rw [byteCells_splice (bpart (blk key nonce ctr) (4 * k)) (byteAt z) (bpart (blk key nonce ctr) (4 * (k + 1))) 64 (4 * k) 4 (by omega) (fun i hi => by
          unfold bpart
          by_cases c1 : 4 * k ≤ i ∧ i < 4 * k + 4
          · rw [if_pos c1, if_pos (by omega), ← HSUM.out (i - 4 * k) (by omega), show 4 * k + (i - 4 * k) = i by omega]
          · rw [if_neg c1]
            by_cases c2 : i < 4 * k
            · rw [if_pos c2, if_pos (by omega)]
            · rw [if_neg c2, if_neg (by omega)])] at h
        exact h
      have R7 := Lib.hid (Q7'.out.below hb5 (by omega))
      have R8 := Lib.hid (Q8'.out.below hb5 (by omega))
      have R6 := Lib.hid (Q6'.out.below hb5 (by omega))
      have R9 := Lib.hid hg5'
      have RB := Lib.hid (QB'.out.trans (hb5.mono (by omega)))
      clear hg5 hg5' hb5 hb0
      go_wp2_with fail
      go_roundw
      case rel => exact ⟨k + 1, by omega, by go_num, R7.out, R8.out, R6.out, R9.out, RB.out⟩
      case measure => simp [intOf]; omega
    · obtain rfl : k = 16 := by omega
      have hG : byteCells (bpart (blk key nonce ctr) (4 * 16)) 64 = byteCells (blk key nonce ctr) 64 := byteCells_congr fun i hi => by
        unfold bpart
        rw [if_pos hi]
      rw [hG] at q9
      have hz64 : (byteCells (blk key nonce ctr) 64).toArray.size = 64 := by simp [byteCells_length]
      have Q6 := Lib.hid q6
      have Q9 := Lib.hid q9
      have QB := Lib.hid (below_setRow qb (show B ≤ B + 1 + 1 by omega) (byteCells (blk key nonce ctr) 64).toArray)
      have HZ := Lib.hid hz64
      clear q7 q8 q6 q9 qb hG hz64
      go_wp2_with (first | (refine wpList_load_row rfl 92 (.tmp 9) rfl g9 rfl 92 (byteCells (blk key nonce ctr) 64).toArray (0, 0) _ Q9.out rfl rfl (by rw [HZ.out]; kernel_rfl) ?_) | (refine wpList_store_row rfl 92 (.tmp 6) (.tmp 41) rfl (B + 1 + 1) (byteCells (blk key nonce ctr) 64).toArray rfl rfl 92 _ Q6.out (by rw [HZ.out]; kernel_rfl) (by rw [HZ.out]; rfl) (bytes_one _ _) ?_))
      have hret : Whole (wr.setRow (B + 1 + 1) (byteCells (blk key nonce ctr) 64).toArray) (B + 1 + 1) 92 (byteCells (blk key nonce ctr) 64).toArray := setRow_heap wr _ _ _ _ _ Q6.out
      refine bodyPost_ret (results_cell_row rfl _ _ (B + 1 + 1) 92 _ (0, 0) _ rfl hret rfl rfl (by rw [HZ.out]; kernel_rfl)) rfl ?_
      exact ⟨rfl, by rw [hB]; exact QB.out⟩
end Chacha
end Go.Proofs.Ytdhjgenijieeaaa

/-! from PolyNum -/
namespace Go.Proofs.Ytdhjgenijieeaaa
namespace PolyN
open Num
/-- the number of k limbs of 26 digits -/
def lv (a : Nat → Nat) : Nat → Nat
  | 0 => 0
  | k + 1 => lv a k + a k * 2 ^ (26 * k)
theorem pow26_succ (k : Nat) : 2 ^ (26 * (k + 1)) = 2 ^ (26 * k) * 67108864 := by
  rw [show 26 * (k + 1) = 26 * k + 26 from by omega, Nat.pow_add]
theorem lv_congr {a b : Nat → Nat} (k : Nat) (h : ∀ i, i < k → a i = b i) : lv a k = lv b k := by
  induction k with
  | zero => rfl
  | succ k ih => rw [lv, lv, ih (fun i hi => h i (by omega)), h k (by omega)]
theorem lv_lt {a : Nat → Nat} (k : Nat) (h : ∀ i, i < k → a i < 67108864) : lv a k < 2 ^ (26 * k) := by
  induction k with
  | zero => simp [lv]
  | succ k ih =>
    have h1 := ih (fun i hi => h i (by omega))
    have h2 : a k * 2 ^ (26 * k) ≤ 67108863 * 2 ^ (26 * k) := Nat.mul_le_mul_right _ (by have := h k (by omega); omega)
    rw [lv, pow26_succ]
    omega
theorem lv_digits (v k : Nat) : lv (fun i => v / 2 ^ (26 * i) % 67108864) k = v % 2 ^ (26 * k) := by
  induction k with
  | zero => simp [lv, Nat.mod_one]
  | succ k ih =>
    rw [lv, ih, pow26_succ, Nat.mod_mul, Nat.mul_comm (v / 2 ^ (26 * k) % 67108864)]
theorem lv_add (a b : Nat → Nat) (k : Nat) : lv (fun i => a i + b i) k = lv a k + lv b k := by
  induction k with
  | zero => rfl
  | succ k ih => rw [lv, lv, lv, ih, Nat.add_mul]; omega
/-- what comes to limb k -/
def pc (a : Nat → Nat) (over : Nat) : Nat → Nat
  | 0 => over
  | k + 1 => (a k + pc a over k) / 67108864
/-- what stays in limb i -/
def po (a : Nat → Nat) (over i : Nat) : Nat := (a i + pc a over i) % 67108864
theorem po_lt (a : Nat → Nat) (over i : Nat) : po a over i < 67108864 := Nat.mod_lt _ (by omega)
theorem pass_val (a : Nat → Nat) (over k : Nat) : lv (po a over) k + pc a over k * 2 ^ (26 * k) = lv a k + over := by
  induction k with
  | zero => simp [lv, pc]
  | succ k ih =>
    rw [lv, lv, pow26_succ, pc, po]
    have h := Nat.div_add_mod (a k + pc a over k) 67108864
    generalize (a k + pc a over k) / 67108864 = q at h
    generalize (a k + pc a over k) % 67108864 = r at h
    have e : (r + q * 67108864) * 2 ^ (26 * k) = (a k + pc a over k) * 2 ^ (26 * k) := by rw [← h, Nat.mul_comm 67108864 q, Nat.add_comm]
    rw [Nat.add_mul, Nat.add_mul] at e
    rw [show q * (2 ^ (26 * k) * 67108864) = q * 67108864 * 2 ^ (26 * k) by rw [Nat.mul_assoc, Nat.mul_comm 67108864]]
    omega
/-- the prime -/
def P : Nat := 1361129467683753853853498429727072845819
theorem P_eq : P + 5 = 2 ^ (26 * 5) := by decide +kernel
theorem P_pos : 0 < P := by decide +kernel
/-- carried: what leaves the last limb comes to the first five times -/
def ca (a : Nat → Nat) (i : Nat) : Nat := if i = 0 then po a 0 0 + 5 * pc a 0 5 else po a 0 i
theorem ca_val (a : Nat → Nat) : lv (ca a) 5 + P * pc a 0 5 = lv a 5 := by
  have h := pass_val a 0 5
  rw [← P_eq] at h
  have e : lv (ca a) 5 = lv (po a 0) 5 + 5 * pc a 0 5 := by
    simp only [lv, ca]
    simp
    omega
  rw [Nat.mul_add, Nat.add_zero] at h
  rw [e, ← h, Nat.mul_comm P]
  omega
theorem ca_mod (a : Nat → Nat) : lv (ca a) 5 % P = lv a 5 % P := by
  rw [← ca_val a, Nat.add_mul_mod_self_left]
/-- a sum of products, carried once -/
theorem ca_wide (a : Nat → Nat) (h : ∀ i, i < 5 → a i < 4611686018427387904) : (∀ i, i < 5 → ca a i < 1099511627776) ∧ ∀ i, 1 ≤ i → i < 5 → ca a i < 67108864 := by
  have h0 := h 0 (by omega)
  have h1 := h 1 (by omega)
  have h2 := h 2 (by omega)
  have h3 := h 3 (by omega)
  have h4 := h 4 (by omega)
  have c1 : pc a 0 1 ≤ 137438953472 := by simp only [pc]; omega
  have c2 : pc a 0 2 ≤ 137438953472 := by rw [pc]; omega
  have c3 : pc a 0 3 ≤ 137438953472 := by rw [pc]; omega
  have c4 : pc a 0 4 ≤ 137438953472 := by rw [pc]; omega
  have c5 : pc a 0 5 ≤ 137438953472 := by rw [pc]; omega
  refine ⟨fun i hi => ?_, fun i hi _ => ?_⟩
  · unfold ca
    have := po_lt a 0 0
    have := po_lt a 0 i
    split <;> omega
  · unfold ca
    rw [if_neg (by omega)]
    exact po_lt _ _ _
/-- carried twice -/
theorem ca_twice (a : Nat → Nat) (h : ∀ i, i < 5 → a i < 1099511627776) (h' : ∀ i, 1 ≤ i → i < 5 → a i < 67108864) : pc a 0 5 ≤ 1 ∧ (∀ i, i < 5 → ca a i < 67108869) ∧ ∀ i, 1 ≤ i → i < 5 → ca a i < 67108864 := by
  have h0 := h 0 (by omega)
  have h1 := h' 1 (by omega) (by omega)
  have h2 := h' 2 (by omega) (by omega)
  have h3 := h' 3 (by omega) (by omega)
  have h4 := h' 4 (by omega) (by omega)
  have c1 : pc a 0 1 ≤ 16384 := by simp only [pc]; omega
  have c2 : pc a 0 2 ≤ 1 := by rw [pc]; omega
  have c3 : pc a 0 3 ≤ 1 := by rw [pc]; omega
  have c4 : pc a 0 4 ≤ 1 := by rw [pc]; omega
  have c5 : pc a 0 5 ≤ 1 := by rw [pc]; omega
  refine ⟨c5, fun i hi => ?_, fun i hi _ => ?_⟩
  · unfold ca
    have := po_lt a 0 0
    have := po_lt a 0 i
    split <;> omega
  · unfold ca
    rw [if_neg (by omega)]
    exact po_lt _ _ _
/-- carried three times: all limbs fit -/
theorem ca_thrice (a : Nat → Nat) (h : ∀ i, i < 5 → a i < 67108869) (h' : ∀ i, 1 ≤ i → i < 5 → a i < 67108864) : ∀ i, i < 5 → ca a i < 67108864 := by
  have h0 := h 0 (by omega)
  have h1 := h' 1 (by omega) (by omega)
  have h2 := h' 2 (by omega) (by omega)
  have h3 := h' 3 (by omega) (by omega)
  have h4 := h' 4 (by omega) (by omega)
  have e1 : pc a 0 1 = (a 0 + 0) / 67108864 := rfl
  have e2 : pc a 0 2 = (a 1 + pc a 0 1) / 67108864 := rfl
  have e3 : pc a 0 3 = (a 2 + pc a 0 2) / 67108864 := rfl
  have e4 : pc a 0 4 = (a 3 + pc a 0 3) / 67108864 := rfl
  have e5 : pc a 0 5 = (a 4 + pc a 0 4) / 67108864 := rfl
  have e0 : po a 0 0 = (a 0 + 0) % 67108864 := rfl
  intro i hi
  unfold ca
  have := po_lt a 0 i
  split <;> omega
/-- the number below the prime -/
def lo (a : Nat → Nat) (i : Nat) : Nat := if pc (ca a) 5 5 = 0 then ca a i else po (ca a) 5 i
theorem lo_spec (a : Nat → Nat) (h : ∀ i, i < 5 → a i < 67108869) (h' : ∀ i, 1 ≤ i → i < 5 → a i < 67108864) :
    pc (ca a) 5 5 ≤ 1 ∧ lv (lo a) 5 = lv a 5 % P ∧ ∀ i, i < 5 → lo a i < 67108864 := by
  have hc := ca_thrice a h h'
  have hlt := lv_lt 5 hc
  have hv := pass_val (ca a) 5 5
  have hpo := lv_lt (a := po (ca a) 5) 5 (fun i _ => po_lt _ _ _)
  have hm := ca_mod a
  rw [← P_eq] at hlt hv hpo
  have hP : 5 < P := by decide +kernel
  generalize lv (ca a) 5 = A at hlt hv hm
  generalize lv (po (ca a) 5) 5 = B at hv hpo
  have hle : pc (ca a) 5 5 ≤ 1 := by
    rcases Nat.lt_or_ge 1 (pc (ca a) 5 5) with hgt | hge
    · have : 2 * (P + 5) ≤ pc (ca a) 5 5 * (P + 5) := Nat.mul_le_mul_right _ hgt
      omega
    · exact hge
  refine ⟨hle, ?_, ?_⟩
  · rcases Nat.eq_zero_or_pos (pc (ca a) 5 5) with e | e
    · have : lv (lo a) 5 = lv (ca a) 5 := lv_congr 5 fun i _ => by unfold lo; rw [if_pos e]
      rw [this]
      have hA : lv (ca a) 5 < P := by
        have h2 := pass_val (ca a) 5 5
        rw [e] at h2
        have h3 := lv_lt (a := po (ca a) 5) 5 (fun i _ => po_lt _ _ _)
        rw [← P_eq] at h3
        omega
      rw [← ca_mod a, Nat.mod_eq_of_lt hA]
    · have e1 : pc (ca a) 5 5 = 1 := by omega
      have : lv (lo a) 5 = lv (po (ca a) 5) 5 := lv_congr 5 fun i _ => by unfold lo; rw [if_neg (by omega)]
      rw [this, ← ca_mod a]
      have h2 := pass_val (ca a) 5 5
      rw [e1, ← P_eq] at h2
      have h3 := lv_lt (a := ca a) 5 hc
      rw [← P_eq] at h3
      have e3 : lv (ca a) 5 = lv (po (ca a) 5) 5 + P := by omega
      rw [e3, Nat.add_mod_right, Nat.mod_eq_of_lt (by omega)]
  · intro i hi
    unfold lo
    split
    · exact hc i hi
    · exact po_lt _ _ _
/-- row i of a product, j columns of it -/
def tmj (a b : Nat → Nat) (i : Nat) : Nat → Nat → Nat
  | 0, _ => 0
  | j + 1, k => tmj a b i j k + if (i + j) % 5 = k then a i * b j * (if 5 ≤ i + j then 5 else 1) else 0
/-- i rows of a product -/
def tmi (a b : Nat → Nat) : Nat → Nat → Nat
  | 0, _ => 0
  | i + 1, k => tmi a b i k + tmj a b i 5 k
/-- i rows and j columns -/
def tm (a b : Nat → Nat) (i j k : Nat) : Nat := tmi a b i k + tmj a b i j k
theorem tm_zero (a b : Nat → Nat) (k : Nat) : tm a b 0 0 k = 0 := rfl
theorem tm_row (a b : Nat → Nat) (i k : Nat) : tm a b (i + 1) 0 k = tm a b i 5 k := rfl
theorem tm_step (a b : Nat → Nat) (i j k : Nat) : tm a b i (j + 1) k = tm a b i j k + if (i + j) % 5 = k then a i * b j * (if 5 ≤ i + j then 5 else 1) else 0 := by
  unfold tm
  rw [tmj]
  omega
theorem lv_bump (f : Nat → Nat) (m c n : Nat) (h : m < n) : lv (fun k => f k + if m = k then c else 0) n = lv f n + c * 2 ^ (26 * m) := by
  induction n with
  | zero => omega
  | succ n ih =>
    rw [lv, lv]
    by_cases e : m = n
    · subst e
      have : lv (fun k => f k + if m = k then c else 0) m = lv f m := lv_congr m fun i hi => by simp; omega
      rw [this, if_pos rfl, Nat.add_mul]
      omega
    · rw [ih (by omega), if_neg e]
      simp only [Nat.add_zero]
      omega
section
variable (q : Nat) (hq : q + 5 = 2 ^ (26 * 5))
include hq
theorem term_mod (x i j : Nat) (hi : i < 5) (hj : j < 5) : (x * (if 5 ≤ i + j then 5 else 1)) * 2 ^ (26 * ((i + j) % 5)) % q = x * 2 ^ (26 * i) * 2 ^ (26 * j) % q := by
  by_cases h : 5 ≤ i + j
  · rw [if_pos h]
    have e : 26 * i + 26 * j = 26 * ((i + j) % 5) + 26 * 5 := by omega
    rw [Nat.mul_assoc x (2 ^ (26 * i)), ← Nat.pow_add, e, Nat.pow_add, ← hq]
    generalize 2 ^ (26 * ((i + j) % 5)) = y
    rw [show x * (y * (q + 5)) = x * 5 * y + q * (x * y) by rw [Nat.mul_add, Nat.mul_add, Nat.mul_comm q (x * y), Nat.mul_assoc x y q, Nat.mul_comm y 5, Nat.mul_assoc]; omega, Nat.add_mul_mod_self_left]
  · rw [if_neg h, Nat.mul_one, Nat.mod_eq_of_lt (by omega : i + j < 5), Nat.mul_assoc x, ← Nat.pow_add, Nat.mul_add]
omit hq in
theorem tm_mod (ht : ∀ x i j : Nat, i < 5 → j < 5 → (x * (if 5 ≤ i + j then 5 else 1)) * 2 ^ (26 * ((i + j) % 5)) % q = x * 2 ^ (26 * i) * 2 ^ (26 * j) % q) (a b : Nat → Nat) (i j : Nat) (hi : i < 5) (hj : j ≤ 5) (h : lv (tm a b i 0) 5 % q = (lv a i * lv b 5) % q) :
    lv (tm a b i j) 5 % q = (lv a i * lv b 5 + a i * 2 ^ (26 * i) * lv b j) % q := by
  induction j with
  | zero => rw [h, show lv b 0 = 0 from rfl, Nat.mul_zero, Nat.add_zero]
  | succ j ih =>
    have e : lv (tm a b i (j + 1)) 5 = lv (tm a b i j) 5 + (a i * b j * (if 5 ≤ i + j then 5 else 1)) * 2 ^ (26 * ((i + j) % 5)) := by
      rw [← lv_bump (tm a b i j) ((i + j) % 5) _ 5 (Nat.mod_lt _ (Nat.zero_lt_succ 4))]
      exact lv_congr 5 fun k _ => tm_step a b i j k
    rw [e, Nat.add_mod, ih (Nat.le_of_succ_le hj), ht _ i j hi hj, ← Nat.add_mod]
    rw [show lv b (j + 1) = lv b j + b j * 2 ^ (26 * j) from rfl]
    generalize lv a i * lv b 5 = x
    generalize 2 ^ (26 * i) = y
    generalize 2 ^ (26 * j) = z
    generalize lv b j = u
    generalize a i = v
    generalize b j = s
    clear h ih e ht
    have : x + v * y * u + v * s * y * z = x + v * y * (u + s * z) := by
      rw [Nat.mul_add, ← Nat.add_assoc]
      congr 1
      rw [Nat.mul_assoc v s y, Nat.mul_comm s y, ← Nat.mul_assoc, Nat.mul_assoc]
    rw [this]
theorem tm_rows (a b : Nat → Nat) (i : Nat) (hi : i ≤ 5) : lv (tm a b i 0) 5 % q = (lv a i * lv b 5) % q := by
  induction i with
  | zero => simp [lv, tm, tmi, tmj]
  | succ i ih =>
    have := tm_mod q (term_mod q hq) a b i 5 hi (Nat.le_refl 5) (ih (Nat.le_of_lt hi))
    rw [show lv (tm a b (i + 1) 0) 5 = lv (tm a b i 5) 5 from lv_congr 5 fun k _ => tm_row a b i k, this, show lv a (i + 1) = lv a i + a i * 2 ^ (26 * i) from rfl, Nat.add_mul]
end
theorem tm_small (a b : Nat → Nat) (ha : ∀ i, i < 5 → a i < 268435456) (hb : ∀ i, i < 5 → b i < 67108864) (i j k : Nat) (hi : i < 5) (hj : j ≤ 5) (h : tm a b i 0 k ≤ i * 450359962737049600) :
    tm a b i j k ≤ i * 450359962737049600 + j * 90071992547409920 := by
  induction j with
  | zero => simpa using h
  | succ j ih =>
    rw [tm_step]
    have h1 := ih (by omega)
    have h2 : a i * b j ≤ 268435456 * 67108864 := Nat.mul_le_mul (Nat.le_of_lt (ha i hi)) (Nat.le_of_lt (hb j (by omega)))
    have h3 : (if (i + j) % 5 = k then a i * b j * (if 5 ≤ i + j then 5 else 1) else 0) ≤ 90071992547409920 := by
      split
      · split <;> omega
      · omega
    omega
theorem tm_small_row (a b : Nat → Nat) (ha : ∀ i, i < 5 → a i < 268435456) (hb : ∀ i, i < 5 → b i < 67108864) (i k : Nat) (hi : i ≤ 5) : tm a b i 0 k ≤ i * 450359962737049600 := by
  induction i with
  | zero => simp [tm, tmi, tmj]
  | succ i ih =>
    rw [tm_row]
    have := tm_small a b ha hb i 5 k (by omega) (by omega) (ih (by omega))
    omega
theorem tm_bound (a b : Nat → Nat) (ha : ∀ i, i < 5 → a i < 268435456) (hb : ∀ i, i < 5 → b i < 67108864) (i j k : Nat) (hi : i < 5) (hj : j ≤ 5) : tm a b i j k < 4611686018427387904 := by
  have := tm_small a b ha hb i j k hi hj (tm_small_row a b ha hb i k (by omega))
  omega
/-- what a product is -/
def ti (a b : Nat → Nat) : Nat → Nat := ca (ca (tm a b 5 0))
theorem ti_spec (a b : Nat → Nat) (ha : ∀ i, i < 5 → a i < 268435456) (hb : ∀ i, i < 5 → b i < 67108864) :
    lv (ti a b) 5 % P = lv a 5 * lv b 5 % P ∧ (∀ i, i < 5 → ti a b i < 67108869) ∧ (∀ i, 1 ≤ i → i < 5 → ti a b i < 67108864) := by
  have hw := ca_wide (tm a b 5 0) (fun k _ => by
    have := tm_small_row a b ha hb 5 k (by omega)
    omega)
  have ht := ca_twice _ hw.1 hw.2
  refine ⟨?_, ht.2.1, ht.2.2⟩
  unfold ti
  rw [ca_mod, ca_mod, tm_rows P P_eq a b 5 (by omega)]
theorem le_part (f : Nat → Nat) (hf : ∀ i, f i < 256) (n p k : Nat) (h : p + k ≤ n) : le f p k = le f 0 n / 2 ^ (8 * p) % 2 ^ (8 * k) := by
  have split : ∀ m, le f 0 (p + m) = le f 0 p + le f p m * 2 ^ (8 * p) := by
    intro m
    induction m with
    | zero => simp [le]
    | succ m ih =>
      rw [show p + (m + 1) = p + m + 1 from rfl, le, ih, le, Nat.add_mul, Nat.zero_add, Nat.mul_assoc (f (p + m)), ← Nat.pow_add]
      rw [show 8 * m + 8 * p = 8 * (p + m) by omega]
      omega
  have split2 : ∀ m, le f p (k + m) % 2 ^ (8 * k) = le f p k := by
    intro m
    induction m with
    | zero => exact Nat.mod_eq_of_lt (le_lt hf p k)
    | succ m ih =>
      rw [show k + (m + 1) = k + m + 1 from rfl, le, show 8 * (k + m) = 8 * k + 8 * m by omega, Nat.pow_add, ← Nat.mul_assoc, Nat.mul_comm (f (p + (k + m))), Nat.mul_assoc, Nat.add_mul_mod_self_left]
      exact ih
  obtain ⟨m, rfl⟩ : ∃ m, n = p + (k + m) := ⟨n - p - k, by omega⟩
  rw [split, Nat.add_mul_div_right _ _ (Nat.two_pow_pos _), Nat.div_eq_of_lt (le_lt hf 0 p), Nat.zero_add, split2]
/-- limb i of seventeen bytes -/
def sp (f : Nat → Nat) (i : Nat) : Nat := le f 0 17 / 2 ^ (26 * i) % 67108864
theorem sp_lt (f : Nat → Nat) (i : Nat) : sp f i < 67108864 := Nat.mod_lt _ (by omega)
theorem sp_val (f : Nat → Nat) (h : le f 0 17 < 2 ^ (26 * 5)) : lv (sp f) 5 = le f 0 17 := by
  have := lv_digits (le f 0 17) 5
  rw [Nat.mod_eq_of_lt h] at this
  exact this
theorem sp_load (f : Nat → Nat) (hf : ∀ i, f i < 256) (i p s : Nat) (hp : p + 4 ≤ 17) (hs : s ≤ 6) (h : 8 * p + s = 26 * i) : le f p 4 / 2 ^ s % 67108864 = sp f i := by
  rw [le_part f hf 17 p 4 hp, sp, ← h, Nat.pow_add, ← Nat.div_div_eq_div_mul]
  generalize le f 0 17 / 2 ^ (8 * p) = x
  have e : 2 ^ (8 * 4) = 2 ^ s * 2 ^ (32 - s) := by rw [← Nat.pow_add]; congr 1; omega
  rw [e, Nat.mod_mul_right_div_self, show 2 ^ (32 - s) = 67108864 * 2 ^ (6 - s) by rw [show 32 - s = 26 + (6 - s) by omega, Nat.pow_add], Nat.mod_mul_right_mod]
end PolyN
end Go.Proofs.Ytdhjgenijieeaaa

/-! from Limbs -/
namespace Go.Proofs.Ytdhjgenijieeaaa
namespace Mem
open Go.RowKit
/-- the cells of a row of numbers of 64 digits -/
def qcells (f : Nat → Nat) (n : Nat) : List Value := (List.range n).map fun i => .int .u64 (f i : Nat)
theorem qcells_lit5 (f : Nat → Nat) : (qcells f 5).toArray = #[.int .u64 (f 0 : Nat), .int .u64 (f 1 : Nat), .int .u64 (f 2 : Nat), .int .u64 (f 3 : Nat), .int .u64 (f 4 : Nat)] := rfl
theorem qcells_lit10 (f : Nat → Nat) : (qcells f 10).toArray = #[.int .u64 (f 0 : Nat), .int .u64 (f 1 : Nat), .int .u64 (f 2 : Nat), .int .u64 (f 3 : Nat), .int .u64 (f 4 : Nat), .int .u64 (f 5 : Nat), .int .u64 (f 6 : Nat), .int .u64 (f 7 : Nat), .int .u64 (f 8 : Nat), .int .u64 (f 9 : Nat)] := rfl
theorem qcells_get (f : Nat → Nat) (n i : Nat) (h : i < n) : (qcells f n)[i]? = some (.int .u64 (f i : Nat)) := by
  simp [qcells, h]
theorem qcells_length (f : Nat → Nat) (n : Nat) : (qcells f n).length = n := by simp [qcells]
theorem qcells_congr {f g : Nat → Nat} {n : Nat} (h : ∀ i, i < n → f i = g i) : qcells f n = qcells g n := by
  unfold qcells
  exact List.map_congr_left fun i hi => by rw [h i (List.mem_range.1 hi)]
theorem qcells_set (f : Nat → Nat) (n j v : Nat) : (qcells f n).toArray.setIfInBounds j (.int .u64 (v : Nat)) = (qcells (fun i => if i = j then v else f i) n).toArray := by
  apply Array.ext_getElem?
  intro i
  rw [Array.getElem?_setIfInBounds]
  by_cases hi : i < n
  · by_cases hj : j = i
    · subst hj
      simp [qcells, hi]
    · have : ¬ i = j := fun e => hj e.symm
      simp [qcells, hi, hj, this]
  · simp [qcells, hi]
    omega
theorem qcells_one (f : Nat → Nat) (n : Nat) : (qcells f n).toArray.all (·.oneCell') = true := by
  simp [qcells, Value.oneCell']
theorem qcells_size (f : Nat → Nat) (n : Nat) : (qcells f n).toArray.size = n := by rw [List.size_toArray, qcells_length]
theorem Whole.num {w : World} {g n : Nat} {t : TypeId} {f : Nat → Nat} (h : Whole w g t (qcells f n).toArray) (i : Nat) (hi : i < n) : w.cell? ⟨g, i, none⟩ = some (.int .u64 (f i : Nat)) := by
  rw [h.cell, List.getElem?_toArray, qcells_get f n i hi]
end Mem
namespace Poly
open Go.ChangeShapes Go.WideShapes Go.ChangeAt Go.RowKit
open Num Mem Words PolyN Chacha
theorem and26 (v : Nat) (hv : v < 18446744073709551616) : bits .and .u64 (v : Int) 67108863 = ((v % 67108864 : Nat) : Int) := by
  have h := u64_and_nat v 67108863 hv (by omega)
  rw [show (67108863 : Nat) = 2 ^ 26 - 1 from rfl, Nat.and_two_pow_sub_one_eq_mod] at h
  exact h
theorem pc_small (a : Nat → Nat) (over : Nat) (ha : ∀ i, i < 5 → a i < 4611686018427387904) (ho : over < 4611686018427387904) (k : Nat) (hk : k ≤ 5) : pc a over k < 4611686018427387904 := by
  induction k with
  | zero => exact ho
  | succ k ih =>
    have h1 := ih (by omega)
    have h2 := ha k (by omega)
    rw [pc]
    omega
set_option maxRecDepth 100000 in
theorem pass_any (a : Nat → Nat) (over : Nat) (ha : ∀ i, i < 5 → a i < 4611686018427387904) (ho : over < 4611686018427387904) (w : World) :
    Calls Try.prog 64 #[.agg (qcells a 5).toArray, .int .u64 over] w fun e w' => e = .returned (.tuple #[.agg (qcells (po a over) 5).toArray, .int .u64 (pc a over 5 : Nat)]) ∧ Below w.heap.size w w' := by
  have HA := Lib.hid ha
  have HP := Lib.hid (pc_small a over ha ho)
  clear ha
  rw [qcells_lit5]
  go_enter Try.func64, Try.ntmps64
  go_wp2_with fail
  refine cut_world (fun W => Whole W w.heap.size 105 (qcells a 5).toArray ∧ Whole W (w.heap.size + 1) 105 (qcells (fun _ => 0) 5).toArray ∧ Below w.heap.size w W) ⟨?_, ?_, ?_⟩ ?_
  · rw [qcells_lit5]
    exact (whole_new _ _ rfl).alloc _
  · exact whole_new _ _ (by simp)
  · exact below_alloc (below_alloc (Below.refl _ _) _) _
  rintro W ⟨k1, k2, kb⟩
  have K1 := Lib.hid k1
  have K2 := Lib.hid k2
  have KB := Lib.hid kb
  clear k1 k2 kb
  generalize hB : w.heap.size = B at K1 K2 KB ⊢
  go_loopw [1, 7] (fun o i wr => ∃ k : Nat, k ≤ 5 ∧ i = .int .i64 k ∧ o = .int .u64 (pc a over k : Nat) ∧ Whole wr B 105 (qcells (fun i => if i < k then po a over i else a i) 5).toArray ∧ Whole wr (B + 1) 105 (qcells (fun _ => 0) 5).toArray ∧ Below B w wr) (fun _ i _ => 5 - (intOf i).toNat)
  case atStart => exact ⟨0, by omega, rfl, rfl, K1.out, K2.out, KB.out⟩
  case round =>
    obtain ⟨k, hk, rfl, rfl, q1, q2, qb⟩ := hrel
    have Q1 := Lib.hid q1
    have Q2 := Lib.hid q2
    have QB := Lib.hid qb
    by_cases hlt : k < 5
    · have c1 := q1.num k hlt
      have f1 := q1.free k
      rw [if_neg (Nat.lt_irrefl k)] at c1
      have a1 := HA.out k hlt
      have p1 := HP.out k hk
      have HN := Lib.hid (show pc a over (k + 1) = (a k + pc a over k) / 67108864 from rfl)
      have HO := Lib.hid (show po a over k = (a k + pc a over k) % 67108864 from rfl)
      have HS := Lib.hid (show ((a k : Nat) : Int) + ((pc a over k : Nat) : Int) = ((a k + pc a over k : Nat) : Int) by omega)
      have s1 : a k + pc a over k < 9223372036854775808 := by omega
      generalize hs : a k + pc a over k = s at HN HO HS s1
      have HSS := Lib.hid hs
      have hand := and26 s (by omega)
      clear q1 q2 qb hs
      go_wp2_with fail
      go_roundw
      case rel =>
        rw [HS.out, hand]
        refine ⟨k + 1, by omega, by go_num, by rw [HN.out]; rfl, ?_, (Q2.out.far (by simp) _).far (by simp) _, (QB.out.setCell (by simp) _).setCell (by simp) _⟩
        have h := (Q1.out.put k (.int .u64 (s : Nat))).put k (.int .u64 ((s % 67108864 : Nat) : Int))
        rw [qcells_set, qcells_set, qcells_congr (g := fun i => if i < k + 1 then po a over i else a i) (fun i hi => ?_)] at h
        · exact h
        · by_cases e : i = k
          · subst e
            rw [if_pos rfl, if_pos (by omega), HO.out]
          · rw [if_neg e, if_neg e]
            by_cases l : i < k
            · rw [if_pos l, if_pos (by omega)]
            · rw [if_neg l, if_neg (by omega)]
      case measure => simp [intOf]; omega
    · obtain rfl : k = 5 := by omega
      have hz := Lib.hid (qcells_congr (f := fun i => if i < 5 then po a over i else a i) (g := po a over) (n := 5) (fun i hi => if_pos hi))
      rw [hz.out] at q1
      have Q1' := Lib.hid q1
      clear q1 q2 qb Q1
      go_wp2_with (first | (refine wpList_load_row rfl 105 (.tmp 2) rfl B rfl 105 (qcells (po a over) 5).toArray (0, 0) _ Q1'.out rfl rfl (by rw [qcells_size]; kernel_rfl) ?_) | (refine wpList_store_row rfl 105 (.tmp 4) (.tmp 26) rfl (B + 1) (qcells (po a over) 5).toArray rfl rfl 105 _ Q2.out (by rw [qcells_size]; kernel_rfl) (by rw [qcells_size, qcells_size]) (qcells_one _ _) ?_))
      have hret : Whole (wr.setRow (B + 1) (qcells (po a over) 5).toArray) (B + 1) 105 (qcells (po a over) 5).toArray := setRow_heap wr _ _ _ _ _ Q2.out
      refine bodyPost_ret (results_cell_tmp rfl _ _ (B + 1) 105 _ _ rfl hret rfl rfl (by rw [qcells_length]; kernel_rfl)) rfl ?_
      exact ⟨rfl, by rw [hB]; exact below_setRow QB.out (by omega) _⟩
theorem ca_fits (a : Nat → Nat) (ha : ∀ i, i < 5 → a i < 4611686018427387904) : po a 0 0 + 5 * pc a 0 5 < 4611686018427387904 := by
  have := (ca_wide a ha).1 0 (by omega)
  unfold ca at this
  rw [if_pos rfl] at this
  omega
set_option maxRecDepth 100000 in
theorem carry_any (a : Nat → Nat) (ha : ∀ i, i < 5 → a i < 4611686018427387904) (w : World) :
    Calls Try.prog 63 #[.agg (qcells a 5).toArray] w fun e w' => e = .returned (.agg (qcells (ca a) 5).toArray) ∧ Below w.heap.size w w' := by
  have HA := Lib.hid ha
  have hp := po_lt a 0 0
  have hc : 5 * pc a 0 5 < 4611686018427387904 := by have := ca_fits a ha; omega
  have HC := Lib.hid (show ca a = fun i => if i = 0 then po a 0 0 + 5 * pc a 0 5 else po a 0 i from rfl)
  clear ha
  rw [qcells_lit5]
  go_enter Try.func63, Try.ntmps63
  go_upto_region 1 with fail
  refine cut_world (fun W => Whole W w.heap.size 105 (qcells a 5).toArray ∧ Whole W (w.heap.size + 1) 105 (qcells (fun _ => 0) 5).toArray ∧ Below w.heap.size w W) ⟨?_, ?_, ?_⟩ ?_
  · rw [qcells_lit5]
    exact (whole_new _ _ rfl).alloc _
  · exact whole_new _ _ (by simp)
  · exact below_alloc (below_alloc (Below.refl _ _) _) _
  rintro W ⟨k1, k2, kb⟩
  have K1 := Lib.hid k1
  have K2 := Lib.hid k2
  have KB := Lib.hid kb
  have hb1 := k1.lt
  clear k1 k2 kb
  generalize hB : w.heap.size = B at K1 K2 KB hb1 ⊢
  go_wp2_with (refine wpList_load_row rfl 105 (.tmp 1) rfl B rfl 105 (qcells a 5).toArray (0, 0) _ K1.out rfl rfl (by rw [qcells_size]; kernel_rfl) ?_)
  refine (pass_any a 0 HA.out (by omega) _).mono ?_
  rintro e w1 ⟨rfl, hb⟩
  have L1 := Lib.hid (K1.out.below hb K1.out.lt)
  have L2 := Lib.hid (K2.out.below hb K2.out.lt)
  have LB := Lib.hid (KB.out.trans (hb.mono (by omega)))
  clear hb K1 K2 KB
  go_upto_region 2 with (refine wpList_store_row rfl 105 (.tmp 1) (.tmp 7) rfl B (qcells (po a 0) 5).toArray rfl rfl 105 _ L1.out (by rw [qcells_size]; kernel_rfl) (by rw [qcells_size, qcells_size]) (qcells_one _ _) ?_)
  refine cut_world (fun W => Whole W B 105 (qcells (po a 0) 5).toArray ∧ Whole W (B + 1) 105 (qcells (fun _ => 0) 5).toArray ∧ Below B w W) ⟨?_, ?_, ?_⟩ ?_
  · exact setRow_heap w1 _ _ _ _ _ L1.out
  · exact (setRow_other w1 B (B + 1) _ (by omega)).trans L2.out
  · exact below_setRow LB.out (by omega) _
  rintro W2 ⟨k1, k2, kb⟩
  have c1 := k1.num 0 (by omega)
  have f1 := k1.free 0
  have K1 := Lib.hid k1
  have K2 := Lib.hid k2
  have KB := Lib.hid kb
  clear k1 k2 kb L1 L2 LB
  have HS := Lib.hid (show ((po a 0 0 : Nat) : Int) + 5 * ((pc a 0 5 : Nat) : Int) = ((po a 0 0 + 5 * pc a 0 5 : Nat) : Int) by omega)
  have hput := K1.out.put 0 (.int .u64 (po a 0 0 + 5 * pc a 0 5 : Nat))
  rw [qcells_set, ← HC.out] at hput
  have HPUT := Lib.hid hput
  clear hput
  go_upto_region 3 with fail
  rw [HS.out]
  refine cut_world (fun W => Whole W B 105 (qcells (ca a) 5).toArray ∧ Whole W (B + 1) 105 (qcells (fun _ => 0) 5).toArray ∧ Below B w W) ⟨HPUT.out, K2.out.far (by simp) _, KB.out.setCell (by simp) _⟩ ?_
  clear K1 K2 KB HPUT c1 f1
  rintro W3 ⟨k1, k2, kb⟩
  have K1 := Lib.hid k1
  have K2 := Lib.hid k2
  have KB := Lib.hid kb
  clear k1 k2 kb
  go_wp2_with (first | (refine wpList_load_row rfl 105 (.tmp 1) rfl B rfl 105 (qcells (ca a) 5).toArray (0, 0) _ K1.out rfl rfl (by rw [qcells_size]; kernel_rfl) ?_) | (refine wpList_store_row rfl 105 (.tmp 2) (.tmp 15) rfl (B + 1) (qcells (ca a) 5).toArray rfl rfl 105 _ K2.out (by rw [qcells_size]; kernel_rfl) (by rw [qcells_size, qcells_size]) (qcells_one _ _) ?_))
  have hret : Whole (W3.setRow (B + 1) (qcells (ca a) 5).toArray) (B + 1) 105 (qcells (ca a) 5).toArray := setRow_heap W3 _ _ _ _ _ K2.out
  refine bodyPost_ret (results_cell_row rfl _ _ (B + 1) 105 _ (0, 0) _ rfl hret rfl rfl (by rw [qcells_size]; kernel_rfl)) rfl ?_
  exact ⟨rfl, by rw [hB]; exact below_setRow KB.out (by omega) _⟩
end Poly
end Go.Proofs.Ytdhjgenijieeaaa
