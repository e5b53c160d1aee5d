/- Numbers as words: strconv's numeral at base 10, and Number of package text. -/
import Derived.Test.YtdcpbojknondcaaDoorKit
import Derived.Test.YtdcpbojknondcaaDoorNumLays
import Derived.Lib.AppendIntMem
import Derived.Lib.SmallJoins
import Derived.Lib.ItoaLen
namespace Go.Proofs.YtdcpbojknondcaaDoor
namespace Text
open Go.ChangeShapes Go.WideShapes Go.ChangeAt Go.RowKit Go.Sort
open Num Mem

/-- a number's word -/
def numB (u : Nat) : ByteArray := ⟨(Lib.decDigits u).toArray⟩
/-- the powers of ten lie where the library reads them -/
def Tab (w : World) : Prop := Lib.TabIs Tryd.prog w "internal/strconv.uint64pow10" .u64 Lib.pow10Tab
theorem gTab : Tryd.prog.globalNamed "internal/strconv.uint64pow10" = some 0 := by kernel_rfl
theorem Tab.below {w w' : World} {B : Nat} (h : Tab w) (hb : Below B w w') (hB : w.heap.size ≤ B) : Tab w' := Joins.tab_stays gTab h hb hB

theorem small10 (i : Nat) (h : i < 100) (w : World) : Calls Tryd.prog 29 #[.int .i64 i] w fun e w' => e = .returned (.string (numB i)) ∧ w' = w :=
  Any.internal_strconv_small NumLays.l283 i h w
theorem numDigits10 (u : Nat) (h1 : 1 ≤ u) (h2 : u < 18446744073709551616) (w : World) (ht : Tab w) : Calls Tryd.prog 30 #[.int .u64 u] w fun e w' => e = .returned (.int .i64 (Lib.nDigits u)) ∧ w' = w :=
  Any.internal_strconv_numDigits NumLays.l284 u h1 h2 w ht
theorem format10 (blk off cap u : Nat) (d : Array UInt8) (w : World) (hH : Holds (fun (b : UInt8) => Value.int .u8 (b.toNat : Int)) w blk off d) (hu : u < 10 ^ d.size) (hu64 : u < 18446744073709551616) (hsz : d.size < 4611686018427387904) :
    Calls Tryd.prog 31 #[.slice (some ⟨blk, off, none⟩) d.size cap, .int .u64 u] w fun e w' =>
      e = .returned (.tuple #[]) ∧ ∃ (n v' : Nat) (dk : Array UInt8), w' = (putRow (fun (b : UInt8) => Value.int .u8 (b.toNat : Int)) w blk off dk).drewN n ∧ Lib.FmtInv d.size u 0 v' dk :=
  Any.internal_strconv_formatBase10 NumLays.l285 blk off cap u d w hH hu hu64 hsz

set_option maxHeartbeats 4000000 in
set_option maxRecDepth 100000 in
theorem formatUint10 (u : Nat) (hu : u < 18446744073709551616) (w : World) (ht : Tab w) :
    Calls Tryd.prog 24 #[.int .u64 u, .int .i64 10] w fun e w' => e = .returned (.string (numB u)) ∧ Below w.heap.size w w' := by
  by_cases hs : u < 100
  · have CS := Lib.hid (small10 u hs)
    have d1 : decide ((u : Int) < 100) = true := decide_eq_true (by omega)
    go_enter Tryd.func24, Tryd.ntmps24
    go_wp2_with (go_at_call 29; refine (CS.out _).mono ?_; rintro e w' ⟨rfl, rfl⟩)
    go_ret
    exact ⟨rfl, Below.refl _ _⟩
  · have d1 : decide ((u : Int) < 100) = false := decide_eq_false (by omega)
    have hu1 : 1 ≤ u := by omega
    have hd : Lib.nDigits u ≤ 24 := Nat.le_trans (Lib.nDigits_le20 u hu) (by omega)
    have CN := Lib.hid (fun w h => numDigits10 u hu1 hu w h)
    have hal : Tryd.prog.arrayLen 59 = 24 := by kernel_rfl
    have hel : (Tryd.prog.elem 59) = 5 := by kernel_rfl
    have hsl : ∀ W, (Instr.sliceAt 59 (.pointer (some ⟨w.heap.size, 0, none⟩)) none (some (.int .i64 (Lib.nDigits u : Int))) none).run Tryd.prog W = .ok (.slice (some ⟨w.heap.size, 0, none⟩) (Lib.nDigits u) 24) W := fun W => by
      rw [run_sliceAt_array_h W 59 ⟨w.heap.size, 0, none⟩ (by rw [Tryd.underlying59, hal, hel]) .i64 (Lib.nDigits u : Int) (by omega) (by rw [hal]; omega)]
      rw [hal, hel, Poly.size_u8]
      go_simp
    have hH0 := Lib.holds_zero0 w 59 (Lib.nDigits u) hd
    have CF := Lib.hid (format10 w.heap.size 0 24 u (Array.replicate (Lib.nDigits u) 0) _ hH0 (by rw [Array.size_replicate]; exact Lib.lt_pow_nDigits u) hu (by rw [Array.size_replicate]; omega))
    rw [Array.size_replicate] at CF
    have HH0 := Lib.hid hH0
    have HT := Lib.hid (Lib.tabIs_alloc ht (.cells Lib.zeros24 59))
    clear hH0 hal hel
    go_enter Tryd.func24, Tryd.ntmps24
    go_wp2_with (go_at_call 30; refine (CN.out _ HT.out).mono ?_; rintro e w' ⟨rfl, rfl⟩)
    refine CF.out.mono ?_
    rintro e w' ⟨rfl, k, v', dk, rfl, hF⟩
    obtain ⟨os, ho⟩ := Lib.fin_at w (.cells Lib.zeros24 59) dk k 0
    have hcv : (convert 41 9 (.slice (some ⟨w.heap.size, 0, none⟩) (Lib.nDigits u) 24)).run Tryd.prog ((putRow (fun (b : UInt8) => Value.int .u8 (b.toNat : Int)) (w.alloc (.cells Lib.zeros24 59)) w.heap.size 0 dk).drewN k) = .ok (.string (numB u)) ((putRow (fun (b : UInt8) => Value.int .u8 (b.toNat : Int)) (w.alloc (.cells Lib.zeros24 59)) w.heap.size 0 dk).drewN k) := by
      have h := run_convert_bytes_back (P := Tryd.prog) ((putRow (fun (b : UInt8) => Value.int .u8 (b.toNat : Int)) (w.alloc (.cells Lib.zeros24 59)) w.heap.size 0 dk).drewN k) 41 9 5 ⟨w.heap.size, 0, none⟩ 24 (Lib.decDigits u) Tryd.underlying41 Tryd.underlying5 Tryd.underlying9 (fun j hj => by
        rw [Lib.row_is_numeral hF j hj, Lib.add_plain, World.cell?_drewN]
        exact cell?_putRow (fun (b : UInt8) => Value.int .u8 (b.toNat : Int)) _ w.heap.size 0 _ dk HH0.out (by rw [hF.size, Array.size_replicate]) j (by rw [hF.size]; rw [Lib.decDigits_length] at hj; exact hj))
      rw [Lib.decDigits_length] at h
      exact h
    rw [ho] at hcv ⊢
    have HB := Lib.hid (Lib.below_grow w.heap.size w (Nat.le_refl _) k os)
    clear ho
    generalize grow (w.drewN k) os = W at hcv HB ⊢
    go_wp2
    go_ret
    exact ⟨rfl, HB.out⟩

set_option maxRecDepth 100000 in
theorem number_any (u : Nat) (hu : u < 18446744073709551616) (w : World) (ht : Tab w) :
    Calls Tryd.prog 9 #[.int .u64 u] w fun e w' => e = .returned (.string (numB u)) ∧ Below w.heap.size w w' := by
  have CF := Lib.hid (fun w h => formatUint10 u hu w h)
  have HT := Lib.hid ht
  have CG : Hid (∀ w, Tab w → Calls Tryd.prog 17 #[.int .u64 u, .int .i64 10] w fun e w' => e = .returned (.string (numB u)) ∧ Below w.heap.size w w') := Lib.hid (by
    intro w h
    have HT := Lib.hid h
    clear ht
    go_enter Tryd.func17, Tryd.ntmps17
    go_wp2_with fail
    refine (CF.out _ HT.out).mono ?_
    rintro e w' ⟨rfl, hb⟩
    have HB := Lib.hid hb
    clear hb
    go_wp2
    go_ret
    exact ⟨rfl, HB.out⟩)
  clear ht
  go_enter Tryd.func9, Tryd.ntmps9
  go_wp2_with fail
  refine (CG.out _ HT.out).mono ?_
  rintro e w' ⟨rfl, hb⟩
  have HB := Lib.hid hb
  clear hb
  go_wp2
  go_ret
  exact ⟨rfl, HB.out⟩

end Text
end Go.Proofs.YtdcpbojknondcaaDoor
