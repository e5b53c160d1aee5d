/- Key of package text: a key's word. -/
import Derived.Test.YtdcpbojknondcaaDoorKit
namespace Go.Proofs.YtdcpbojknondcaaDoor
namespace Text
open Go.ChangeShapes Go.WideShapes Go.ChangeAt Go.RowKit
open Num Mem Words Chacha Aead

/-- the sign of a number below 64 -/
def sgn (n : Nat) : Nat := if n < 26 then 65 + n else if n < 52 then 71 + n else if n < 62 then n - 4 else if n = 62 then 43 else 47
theorem sgn_lt (n : Nat) (h : n < 64) : sgn n < 256 := by
  unfold sgn
  (repeat' split) <;> omega
/-- a key's bytes and a nought -/
def wide (f : Nat → Nat) (i : Nat) : Nat := if i < 32 then f i else 0
theorem wide_lt {f : Nat → Nat} (hf : ∀ i, f i < 256) (i : Nat) : wide f i < 256 := by
  unfold wide
  split
  · exact hf i
  · omega
/-- sign i of a key's word -/
def kwB (f : Nat → Nat) (i : Nat) : Nat := if i = 43 then 61 else sgn (be (wide f) (3 * (i / 4)) 3 / 2 ^ (18 - 6 * (i % 4)) % 64)
/-- what lies in the word's row when i signs are written -/
def kwTo (f : Nat → Nat) (n i : Nat) : Nat := if i < n then sgn (be (wide f) (3 * (i / 4)) 3 / 2 ^ (18 - 6 * (i % 4)) % 64) else 0

def signsB : ByteArray := { data := #[65, 66, 67, 68, 69, 70, 71, 72, 73, 74, 75, 76, 77, 78, 79, 80, 81, 82, 83, 84, 85, 86, 87, 88, 89, 90, 97, 98, 99, 100, 101, 102, 103, 104, 105, 106, 107, 108, 109, 110, 111, 112, 113, 114, 115, 116, 117, 118, 119, 120, 121, 122, 48, 49, 50, 51, 52, 53, 54, 55, 56, 57, 43, 47] }
theorem signs_get (d : Nat) (h : d < signsB.size) : (signsB[d]'h).toNat = sgn d := by
  have : ∀ x : Fin 64, (signsB[x.val]'(by exact x.isLt)).toNat = sgn x.val := by decide
  exact this ⟨d, h⟩
theorem be3_lt {f : Nat → Nat} (hf : ∀ i, f i < 256) (p : Nat) : be f p 3 < 2 ^ 24 := by
  have := be_lt hf p 3
  simpa using this
theorem and63 (V e : Nat) (hV : V < 2 ^ 24) : bits .and .u64 (((V : Nat) : Int) / 2 ^ e) 63 = ((V / 2 ^ e % 64 : Nat) : Int) := by
  have e1 : (((V : Nat) : Int) / 2 ^ e) = ((V / 2 ^ e : Nat) : Int) := by push_cast; rfl
  have h2 : V / 2 ^ e ≤ V := Nat.div_le_self _ _
  rw [e1]
  have h := u64_and_nat (V / 2 ^ e) 63 (by omega) (by omega)
  rw [show (63 : Nat) = 2 ^ 6 - 1 from rfl, Nat.and_two_pow_sub_one_eq_mod] at h
  exact h

set_option maxRecDepth 100000 in
set_option maxHeartbeats 4000000 in
theorem key_any (f : Nat → Nat) (hf : ∀ i, f i < 256) (w : World) : Calls Tryd.prog 14 #[.agg (byteCells f 32).toArray] w fun e w' => e = .returned (.string (strOf (kwB f) 44)) ∧ Below w.heap.size w w' := by
  have HF := Lib.hid hf
  obtain ⟨L, hL⟩ : ∃ L, (byteCells f 32).toArray = L := ⟨_, rfl⟩
  have HLS := Lib.hid (show L.size = 32 by rw [← hL, List.size_toArray, byteCells_length])
  have HLL := Lib.hid hL
  rw [hL]
  clear hL hf
  go_enter Tryd.func14, Tryd.ntmps14
  go_upto_region 2 with fail
  refine cut_world (fun W => Whole W w.heap.size 31 L ∧ Whole W (w.heap.size + 1) 47 (byteCells (fun _ => 0) 33).toArray ∧ Below w.heap.size w W) ⟨?_, ?_, ?_⟩ ?_
  · exact (whole_new _ _ rfl).alloc _
  · exact whole_new _ _ (by simp)
  · exact below_alloc (below_alloc (Below.refl _ _) _) _
  rintro W ⟨k1, k2, kb⟩
  rw [← HLL.out] at k1
  have K2D := Lib.hid (show Whole W.drew (w.heap.size + 1) 47 (byteCells (fun _ => 0) 33).toArray from k2.drew)
  have HS := Lib.hid (rd_src (w := W.drew) (b := w.heap.size) (off := 0) (n := 32) (f := f) (fun i hi => k1.drew.bytes i (by omega)))
  have KB := Lib.hid kb
  have hl2 := k2.lt
  clear k1 k2 kb
  generalize hB : w.heap.size = B at KB K2D HS hl2 ⊢
  go_region_law (refine step_copy_grown rfl (.tmp 9) (.tmp 10) 41 41 rfl 5 rfl (by kernel_rfl) (B + 1) 0 33 33 ⟨B, 0, none⟩ 32 32 rfl rfl (byteCells (fun _ => 0) 33) 47 K2D.out (byteCells f 32) (by rw [byteCells_length]; rfl) HS.out (by rw [byteCells_length, byteCells_length]; omega) (bytes_each _ _) ?_; intro w8 hg8 hb8)
  have L2 := Lib.hid (show Whole w8 (B + 1) 47 (byteCells (wide f) 33).toArray from by
    have h := hg8.out
    rw [byteCells_splice (fun _ => 0) f (wide f) 33 0 32 (by omega) (fun i hi => by
      unfold wide
      by_cases h32 : i < 32
      · rw [if_pos h32, if_pos (by omega), Nat.sub_zero]
      · rw [if_neg h32, if_neg (by omega)])] at h
    exact h)
  have LB := Lib.hid (below_grown (below_drewN KB.out 1) hb8 (by omega) (by show B ≤ W.heap.size; omega))
  have hl8 : B + 1 < w8.heap.size := L2.out.lt
  clear hg8 hb8 KB K2D HS hl2
  have hBl : B ≤ w8.heap.size := by omega
  go_upto_region 4 with fail
  refine cut_world (fun W => Whole W (B + 1) 47 (byteCells (wide f) 33).toArray ∧ Whole W w8.heap.size 43 (byteCells (kwTo f 0) 44).toArray ∧ Below B w W) ⟨?_, ?_, ?_⟩ ?_
  · exact L2.out.alloc _
  · rw [byteCells_congr (g := fun _ => 0) (fun i _ => by unfold kwTo; rw [if_neg (by omega)])]
    exact whole_new _ _ rfl
  · exact below_alloc' LB.out (by omega) _
  rintro W2 ⟨k1, k2, kb⟩
  have K1 := Lib.hid k1
  have K2 := Lib.hid k2
  have KB := Lib.hid kb
  clear k1 k2 kb L2 LB
  generalize w8.heap.size = g at K2 hl8 ⊢
  go_wp2
  go_loopw [12] (fun i wr => ∃ k : Nat, k ≤ 11 ∧ i = .int .i64 k ∧ Whole wr (B + 1) 47 (byteCells (wide f) 33).toArray ∧ Whole wr g 43 (byteCells (kwTo f (4 * k)) 44).toArray ∧ Below B w wr)
    (fun i _ => 11 - (intOf i).toNat)
  case atStart => exact ⟨0, Nat.zero_le _, rfl, K1.out, K2.out, KB.out⟩
  case round =>
    obtain ⟨k, hk, rfl, q1, q2, qb⟩ := hrel
    have Q1 := Lib.hid q1
    have Q2 := Lib.hid q2
    have QB := Lib.hid qb
    clear q2 qb
    by_cases hlt : k < 11
    · have C := Lib.hid (big_ok (B + 1) 0 33 33 (wide f) (wide_lt HF.out) (3 * k) 3 (by omega) (by omega) (by omega) (by omega) wr (fun i hi => q1.bytes i hi))
      clear q1
      have hT : (decide ((k : Int) < 11)) = true := decide_eq_true (by omega)
      rw [show (((3 * k : Nat) : Int)) = 3 * (k : Int) from by omega] at C
      go_wp2_with fail
      refine C.out.mono ?_
      rintro e w' ⟨rfl, rfl⟩
      go_wp2_with fail
      go_loopw [22] (fun i wr => ∃ m : Nat, m ≤ 4 ∧ i = .int .i64 m ∧ Whole wr (B + 1) 47 (byteCells (wide f) 33).toArray ∧ Whole wr g 43 (byteCells (kwTo f (4 * k + m)) 44).toArray ∧ Below B w wr)
        (fun i _ => 4 - (intOf i).toNat)
      case atStart => exact ⟨0, Nat.zero_le _, rfl, Q1.out, Q2.out, QB.out⟩
      case round =>
        clear Q1 Q2 QB
        obtain ⟨m, hm, rfl, q1, q2, qb⟩ := hrel
        by_cases hmt : m < 4
        · have hcell := q2.cell (4 * k + m)
          rw [List.getElem?_toArray, byteCells_get _ _ _ (by omega)] at hcell
          have hfree := q2.free (4 * k + m)
          have Q1 := Lib.hid q1
          have Q2 := Lib.hid q2
          have QB := Lib.hid qb
          clear q1 q2 qb
          have hT2 : (decide ((m : Int) < 4)) = true := decide_eq_true (by omega)
          obtain ⟨D, hD⟩ : ∃ D, be (wide f) (3 * k) 3 / 2 ^ (18 - 6 * m) % 64 = D := ⟨_, rfl⟩
          have hD64 : D < 64 := by rw [← hD]; exact Nat.mod_lt _ (by decide)
          have hbt : bits .and .u64 (((be (wide f) (3 * k) 3 : Nat) : Int) / 2 ^ (18 - 6 * m)) 63 = ((D : Nat) : Int) := by
            rw [← hD]
            exact and63 _ _ (be3_lt (wide_lt HF.out) _)
          have hix : D < signsB.size := hD64
          go_wp2
          have eS := signs_get D hix
          refine ⟨⟨m + 1, by omega, rfl, Q1.out.far (by show B + 1 ≠ g; omega) _, ?_, QB.out.setCell (by show B ≤ g; omega) _⟩, ?_⟩
          · have h := Q2.out.put (4 * k + m) (.int .u8 ((sgn D : Nat) : Int))
            rw [byteCells_set, byteCells_congr (g := kwTo f (4 * k + (m + 1))) (fun i hi => ?_)] at h
            · rw [← eS] at h
              exact h
            · unfold kwTo
              by_cases e : i = 4 * k + m
              · rw [if_pos e, if_pos (by omega), ← hD, e, show (4 * k + m) / 4 = k by omega, show (4 * k + m) % 4 = m by omega]
              · rw [if_neg e]
                by_cases e2 : i < 4 * k + m
                · rw [if_pos e2, if_pos (by omega)]
                · rw [if_neg e2, if_neg (by omega)]
          · show 4 - ((m : Int) + 1).toNat < 4 - (m : Int).toNat
            omega
        · obtain rfl : m = 4 := by omega
          have Q1 := Lib.hid q1
          have Q2 := Lib.hid q2
          have QB := Lib.hid qb
          clear q1 q2 qb
          go_wp2
          refine ⟨⟨k + 1, by omega, rfl, Q1.out, by rw [show 4 * (k + 1) = 4 * k + 4 by omega]; exact Q2.out, QB.out⟩, ?_⟩
          show 11 - ((k : Int) + 1).toNat < 11 - (k : Int).toNat
          omega
    · obtain rfl : k = 11 := by omega
      have hcell := Q2.out.cell 43
      rw [List.getElem?_toArray, byteCells_get _ _ _ (by omega)] at hcell
      have hfree := Q2.out.free 43
      go_upto_region 15 with fail
      refine cut_world (fun X => Whole X g 43 (byteCells (kwB f) 44).toArray ∧ Below B w X) ⟨?_, ?_⟩ ?_
      · have h := Q2.out.put 43 (.int .u8 ((61 : Nat) : Int))
        rw [byteCells_set, byteCells_congr (g := kwB f) (fun i hi => ?_)] at h
        · exact h
        · unfold kwB kwTo
          by_cases e : i = 43
          · rw [if_pos e, if_pos e]
          · rw [if_neg e, if_neg e, if_pos (by omega)]
      · exact QB.out.setCell (by show B ≤ g; omega) _
      rintro X ⟨p1, pb⟩
      have hcv := run_string_of (P := Tryd.prog) (c := 44) 41 9 5 Tryd.underlying41 Tryd.underlying5 Tryd.underlying9 (Rd.of_whole p1)
      have PB := Lib.hid pb
      clear p1 pb hcell hfree
      go_wp2
      go_ret
      exact ⟨rfl, by rw [hB]; exact PB.out⟩

end Text
end Go.Proofs.YtdcpbojknondcaaDoor
