/- The call Xor of package chacha. -/
import Derived.Test.YtdffbjlbhjppeaaBlock
import Derived.Test.YtdffbjlbhjppeaaStr
namespace Go.Proofs.Ytdffbjlbhjppeaa
namespace Chacha
open Go.ChangeShapes Go.WideShapes Go.ChangeAt Go.RowKit
open Num Mem Words State Quiet

theorem blk_lt (key nonce : Nat → Nat) (ctr j : Nat) : blk key nonce ctr j < 256 := byteAt_lt _ _

/-- what b is xor'ed to -/
def xo (key nonce : Nat → Nat) (ctr : Nat) (f : Nat → Nat) (j : Nat) : Nat := f j ^^^ blk key nonce (ctr + j / 64) (j % 64)

set_option maxRecDepth 100000 in
theorem xor_long (key nonce : Nat → Nat) (ctr : Nat) (A : Option Addr) (n c : Nat) (h : 65536 < n) (hn : n ≤ 140737488355328) (w : World) :
    Calls Try.prog 41 #[.agg (byteCells key 32).toArray, .agg (byteCells nonce 12).toArray, .int .u32 ctr, .slice A n c] w fun e w' => e = .returned (.tuple #[.slice none 0 0, .int .i64 2]) ∧ Below w.heap.size w w' := by
  rw [byteCells_lit32, byteCells_lit12]
  go_enter Try.func41, Try.ntmps41
  go_wp2
  go_ret2
  exact ⟨rfl, below_alloc (below_alloc (Below.refl _ _) _) _⟩

set_option maxRecDepth 100000 in
theorem xor_over (key nonce : Nat → Nat) (ctr : Nat) (hc : ctr < 4294967296) (A : Option Addr) (n c : Nat) (h : n ≤ 65536) (hfit : 4294967296 < ctr + (n + 63) / 64) (w : World) :
    Calls Try.prog 41 #[.agg (byteCells key 32).toArray, .agg (byteCells nonce 12).toArray, .int .u32 ctr, .slice A n c] w fun e w' => e = .returned (.tuple #[.slice none 0 0, .int .i64 2]) ∧ Below w.heap.size w w' := by
  rw [byteCells_lit32, byteCells_lit12]
  go_enter Try.func41, Try.ntmps41
  go_wp2_with fail
  go_ret2
  exact ⟨rfl, below_alloc (below_alloc (Below.refl _ _) _) _⟩

/-- the first k are xor'ed -/
def xpart (key nonce : Nat → Nat) (ctr : Nat) (f : Nat → Nat) (k j : Nat) : Nat := if j < k then xo key nonce ctr f j else f j

theorem rd_copy {w : World} {A : Option Addr} {n g : Nat} {f : Nat → Nat} (h : Rd w A n f) : 0 < (byteCells f n).length → (some (⟨g, 0, none⟩ : Addr) = some ⟨g, 0, none⟩) ∧ ∃ ad, A = some ad ∧ ∀ (j : Nat) (v : Value), (byteCells f n)[j]? = some v → w.cell? (ad.add j) = some v := by
  intro h0
  rw [byteCells_length] at h0
  rcases h with h | ⟨b, off, hA, _, hc⟩
  · omega
  · refine ⟨rfl, _, hA, fun j v hj => ?_⟩
    have hj' : j < n := by
      rcases Nat.lt_or_ge j n with k | k
      · exact k
      · rw [List.getElem?_eq_none (by rw [byteCells_length]; exact k)] at hj
        cases hj
    rw [byteCells_get f n j hj'] at hj
    have h2 := hc j hj'
    rw [hj] at h2
    by_cases h0 : j = 0
    · subst h0
      simpa [Addr.add] using h2
    · simpa [Addr.add, h0] using h2

theorem rd_more3 {w : World} {A : Option Addr} {n : Nat} {f : Nat → Nat} (h : Rd w A n f) (a b c : Obj) : Rd (((w.alloc a).alloc b).alloc c) A n f :=
  h.below (below_alloc (below_alloc (below_alloc (Below.refl _ _) _) _) _) (Nat.le_refl _)

set_option maxRecDepth 100000 in
set_option maxHeartbeats 2000000 in
theorem xor_ok (key nonce : Nat → Nat) (hk : ∀ i, key i < 256) (hno : ∀ i, nonce i < 256) (ctr : Nat) (hc : ctr < 4294967296) (A : Option Addr) (n c : Nat) (f : Nat → Nat) (hf : ∀ i, f i < 256) (h : n ≤ 65536) (hfit : ctr + (n + 63) / 64 ≤ 4294967296) (w : World) (hA : Rd w A n f) :
    Calls Try.prog 41 #[.agg (byteCells key 32).toArray, .agg (byteCells nonce 12).toArray, .int .u32 ctr, .slice A n c] w fun e w' => ∃ g, e = .returned (.tuple #[.slice (some ⟨g, 0, none⟩) n n, .int .i64 0]) ∧ Whole w' g 5 (byteCells (xo key nonce ctr f) n).toArray ∧ Below w.heap.size w w' := by
  have HKF := Lib.hid hk
  have HNF := Lib.hid hno
  have HFF := Lib.hid hf
  have HA := Lib.hid hA
  have hm : ((n : Int) + 64 - 1) / 64 = (((n + 63) / 64 : Nat) : Int) := by omega
  have hmn : 64 * ((n + 63) / 64) < n + 64 := by omega
  have hmn2 : n ≤ 64 * ((n + 63) / 64) := by omega
  have h1 : (n : Int) ≤ 65536 := by omega
  have h2 : (ctr : Int) + (((n + 63) / 64 : Nat) : Int) ≤ 4294967296 := by omega
  generalize (n + 63) / 64 = m at hm hmn hmn2 h2 hfit
  have HM := Lib.hid hm
  clear hk hno hf hA hm
  rw [byteCells_lit32, byteCells_lit12]
  go_enter Try.func41, Try.ntmps41
  have h3 : (ctr : Int) + ((n : Int) + 64 - 1) / 64 ≤ 4294967296 := by rw [HM.out]; exact h2
  go_wp2_with fail
  simp only [HM.out]
  rw [made_bytes n (by omega)]
  go_wp2_with (first | (refine wpList_copy_splice rfl (.tmp 33) (.tmp 34) 23 23 rfl 5 rfl (by kernel_rfl) (some ⟨w.heap.size + 1 + 1, 0, none⟩) A n n n c rfl rfl (w.heap.size + 1 + 1) 0 (byteCells (fun _ => 0) n) 5 (whole_new _ _ (by simp)) (byteCells f n) (by rw [byteCells_length]; exact (Nat.min_self n).symm) (rd_copy (rd_more3 HA.out _ _ _)) (by rw [byteCells_length, byteCells_length]; omega) (bytes_each _ _) (w.heap.size + 1 + 1) _ (Below.refl _ _) (Nat.le_refl _) ?_))
  intro w4 hg4 hb4
  have k1 : Whole w4 w.heap.size 40 (byteCells key 32).toArray := by
    rw [byteCells_lit32]
    exact ((((whole_new _ _ rfl).alloc _).alloc _).below hb4 (by omega))
  have k2 : Whole w4 (w.heap.size + 1) 41 (byteCells nonce 12).toArray := by
    rw [byteCells_lit12]
    exact (((whole_new _ _ (by simp)).alloc _).below hb4 (by omega))
  have k3 : Whole w4 (w.heap.size + 1 + 1) 5 (byteCells (xpart key nonce ctr f 0) n).toArray := by
    have h := hg4.out
    rw [byteCells_splice (fun _ => 0) f (xpart key nonce ctr f 0) n 0 n (by omega) (fun i hi => by rw [if_pos ⟨Nat.zero_le _, by omega⟩]; rfl)] at h
    exact h
  have kb : Below w.heap.size w w4 := (below_alloc (below_alloc (below_alloc (Below.refl _ _) _) _) _).trans (hb4.mono (by omega))
  have K1 := Lib.hid k1
  have K2 := Lib.hid k2
  have K3 := Lib.hid k3
  have KB := Lib.hid kb
  clear k1 k2 k3 kb hg4 hb4
  generalize hB : w.heap.size = B at K1 K2 K3 KB ⊢
  go_wp2_with fail
  go_loopw [37] (fun i wr => ∃ k : Nat, k ≤ m ∧ i = .int .i64 k ∧ Whole wr B 40 (byteCells key 32).toArray ∧ Whole wr (B + 1) 41 (byteCells nonce 12).toArray ∧ Whole wr (B + 1 + 1) 5 (byteCells (xpart key nonce ctr f (64 * k)) n).toArray ∧ Below B w wr) (fun i _ => m - (intOf i).toNat)
  case atStart => exact ⟨0, by omega, rfl, K1.out, K2.out, K3.out, KB.out⟩
  case round =>
    obtain ⟨k, hk, rfl, q1, q2, q3, qb⟩ := hrel
    by_cases hlt : k < m
    · have Q1 := Lib.hid q1
      have Q2 := Lib.hid q2
      have Q3 := Lib.hid q3
      have QB := Lib.hid qb
      have HCK := Lib.hid (show ((ctr : Int) + (k : Int)) = ((ctr + k : Nat) : Int) by omega)
      have i1 : (k : Int) < m := by omega
      have i2 : 64 * (k : Int) ≤ n := by omega
      have i3 : ¬ n = 64 * k := by omega
      clear q1 q2 q3 qb
      go_wp2_with (first | (refine wpList_load_row rfl 40 (.tmp 4) rfl B rfl 40 (byteCells key 32).toArray (0, 0) _ Q1.out rfl rfl (by kernel_rfl) ?_) | (refine wpList_load_row rfl 41 (.tmp 5) rfl (B + 1) rfl 41 (byteCells nonce 12).toArray (0, 0) _ Q2.out rfl rfl (by kernel_rfl) ?_))
      rw [HCK.out]
      refine (block_any key nonce HKF.out HNF.out (ctr + k) (by omega) _).mono ?_
      rintro e w1 ⟨rfl, hb1⟩
      have P1 := Lib.hid (Q1.out.below hb1 Q1.out.lt)
      have P2 := Lib.hid (Q2.out.below hb1 Q2.out.lt)
      have P3 := Lib.hid (Q3.out.below hb1 Q3.out.lt)
      have lq := Q3.out.lt
      have PB := Lib.hid (QB.out.trans (hb1.mono (by omega)))
      have lp := P3.out.lt
      clear hb1
      have HZ64 := Lib.hid (show (byteCells (blk key nonce (ctr + k)) 64).toArray.size = 64 by rw [List.size_toArray, byteCells_length])
      by_cases hp : n - 64 * k ≤ 64
      · have hp' : ((n - 64 * k : Nat) : Int) ≤ 64 := by omega
        go_wp2_with (refine wpList_store_row rfl 90 (.tmp 13) (.tmp 46) rfl w1.heap.size (byteCells (blk key nonce (ctr + k)) 64).toArray rfl rfl 90 _ (Whole.new _ _ _) (by rw [HZ64.out]; kernel_rfl) (by rw [HZ64.out]; rfl) (bytes_one _ _) ?_)
        refine cut_world (fun X => Whole X B 40 (byteCells key 32).toArray ∧ Whole X (B + 1) 41 (byteCells nonce 12).toArray ∧ Whole X (B + 1 + 1) 5 (byteCells (xpart key nonce ctr f (64 * k)) n).toArray ∧ Whole X w1.heap.size 90 (byteCells (blk key nonce (ctr + k)) 64).toArray ∧ Below B w X) ⟨Whole.farRow (P1.out.alloc _) (Nat.ne_of_lt P1.out.lt) _, Whole.farRow (P2.out.alloc _) (Nat.ne_of_lt P2.out.lt) _, Whole.farRow (P3.out.alloc _) (Nat.ne_of_lt P3.out.lt) _, setRow_heap _ _ _ _ _ _ (Whole.new _ _ _), below_setRow (below_alloc' PB.out (by omega) _) (by omega) _⟩ ?_
        rintro X ⟨x1, x2, x3, x4, xb⟩
        have X1 := Lib.hid x1
        have X2 := Lib.hid x2
        have X3 := Lib.hid x3
        have X4 := Lib.hid x4
        have XB := Lib.hid xb
        clear x1 x2 x3 x4 xb P1 P2 P3 PB
        generalize w1.heap.size = g13 at X4 lp ⊢
        go_loopw [54] (fun i wr => ∃ j : Nat, j ≤ (n - 64 * k) ∧ i = .int .i64 j ∧ Whole wr B 40 (byteCells key 32).toArray ∧ Whole wr (B + 1) 41 (byteCells nonce 12).toArray ∧ Whole wr (B + 1 + 1) 5 (byteCells (xpart key nonce ctr f (64 * k + j)) n).toArray ∧ Whole wr g13 90 (byteCells (blk key nonce (ctr + k)) 64).toArray ∧ Below B w wr) (fun i _ => (n - 64 * k) - (intOf i).toNat)
        case atStart => exact ⟨0, by omega, rfl, X1.out, X2.out, X3.out, X4.out, XB.out⟩
        case round =>
          obtain ⟨j, hj, rfl, y1, y2, y3, y4, yb⟩ := hrel
          by_cases hlj : j < (n - 64 * k)
          · as_aux_lemma =>
            have c3 : wr.cell? ⟨B + 1 + 1, 64 * k + j, none⟩ = some (.int .u8 (f (64 * k + j) : Nat)) := by
              rw [y3.cell, List.getElem?_toArray, byteCells_get _ _ _ (by omega)]
              unfold xpart
              rw [if_neg (by omega)]
            have c4 : wr.cell? ⟨g13, j, none⟩ = some (.int .u8 (blk key nonce (ctr + k) j : Nat)) := by
              rw [y4.cell, List.getElem?_toArray, byteCells_get _ _ _ (by omega)]
            have f3 := y3.free (64 * k + j)
            have b1 := HFF.out (64 * k + j)
            have b2 := blk_lt key nonce (ctr + k) j
            have hx := u8_xor_nat (f (64 * k + j)) (blk key nonce (ctr + k) j) b1 b2
            have hy3 := y3.put (64 * k + j) (.int .u8 ((f (64 * k + j) ^^^ blk key nonce (ctr + k) j : Nat) : Int))
            rw [byteCells_set, byteCells_congr (g := xpart key nonce ctr f (64 * k + (j + 1))) (fun i hi => by
              unfold xpart
              by_cases e : i = 64 * k + j
              · subst e
                rw [if_pos rfl, if_pos (by omega)]
                unfold xo
                rw [show (64 * k + j) / 64 = k by omega, show (64 * k + j) % 64 = j by omega]
              · rw [if_neg e]
                by_cases e2 : i < 64 * k + j
                · rw [if_pos e2, if_pos (by omega)]
                · rw [if_neg e2, if_neg (by omega)])] at hy3
            have Y1 := Lib.hid y1
            have Y2 := Lib.hid y2
            have Y3 := Lib.hid hy3
            have Y4 := Lib.hid y4
            have YB := Lib.hid yb
            have HX := Lib.hid hx
            have l3 := y3.lt
            have lne : B + 1 + 1 ≠ g13 := by omega
            generalize f (64 * k + j) = p at c3 b1 HX Y3
            generalize blk key nonce (ctr + k) j = q at c4 b2 HX Y3
            clear y1 y2 y3 y4 yb hx hy3
            have hjI : (j : Int) < 64 := by omega
            go_wp2_with fail
            go_region
            go_wp2_with fail
            rw [HX.out]
            go_roundw
            case rel => exact ⟨j + 1, by omega, by go_num, (Y1.out.far (by first | (simp; done) | (simp; omega)) _).drew, (Y2.out.far (by first | (simp; done) | (simp; omega)) _).drew, Y3.out.drew, (Y4.out.far (by first | (simp; done) | (simp; omega)) _).drew, below_drewN (YB.out.setCell (by simp; omega) _) 1⟩
            case measure => simp [intOf]; omega
          · obtain rfl : j = (n - 64 * k) := by omega
            have Y1 := Lib.hid y1
            have Y2 := Lib.hid y2
            have Y3 := Lib.hid y3
            have Y4 := Lib.hid y4
            have YB := Lib.hid yb
            clear y1 y2 y3 y4 yb
            go_wp2_with fail
            go_roundw
            case rel => exact ⟨k + 1, by omega, by go_num, Y1.out, Y2.out, by
              rw [byteCells_congr (g := xpart key nonce ctr f (64 * k + (n - 64 * k))) (fun i hi => by
                unfold xpart
                by_cases e2 : i < 64 * k + (n - 64 * k)
                · rw [if_pos e2, if_pos (by omega)]
                · rw [if_neg e2, if_neg (by omega)])]
              exact Y3.out, YB.out⟩
            case measure => simp [intOf]; omega
      · have hp' : (64 : Int) < ((n - 64 * k : Nat) : Int) := by omega
        go_wp2_with (refine wpList_store_row rfl 90 (.tmp 13) (.tmp 46) rfl w1.heap.size (byteCells (blk key nonce (ctr + k)) 64).toArray rfl rfl 90 _ (Whole.new _ _ _) (by rw [HZ64.out]; kernel_rfl) (by rw [HZ64.out]; rfl) (bytes_one _ _) ?_)
        refine cut_world (fun X => Whole X B 40 (byteCells key 32).toArray ∧ Whole X (B + 1) 41 (byteCells nonce 12).toArray ∧ Whole X (B + 1 + 1) 5 (byteCells (xpart key nonce ctr f (64 * k)) n).toArray ∧ Whole X w1.heap.size 90 (byteCells (blk key nonce (ctr + k)) 64).toArray ∧ Below B w X) ⟨Whole.farRow (P1.out.alloc _) (Nat.ne_of_lt P1.out.lt) _, Whole.farRow (P2.out.alloc _) (Nat.ne_of_lt P2.out.lt) _, Whole.farRow (P3.out.alloc _) (Nat.ne_of_lt P3.out.lt) _, setRow_heap _ _ _ _ _ _ (Whole.new _ _ _), below_setRow (below_alloc' PB.out (by omega) _) (by omega) _⟩ ?_
        rintro X ⟨x1, x2, x3, x4, xb⟩
        have X1 := Lib.hid x1
        have X2 := Lib.hid x2
        have X3 := Lib.hid x3
        have X4 := Lib.hid x4
        have XB := Lib.hid xb
        clear x1 x2 x3 x4 xb P1 P2 P3 PB
        generalize w1.heap.size = g13 at X4 lp ⊢
        go_loopw [54] (fun i wr => ∃ j : Nat, j ≤ 64 ∧ i = .int .i64 j ∧ Whole wr B 40 (byteCells key 32).toArray ∧ Whole wr (B + 1) 41 (byteCells nonce 12).toArray ∧ Whole wr (B + 1 + 1) 5 (byteCells (xpart key nonce ctr f (64 * k + j)) n).toArray ∧ Whole wr g13 90 (byteCells (blk key nonce (ctr + k)) 64).toArray ∧ Below B w wr) (fun i _ => 64 - (intOf i).toNat)
        case atStart => exact ⟨0, by omega, rfl, X1.out, X2.out, X3.out, X4.out, XB.out⟩
        case round =>
          obtain ⟨j, hj, rfl, y1, y2, y3, y4, yb⟩ := hrel
          by_cases hlj : j < 64
          · as_aux_lemma =>
            have c3 : wr.cell? ⟨B + 1 + 1, 64 * k + j, none⟩ = some (.int .u8 (f (64 * k + j) : Nat)) := by
              rw [y3.cell, List.getElem?_toArray, byteCells_get _ _ _ (by omega)]
              unfold xpart
              rw [if_neg (by omega)]
            have c4 : wr.cell? ⟨g13, j, none⟩ = some (.int .u8 (blk key nonce (ctr + k) j : Nat)) := by
              rw [y4.cell, List.getElem?_toArray, byteCells_get _ _ _ (by omega)]
            have f3 := y3.free (64 * k + j)
            have b1 := HFF.out (64 * k + j)
            have b2 := blk_lt key nonce (ctr + k) j
            have hx := u8_xor_nat (f (64 * k + j)) (blk key nonce (ctr + k) j) b1 b2
            have hy3 := y3.put (64 * k + j) (.int .u8 ((f (64 * k + j) ^^^ blk key nonce (ctr + k) j : Nat) : Int))
            rw [byteCells_set, byteCells_congr (g := xpart key nonce ctr f (64 * k + (j + 1))) (fun i hi => by
              unfold xpart
              by_cases e : i = 64 * k + j
              · subst e
                rw [if_pos rfl, if_pos (by omega)]
                unfold xo
                rw [show (64 * k + j) / 64 = k by omega, show (64 * k + j) % 64 = j by omega]
              · rw [if_neg e]
                by_cases e2 : i < 64 * k + j
                · rw [if_pos e2, if_pos (by omega)]
                · rw [if_neg e2, if_neg (by omega)])] at hy3
            have Y1 := Lib.hid y1
            have Y2 := Lib.hid y2
            have Y3 := Lib.hid hy3
            have Y4 := Lib.hid y4
            have YB := Lib.hid yb
            have HX := Lib.hid hx
            have l3 := y3.lt
            have lne : B + 1 + 1 ≠ g13 := by omega
            generalize f (64 * k + j) = p at c3 b1 HX Y3
            generalize blk key nonce (ctr + k) j = q at c4 b2 HX Y3
            clear y1 y2 y3 y4 yb hx hy3
            have hjI : (j : Int) < 64 := by omega
            go_wp2_with fail
            go_region
            go_wp2_with fail
            rw [HX.out]
            go_roundw
            case rel => exact ⟨j + 1, by omega, by go_num, (Y1.out.far (by first | (simp; done) | (simp; omega)) _).drew, (Y2.out.far (by first | (simp; done) | (simp; omega)) _).drew, Y3.out.drew, (Y4.out.far (by first | (simp; done) | (simp; omega)) _).drew, below_drewN (YB.out.setCell (by simp; omega) _) 1⟩
            case measure => simp [intOf]; omega
          · obtain rfl : j = 64 := by omega
            have Y1 := Lib.hid y1
            have Y2 := Lib.hid y2
            have Y3 := Lib.hid y3
            have Y4 := Lib.hid y4
            have YB := Lib.hid yb
            clear y1 y2 y3 y4 yb
            go_wp2_with fail
            go_roundw
            case rel => exact ⟨k + 1, by omega, by go_num, Y1.out, Y2.out, by
              rw [byteCells_congr (g := xpart key nonce ctr f (64 * k + 64)) (fun i hi => by
                unfold xpart
                by_cases e2 : i < 64 * k + 64
                · rw [if_pos e2, if_pos (by omega)]
                · rw [if_neg e2, if_neg (by omega)])]
              exact Y3.out, YB.out⟩
            case measure => simp [intOf]; omega
    · obtain rfl : k = m := by omega
      have Q3 := Lib.hid q3
      have QB := Lib.hid qb
      clear q1 q2 q3 qb
      go_wp2_with fail
      go_ret2
      refine ⟨_, rfl, ?_, by rw [hB]; exact QB.out⟩
      rw [byteCells_congr (g := xpart key nonce ctr f (64 * k)) (fun i hi => by
        unfold xpart
        rw [if_pos (by omega)])]
      exact Q3.out

end Chacha
end Go.Proofs.Ytdffbjlbhjppeaa
