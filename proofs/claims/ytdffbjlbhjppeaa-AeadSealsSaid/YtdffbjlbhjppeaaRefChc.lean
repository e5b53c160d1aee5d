/- The document's own answers of layer 2 (package aditref02): Block, Derive. -/
import Derived.Test.YtdffbjlbhjppeaaRefChb
import Derived.Test.YtdffbjlbhjppeaaCatB
namespace Go.Proofs.Ytdffbjlbhjppeaa
namespace Ref
open Go.ChangeShapes Go.WideShapes Go.ChangeAt Go.RowKit
open Num Mem Words State Chacha Quiet

/-- the first k of t with those of s added -/
def mixed (t s : List Nat) (k : Nat) : List Nat := (List.range t.length).map fun j => if j < k then (t.getD j 0 + s.getD j 0) % 4294967296 else t.getD j 0
theorem mixed_length (t s : List Nat) (k : Nat) : (mixed t s k).length = t.length := by simp [mixed]
theorem mixed_get (t s : List Nat) (k j : Nat) (h : j < t.length) : (mixed t s k).getD j 0 = if j < k then (t.getD j 0 + s.getD j 0) % 4294967296 else t.getD j 0 := by
  unfold mixed
  rw [List.getD_eq_getElem?_getD, List.getElem?_map, List.getElem?_range h]
  rfl
theorem mixed_zero (t s : List Nat) : mixed t s 0 = t := by
  apply List.ext_getElem?
  intro i
  unfold mixed
  by_cases h : i < t.length
  · simp [h]
  · simp [h]
theorem mixed_set (t s : List Nat) (k : Nat) : (mixed t s k).set k ((t.getD k 0 + s.getD k 0) % 4294967296) = mixed t s (k + 1) := by
  apply List.ext_getElem?
  intro i
  rw [List.getElem?_set]
  by_cases h : i < t.length
  · by_cases e : k = i
    · subst e
      simp [mixed, h]
    · rw [if_neg e]
      by_cases h2 : i < k
      · have : i < k + 1 := by omega
        simp [mixed, h, h2, this]
      · have : ¬ i < k + 1 := by omega
        simp [mixed, h, h2, this]
  · by_cases e : k = i
    · subst e
      simp [mixed, h]
    · simp [mixed, h, e]

/-- the counter's bytes and a nonce -/
def rest (ctr : Nat) (nonce : Nat → Nat) (i : Nat) : Nat := if i < 4 then byteAt ctr i else nonce (i - 4)
theorem rest_lt (ctr : Nat) (nonce : Nat → Nat) (h : ∀ i, nonce i < 256) (i : Nat) : rest ctr nonce i < 256 := by
  unfold rest
  split
  · exact byteAt_lt _ _
  · exact h _
theorem rest_four (ctr : Nat) (nonce : Nat → Nat) (h : ctr < 4294967296) : [le (rest ctr nonce) 0 4, le (rest ctr nonce) 4 4, le (rest ctr nonce) 8 4, le (rest ctr nonce) 12 4] = [ctr, le nonce 0 4, le nonce 4 4, le nonce 8 4] := by
  have e0 : le (rest ctr nonce) 0 4 = ctr := by
    rw [show le (rest ctr nonce) 0 4 = le (byteAt ctr) 0 4 from le_congr 4 fun i hi => by unfold rest; rw [if_pos (by omega)]]
    exact le_byteAt ctr 4 h
  have e1 : ∀ p, le (rest ctr nonce) (4 + p) 4 = le nonce p 4 := fun p => le_congr 4 fun i hi => by unfold rest; rw [if_neg (by omega)]; congr 1; omega
  rw [e0, show (4 : Nat) = 4 + 0 from rfl, e1 0, show (8 : Nat) = 4 + 4 from rfl, e1 4, show (12 : Nat) = 4 + 8 from rfl, e1 8]

theorem ownW_more {w : World} {B B' g c : Nat} {s : List Nat} (h : OwnW w B g c s) (hB : B' ≤ B) : OwnW w B' g c s := owns_more h hB
theorem ownW_kept {w w' : World} {B g c h : Nat} {s : List Nat} (o : OwnW w B g c s) (hg : w.grownBy w' (some h)) (hne : g ≠ h) : OwnW w' B g c s :=
  World.ownsRow.kept o hg (.inr (by simp [Value.ownBlock]; exact hne))

theorem blk_spread (key nonce : Nat → Nat) (ctr : Nat) (j : Nat) (hj : j < 64) : spread (mixed (stir (first key [ctr, le nonce 0 4, le nonce 4 4, le nonce 8 4])) (first key [ctr, le nonce 0 4, le nonce 4 4, le nonce 8 4]) 16) j = blk key nonce ctr j := by
  unfold spread blk sums
  rw [mixed_get _ _ _ _ (by rw [stir, rounds_length]; simp [first, nums]; omega), if_pos (by omega)]

set_option maxRecDepth 100000 in
set_option maxHeartbeats 1000000 in
theorem block_ref (b off c b' off' c' : Nat) (key nonce : Nat → Nat) (hk : ∀ i, key i < 256) (hno : ∀ i, nonce i < 256) (ctr : Nat) (hctr : ctr < 4294967296) (hc : 32 ≤ c) (hcm : c ≤ 9223372036854775807) (w : World) (hblk : b < w.heap.size) (hblk' : b' < w.heap.size)
    (hcell : ∀ i, i < 32 → w.cell? ⟨b, off + i, none⟩ = some (.int .u8 (key i))) (hcell' : ∀ i, i < 12 → w.cell? ⟨b', off' + i, none⟩ = some (.int .u8 (nonce i))) :
    Calls Try.prog 60 #[.slice (some ⟨b, off, none⟩) 32 c, .slice (some ⟨b', off', none⟩) 12 c', .int .u64 ctr] w fun e w' => ∃ g d, e = .returned (.slice (some ⟨g, 0, none⟩) 64 d) ∧ Own w' w.heap.size 5 (some ⟨g, 0, none⟩) 64 d (blk key nonce ctr) ∧ Below w.heap.size w w' := by
  have HC := Lib.hid hcell
  have HC' := Lib.hid hcell'
  have HK := Lib.hid hk
  have HN := Lib.hid hno
  clear hcell hcell' hk hno
  go_enter Try.func60, Try.ntmps60
  go_wp2_with fail
  refine (bytes_any ctr 4 (by omega) (by omega) _).mono ?_
  rintro e w1 ⟨A1, c1, rfl, ho1, hb1⟩
  have HO1 := Lib.hid ho1
  have HL1 := Lib.hid hb1
  have hsz1 := hb1.size
  clear ho1 hb1
  go_wp2_with (first
    | (at_builtin; refine wpList_cat rfl _ _ 23 5 (.int .u8 0) 1 Try.underlying23 info_u8 rfl rfl rfl HO1.out HL1.out hsz1 ⟨b', off', none⟩ 12 c' rfl (byteCells nonce 12) (byteCells_length _ _) (rd_src fun i hi => (HL1.out.cell (p := ⟨b', off' + i, none⟩) hblk').trans (HC'.out i hi)) (bytes_each _ _) (by omega) (by omega) ?_; intro A2 c2 w2 ho2 hb2 hsz2 _; have HO2 := Lib.hid ho2; have HL2 := Lib.hid hb2; clear ho2 hb2))
  obtain ⟨g2, rfl, hg2, hg2'⟩ := owns_some HO2.out (by omega)
  have HR2 := Lib.hid (show Own w2 w.heap.size 5 (some ⟨g2, 0, none⟩) 16 c2 (rest ctr nonce) by
    have h := HO2.out
    rw [byteCells_append] at h
    exact h)
  have hc2 : 16 ≤ c2 ∧ c2 ≤ 9223372036854775807 := by
    rcases HO2.out.2 with ⟨_, h0⟩ | ⟨_, cap, _, e', _, _, h1, h2, _⟩
    · omega
    · injection e' with e1 e2 e3
      subst e3
      exact ⟨h1, by simpa [maxLen] using h2⟩
  clear HO2
  have hcr : ∀ i, i < 16 → w2.cell? ⟨g2, 0 + i, none⟩ = some (.int .u8 (rest ctr nonce i : Nat)) := by
    rcases HR2.out.rd with h | ⟨b2, o2, e2, _, h⟩
    · omega
    · injection e2 with e2
      injection e2 with e2 e3
      subst e2
      subst e3
      exact h
  have HCR := Lib.hid hcr
  clear hcr
  refine (first_ref b off c g2 0 c2 key (rest ctr nonce) HK.out (rest_lt ctr nonce HN.out) hc hcm hc2.1 hc2.2 w2 (Nat.lt_of_lt_of_le hblk HL2.out.size) hg2' (fun i hi => (HL2.out.cell (p := ⟨b, off + i, none⟩) hblk).trans (HC.out i hi)) HCR.out).mono ?_
  rintro e w3 ⟨g3, d3, rfl, ho3, hb3⟩
  rw [rest_four ctr nonce hctr] at ho3
  have HO3 := Lib.hid ho3
  have HL3 := Lib.hid (HL2.out.trans (hb3.mono hsz2))
  have HB3 := Lib.hid hb3
  have hsz3 := hb3.size
  clear ho3 hb3
  go_wp2_with fail
  refine (first_ref b off c g2 0 c2 key (rest ctr nonce) HK.out (rest_lt ctr nonce HN.out) hc hcm hc2.1 hc2.2 w3 (Nat.lt_of_lt_of_le hblk HL3.out.size) (by omega) (fun i hi => (HL3.out.cell (p := ⟨b, off + i, none⟩) hblk).trans (HC.out i hi)) (fun i hi => (HB3.out.cell (p := ⟨g2, 0 + i, none⟩) hg2').trans (HCR.out i hi))).mono ?_
  rintro e w4 ⟨g4, d4, rfl, ho4, hb4⟩
  rw [rest_four ctr nonce hctr] at ho4
  have hlt34 : g3 < g4 := Nat.lt_of_lt_of_le HO3.out.lt ho4.ge
  have hlen : (first key [ctr, le nonce 0 4, le nonce 4 4, le nonce 8 4]).length = 16 := by simp [first, nums]
  have hfits : Fits (first key [ctr, le nonce 0 4, le nonce 4 4, le nonce 8 4]) := first_fits key HK.out ctr _ _ _ hctr (le_lt HN.out 0 4) (le_lt HN.out 4 4) (le_lt HN.out 8 4)
  have hspr := blk_spread key nonce ctr
  have ho3' := HO3.out
  generalize first key [ctr, le nonce 0 4, le nonce 4 4, le nonce 8 4] = F at ho4 ho3' hlen hfits hspr
  have P3 := Lib.hid (ownW_more (ho3'.below hb4 HO3.out.lt) (show w.heap.size ≤ w2.heap.size from hsz2))
  have P4 := Lib.hid (ownW_more ho4 (show w.heap.size ≤ w3.heap.size from Nat.le_trans hsz2 hsz3))
  have PL := Lib.hid (HL3.out.trans (hb4.mono (Nat.le_trans hsz2 hsz3)))
  have FL := Lib.hid hlen
  have FF := Lib.hid hfits
  have FS := Lib.hid hspr
  clear ho3' ho4 hb4 hlen hfits hspr HO3 HL3 HB3 HR2 HCR HO1 HL1 HL2 hc2
  go_wp2_with fail
  go_loopw [10] (fun i wr => ∃ k : Nat, k ≤ 10 ∧ i = .int .i64 k ∧ OwnW wr w.heap.size g3 d3 (rounds k F) ∧ OwnW wr w.heap.size g4 d4 F ∧ Below w.heap.size w wr) (fun i _ => 10 - (intOf i).toNat)
  case atStart => exact ⟨0, by omega, rfl, P3.out, P4.out, PL.out⟩
  case round =>
    obtain ⟨k, hk, rfl, q3, q4, ql⟩ := hrel
    have Q3 := Lib.hid q3
    have Q4 := Lib.hid q4
    have QL := Lib.hid ql
    have hge := q3.ge
    have hsz := ql.size
    clear q3 q4 ql P3 P4 PL
    by_cases hlt : k < 10
    · have i1 : (k : Int) < 10 := by omega
      go_wp2_with fail
      refine (two_ref g3 d3 w.heap.size (rounds k F) (by rw [rounds_length]; exact FL.out) (rounds_fits k FF.out) _ Q3.out).mono ?_
      rintro e w5 ⟨rfl, h5, hg5⟩
      have R3 := Lib.hid h5
      have R4 := Lib.hid (ownW_kept Q4.out hg5 (by omega))
      have RL := Lib.hid (below_grown QL.out hg5 hge hsz)
      clear h5 hg5 Q3 Q4 QL
      go_wp2_with fail
      go_roundw
      case rel => exact ⟨k + 1, by omega, by go_num, R3.out, R4.out, RL.out⟩
      case measure => simp [intOf]; omega
    · obtain rfl : k = 10 := by omega
      have hst : rounds 10 F = stir F := rfl
      have q3 := Q3.out
      rw [hst] at q3
      have SL := Lib.hid (show (stir F).length = 16 by rw [stir, rounds_length]; exact FL.out)
      have SF := Lib.hid (show Fits (stir F) from rounds_fits 10 FF.out)
      have FS' := FS.out
      generalize stir F = G at q3 SL SF FS'
      have HFS := Lib.hid FS'
      rw [← mixed_zero G F] at q3
      have Q3' := Lib.hid q3
      clear q3 Q3 FS FS' hst
      simp only [show ((10 : Nat) : Int) = 10 from rfl]
      go_wp2_with fail
      go_loopw [11] (fun i wr => ∃ k : Nat, k ≤ 16 ∧ i = .int .i64 k ∧ OwnW wr w.heap.size g3 d3 (mixed G F k) ∧ OwnW wr w.heap.size g4 d4 F ∧ Below w.heap.size w wr) (fun i _ => 16 - (intOf i).toNat)
      case atStart => exact ⟨0, by omega, rfl, Q3'.out, Q4.out, QL.out⟩
      case round =>
        obtain ⟨k, hk, rfl, q3, q4, ql⟩ := hrel
        clear Q3' Q4 QL
        have hszr := ql.size
        by_cases hlt : k < 16
        · have c1 := q3.cellW k (by rw [mixed_length, SL.out]; exact hlt)
          have c2 := q4.cellW k (by rw [FL.out]; exact hlt)
          have f1 := q3.freeW k
          rw [mixed_get G F k k (by rw [SL.out]; exact hlt), if_neg (by omega)] at c1
          have b1 := SF.out k
          have b2 := FF.out k
          have HZ := Lib.hid (wrap_sum (G.getD k 0) (F.getD k 0))
          have ho1 := q3.put k (by rw [mixed_length, SL.out]; exact hlt) ((G.getD k 0 + F.getD k 0) % 4294967296)
          rw [mixed_set] at ho1
          have HO1 := Lib.hid ho1
          have Q4 := Lib.hid q4
          have QL := Lib.hid ql
          have i1 : (k : Int) < 16 := by omega
          generalize G.getD k 0 = x at c1 b1 HZ HO1
          generalize F.getD k 0 = y at c2 b2 HZ HO1
          clear q3 q4 ql ho1
          go_wp2_with fail
          refine wp_region_still_tail 12 (by kernel_rfl) (by kernel_rfl) ?_
          simp only [List.take_succ_cons, List.take_zero, List.drop_succ_cons, List.drop_zero]
          repeat still_step
          refine wpStill_nil ?_
          change wpList _ _ _ _ _ wr.drew
          rw [HZ.out]
          go_wp2_with fail
          go_roundw
          case rel => exact ⟨k + 1, by omega, by go_num, HO1.out, ownW_kept Q4.out (grown_put wr g3 k _) (by omega), below_grown QL.out (grown_put wr g3 k _) hge hszr⟩
          case measure => simp [intOf]; omega
        · obtain rfl : k = 16 := by omega
          have Q3 := Lib.hid q3
          have QL := Lib.hid ql
          have hl3 := q3.lt
          clear q3 q4 ql
          go_wp2_with fail
          refine (bytes_row g3 0 16 d3 (mixed G F 16) (fun i hi => by rw [mixed_get G F 16 i (by rw [SL.out]; exact hi), if_pos hi]; exact Nat.mod_lt _ (by omega)) (by omega) _ hl3 (fun i hi => by rw [Nat.zero_add]; exact Q3.out.cellW i (by rw [mixed_length, SL.out]; exact hi))).mono ?_
          rintro e w6 ⟨A6, c6, rfl, ho6, hb6⟩
          obtain ⟨g6, rfl, _, _⟩ := owns_some ho6 (by omega)
          have HO6 := Lib.hid ((ho6.congr (g := blk key nonce ctr) fun i hi => HFS.out i (by omega)).more hszr)
          have HL6 := Lib.hid (QL.out.trans (hb6.mono hszr))
          clear ho6 hb6
          go_wp2_with fail
          go_ret
          exact ⟨g6, c6, rfl, HO6.out, HL6.out⟩

end Ref
end Go.Proofs.Ytdffbjlbhjppeaa
