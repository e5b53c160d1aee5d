/- The document's own answers of layer 2 (package aditref02): Derive. -/
import Derived.Test.YtdffbjlbhjppeaaRefChc
namespace Go.Proofs.Ytdffbjlbhjppeaa
namespace Ref
open Go.ChangeShapes Go.WideShapes Go.ChangeAt Go.RowKit
open Num Mem Words State Chacha Quiet

/-- what a key and a nonce make, byte by byte -/
def der (key nonce : Nat → Nat) (j : Nat) : Nat := byteAt ((stir (first key [le nonce 0 4, le nonce 4 4, le nonce 8 4, le nonce 12 4])).getD (if j < 16 then j / 4 else 8 + j / 4) 0) (j % 4)
theorem der_lt (key nonce : Nat → Nat) (j : Nat) : der key nonce j < 256 := byteAt_lt _ _
theorem drop_get' (s : List Nat) (k i : Nat) : (s.drop k).getD i 0 = s.getD (k + i) 0 := by
  rw [List.getD_eq_getElem?_getD, List.getD_eq_getElem?_getD, List.getElem?_drop]
theorem der_parts (s : List Nat) : byteCells (spread s) 16 ++ byteCells (spread (s.drop 12)) 16 = byteCells (fun j => byteAt (s.getD (if j < 16 then j / 4 else 8 + j / 4) 0) (j % 4)) 32 := by
  rw [byteCells_append]
  refine byteCells_congr fun i hi => ?_
  unfold spread
  by_cases h : i < 16
  · rw [if_pos h, if_pos h]
  · rw [if_neg h, if_neg h, drop_get', show 12 + (i - 16) / 4 = 8 + i / 4 by omega, show (i - 16) % 4 = i % 4 by omega]
theorem ownW_cap {w : World} {B g c : Nat} {s : List Nat} (h : OwnW w B g c s) : s.length ≤ c := by
  rcases h.2 with ⟨e, _⟩ | ⟨g', cap, cur, e, _, _, h1, _⟩
  · cases e
  · injection e with _ _ e3
    subst e3
    exact h1

set_option maxRecDepth 100000 in
set_option maxHeartbeats 1000000 in
theorem derive_own (b off c b' off' c' : Nat) (key nonce : Nat → Nat) (hk : ∀ i, key i < 256) (hno : ∀ i, nonce i < 256) (hc : 32 ≤ c) (hcm : c ≤ 9223372036854775807) (hc' : 16 ≤ c') (hcm' : c' ≤ 9223372036854775807) (w : World) (hblk : b < w.heap.size) (hblk' : b' < w.heap.size)
    (hcell : ∀ i, i < 32 → w.cell? ⟨b, off + i, none⟩ = some (.int .u8 (key i))) (hcell' : ∀ i, i < 16 → w.cell? ⟨b', off' + i, none⟩ = some (.int .u8 (nonce i))) :
    Calls Try.prog 47 #[.slice (some ⟨b, off, none⟩) 32 c, .slice (some ⟨b', off', none⟩) 16 c'] w fun e w' => ∃ A d, e = .returned (.slice A 32 d) ∧ Own w' w.heap.size 5 A 32 d (der key nonce) ∧ Below w.heap.size w w' := by
  have HC := Lib.hid hcell
  have HC' := Lib.hid hcell'
  have HK := Lib.hid hk
  have HN := Lib.hid hno
  clear hcell hcell' hk hno
  go_enter Try.func47, Try.ntmps47
  go_wp2_with fail
  refine (first_ref b off c b' off' c' key nonce HK.out HN.out hc hcm hc' hcm' w hblk hblk' HC.out HC'.out).mono ?_
  rintro e w3 ⟨g3, d3, rfl, ho3, hb3⟩
  have hlen : (first key [le nonce 0 4, le nonce 4 4, le nonce 8 4, le nonce 12 4]).length = 16 := by simp [first, nums]
  have hfits : Fits (first key [le nonce 0 4, le nonce 4 4, le nonce 8 4, le nonce 12 4]) := first_fits key HK.out _ _ _ _ (le_lt HN.out 0 4) (le_lt HN.out 4 4) (le_lt HN.out 8 4) (le_lt HN.out 12 4)
  have hder : der key nonce = fun j => byteAt ((stir (first key [le nonce 0 4, le nonce 4 4, le nonce 8 4, le nonce 12 4])).getD (if j < 16 then j / 4 else 8 + j / 4) 0) (j % 4) := rfl
  generalize first key [le nonce 0 4, le nonce 4 4, le nonce 8 4, le nonce 12 4] = F at ho3 hlen hfits hder
  have P3 := Lib.hid ho3
  have PL := Lib.hid hb3
  have FL := Lib.hid hlen
  have FF := Lib.hid hfits
  have FD := Lib.hid hder
  clear ho3 hb3 hlen hfits hder
  go_wp2_with fail
  go_loopw [6] (fun i wr => ∃ k : Nat, k ≤ 10 ∧ i = .int .i64 k ∧ OwnW wr w.heap.size g3 d3 (rounds k F) ∧ Below w.heap.size w wr) (fun i _ => 10 - (intOf i).toNat)
  case atStart => exact ⟨0, by omega, rfl, P3.out, PL.out⟩
  case round =>
    obtain ⟨k, hk, rfl, q3, ql⟩ := hrel
    have Q3 := Lib.hid q3
    have QL := Lib.hid ql
    have hge := q3.ge
    have hsz := ql.size
    clear q3 ql P3 PL
    by_cases hlt : k < 10
    · have i1 : (k : Int) < 10 := by omega
      go_wp2_with fail
      refine (two_ref g3 d3 w.heap.size (rounds k F) (by rw [rounds_length]; exact FL.out) (rounds_fits k FF.out) _ Q3.out).mono ?_
      rintro e w5 ⟨rfl, h5, hg5⟩
      have R3 := Lib.hid h5
      have RL := Lib.hid (below_grown QL.out hg5 hge hsz)
      clear h5 hg5 Q3 QL
      go_wp2_with fail
      go_roundw
      case rel => exact ⟨k + 1, by omega, by go_num, R3.out, RL.out⟩
      case measure => simp [intOf]; omega
    · obtain rfl : k = 10 := by omega
      have hst : rounds 10 F = stir F := rfl
      have q3 := Q3.out
      rw [hst] at q3
      have SL := Lib.hid (show (stir F).length = 16 by rw [stir, rounds_length]; exact FL.out)
      have SF := Lib.hid (show Fits (stir F) from rounds_fits 10 FF.out)
      have FD' := FD.out
      generalize stir F = G at q3 SL SF FD'
      have HFD := Lib.hid FD'
      have hcap := ownW_cap q3
      rw [SL.out] at hcap
      have hc12 : ¬ d3 = 12 := by omega
      have hc4 : (4 : Int) ≤ (d3 : Int) := by omega
      have HLT := Lib.hid q3.lt
      have Q3' := Lib.hid q3
      clear q3 Q3 FD FD' hst
      have Q3 := Q3'
      clear Q3'
      go_wp2_with fail
      refine region_start (fun w' => Below wr.heap.size wr w') (by kernel_rfl) (below_drewN (Below.refl _ _) 1) ?_
      intro w5 hS
      refine take 0 _ rfl (by kernel_rfl) (by kernel_rfl) (by kernel_rfl) (fun _ _ _ h => h) (by rfl) hS (by intro w _; go_simp; with_reducible rfl) ?_
      try simp only [Act.put, List.setIfInBounds_toArray, List.set_cons_zero, List.set_cons_succ]
      refine take 1 _ rfl (by kernel_rfl) (by kernel_rfl) (by kernel_rfl) (fun _ _ _ h => h) (by rfl) hS (by intro w _; go_simp; with_reducible rfl) ?_
      try simp only [Act.put, List.setIfInBounds_toArray, List.set_cons_zero, List.set_cons_succ]
      refine take 3 _ rfl (by kernel_rfl) (by kernel_rfl) (by kernel_rfl) (fun _ _ _ h => h) (by rfl) hS (by intro w _; go_simp; with_reducible rfl) ?_
      try simp only [Act.put, List.setIfInBounds_toArray, List.set_cons_zero, List.set_cons_succ]
      refine take 4 _ rfl (by kernel_rfl) (by kernel_rfl) (by kernel_rfl) (fun _ _ _ h => h) (by rfl) hS (by intro w _; go_simp; with_reducible rfl) ?_
      try simp only [Act.put, List.setIfInBounds_toArray, List.set_cons_zero, List.set_cons_succ]
      refine alone 2 rfl (by kernel_rfl) (by rfl) ?_
      intro K hK
      go_simp
      refine (bytes_row g3 0 4 d3 G (fun i hi => SF.out i) (by omega) _ (Nat.lt_of_lt_of_le HLT.out hS.size) (fun i hi => by rw [Nat.zero_add]; exact (hS.cell (p := ⟨g3, i, none⟩) HLT.out).trans (Q3.out.cellW i (by rw [SL.out]; omega)))).mono ?_
      rintro e w6 ⟨A6, c6, rfl, ho6, hb⟩
      obtain ⟨g6, rfl, hge6, hlt6⟩ := owns_some ho6 (by omega)
      have HO6 := Lib.hid (ho6.more hS.size)
      clear ho6
      go_simp
      replace hS := below_trans hS hb
      refine hK.out _ _ hS ?_
      clear hK hb K
      try simp only [Act.put, List.setIfInBounds_toArray, List.set_cons_zero, List.set_cons_succ]
      refine alone 5 rfl (by kernel_rfl) (by rfl) ?_
      intro K hK
      go_simp
      refine (bytes_row g3 12 4 _ (G.drop 12) (fun i hi => by rw [drop_get']; exact SF.out _) (by omega) _ (Nat.lt_of_lt_of_le HLT.out hS.size) (fun i hi => by rw [drop_get']; exact (hS.cell (p := ⟨g3, 12 + i, none⟩) HLT.out).trans (Q3.out.cellW (12 + i) (by rw [SL.out]; omega)))).mono ?_
      rintro e w7 ⟨A7, c7, rfl, ho7, hb⟩
      obtain ⟨g7, rfl, hge7, hlt7⟩ := owns_some ho7 (by omega)
      have HO7 := Lib.hid (owns_below HO6.out hb (Nat.le_refl _))
      have HS7 := Lib.hid (World.ownsRow.cells ho7 (g := g7) rfl)
      clear ho7 hge6 hlt6 hge7 hlt7 HO6
      go_simp
      replace hS := below_trans hS hb
      refine hK.out _ _ hS ?_
      clear hK hb K
      try simp only [Act.put, List.setIfInBounds_toArray, List.set_cons_zero, List.set_cons_succ]
      refine alone 6 rfl (by kernel_rfl) (by rfl) ?_
      intro K hK
      refine wp_cat _ _ 23 5 (.int .u8 0) 1 Try.underlying23 info_u8 rfl rfl rfl HO7.out hS hS.size ⟨g7, 0, none⟩ 16 c7 rfl (byteCells (spread (G.drop 12)) 16) (byteCells_length _ _) HS7.out (bytes_each _ _) (by omega) (by omega) ?_
      intro A8 c8 w8 ho8 hb8 hs8 hg8 hat8
      refine hK.out _ _ hb8 ?_
      clear hK K hS hg8 hat8
      have hS := hb8
      have HO8 := Lib.hid ho8
      clear ho8 hb8
      try simp only [Act.put, List.setIfInBounds_toArray, List.set_cons_zero, List.set_cons_succ]
      refine take 7 _ rfl (by kernel_rfl) (by kernel_rfl) (by kernel_rfl) (fun _ _ _ h => h) (by rfl) hS (by intro w _; go_simp; with_reducible rfl) ?_
      try simp only [Act.put, List.setIfInBounds_toArray, List.set_cons_zero, List.set_cons_succ]
      refine region_end (by kernel_rfl) ?_
      have HB8 := Lib.hid (QL.out.trans (hS.mono hsz))
      clear hS
      go_wp2_with fail
      go_ret
      refine ⟨_, _, rfl, ?_, HB8.out⟩
      have h := HO8.out
      rw [der_parts, ← HFD.out] at h
      exact Own.more h hsz

theorem derive_ref (b off c b' off' c' : Nat) (key nonce : Nat → Nat) (hk : ∀ i, key i < 256) (hno : ∀ i, nonce i < 256) (hc : 32 ≤ c) (hcm : c ≤ 9223372036854775807) (hc' : 16 ≤ c') (hcm' : c' ≤ 9223372036854775807) (w : World) (hblk : b < w.heap.size) (hblk' : b' < w.heap.size)
    (hcell : ∀ i, i < 32 → w.cell? ⟨b, off + i, none⟩ = some (.int .u8 (key i))) (hcell' : ∀ i, i < 16 → w.cell? ⟨b', off' + i, none⟩ = some (.int .u8 (nonce i))) :
    Calls Try.prog 47 #[.slice (some ⟨b, off, none⟩) 32 c, .slice (some ⟨b', off', none⟩) 16 c'] w fun e w' => ∃ A d, e = .returned (.slice A 32 d) ∧ Rd w' A 32 (der key nonce) ∧ Below w.heap.size w w' := by
  refine (derive_own b off c b' off' c' key nonce hk hno hc hcm hc' hcm' w hblk hblk' hcell hcell').mono ?_
  rintro e w' ⟨A, d, h1, h2, h3⟩
  exact ⟨A, d, h1, h2.rd, h3⟩

end Ref
end Go.Proofs.Ytdffbjlbhjppeaa
