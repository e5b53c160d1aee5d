/- Pairs and keys as rows of cells; the calls Right of package stamp, and bornBy, Old, Tired of package pair. -/
import Derived.Test.YtdhjgenijieeaaaPkAead3
import Derived.Test.YtdhjgenijieeaaaWinEq
import Derived.Test.YtdhjgenijieeaaaOps
namespace Go.Proofs.Ytdhjgenijieeaaa
namespace Pr
open Go.ChangeShapes Go.WideShapes Go.ChangeAt Go.RowKit
open Num Mem Words Chacha Aead Poly Ops Quiet WinT Win

/-- a pair: what seals, what opens, both numbers, who began, when it was born, what it sent, what it took -/
structure PS where
  s : Nat → Nat
  r : Nat → Nat
  l : Nat
  m : Nat
  one : Bool
  born : Int
  sent : Nat
  win : St
/-- its cells are right -/
structure PS.ok (p : PS) : Prop where
  hs : ∀ i, p.s i < 256
  hr : ∀ i, p.r i < 256
  hl : p.l < 4294967296
  hm : p.m < 4294967296
  b0 : -9223372036854775808 ≤ p.born
  b1 : p.born ≤ 9223372036854775807
  ht : p.sent < 18446744073709551616
  hw : p.win.ok
def keysL (s r : Nat → Nat) (l m : Nat) (one : Bool) : List Value := byteCells s 32 ++ (byteCells r 32 ++ [.int .u32 (l : Nat), .int .u32 (m : Nat), .bool one])
def tailL (p : PS) : List Value := [.int .u32 (p.l : Nat), .int .u32 (p.m : Nat), .bool p.one, .int .i64 p.born, .int .u64 (p.sent : Nat), .int .u64 (p.win.n : Nat), .int .u64 (p.win.a : Nat), .int .u64 (p.win.b : Nat)]
def pairL (p : PS) : List Value := byteCells p.s 32 ++ (byteCells p.r 32 ++ tailL p)
def pairV (p : PS) : Value := .agg (pairL p).toArray
theorem keysL_length (s r : Nat → Nat) (l m : Nat) (one : Bool) : (keysL s r l m one).length = 67 := by simp [keysL, byteCells_length]
theorem pairL_length (p : PS) : (pairL p).length = 72 := by simp [pairL, tailL, byteCells_length]
theorem pair_one (p : PS) : (pairL p).toArray.all (·.oneCell') = true := by
  rw [List.all_toArray, List.all_eq_true]
  intro v hv
  rcases List.mem_append.1 hv with h | h
  · exact bytes_each _ _ v h
  rcases List.mem_append.1 h with h | h
  · exact bytes_each _ _ v h
  · simp only [tailL, List.mem_cons, List.not_mem_nil, or_false] at h
    rcases h with rfl | rfl | rfl | rfl | rfl | rfl | rfl | rfl <;> rfl
theorem pair_tail (p : PS) (j : Nat) : (pairL p).toArray[64 + j]? = (tailL p)[j]? := by
  rw [List.getElem?_toArray]
  unfold pairL
  rw [List.getElem?_append_right (by rw [byteCells_length]; omega), List.getElem?_append_right (by simp only [byteCells_length]; omega)]
  simp only [byteCells_length]
  rw [show 64 + j - 32 - 32 = j by omega]
section
variable {w : World} {B : Nat} {T : TypeId} {p : PS}
theorem at_l (h : Whole w B T (pairL p).toArray) : w.cell? ⟨B, 64, none⟩ = some (.int .u32 (p.l : Nat)) := (h.cell 64).trans (pair_tail p 0)
theorem at_m (h : Whole w B T (pairL p).toArray) : w.cell? ⟨B, 65, none⟩ = some (.int .u32 (p.m : Nat)) := (h.cell 65).trans (pair_tail p 1)
theorem at_one (h : Whole w B T (pairL p).toArray) : w.cell? ⟨B, 66, none⟩ = some (.bool p.one) := (h.cell 66).trans (pair_tail p 2)
theorem at_born (h : Whole w B T (pairL p).toArray) : w.cell? ⟨B, 67, none⟩ = some (.int .i64 p.born) := (h.cell 67).trans (pair_tail p 3)
theorem at_sent (h : Whole w B T (pairL p).toArray) : w.cell? ⟨B, 68, none⟩ = some (.int .u64 (p.sent : Nat)) := (h.cell 68).trans (pair_tail p 4)
theorem range_row {l a b c : List Value} {o : Nat} (h : Whole w B T l.toArray) (hl : l = a ++ (b ++ c)) (ho : a.length = o) : w.rangeAt B o b := by
  intro j v hv
  have hj := (List.getElem?_eq_some_iff.1 hv).1
  rw [h.cell, List.getElem?_toArray, hl, List.getElem?_append_right (by omega), ho, Nat.add_sub_cancel_left, List.getElem?_append_left hj]
  exact hv
theorem range_s (h : Whole w B T (pairL p).toArray) : w.rangeAt B 0 (byteCells p.s 32) := range_row (a := []) h rfl rfl
theorem range_r (h : Whole w B T (pairL p).toArray) : w.rangeAt B 32 (byteCells p.r 32) := range_row h rfl (byteCells_length _ _)
theorem range_win (h : Whole w B T (pairL p).toArray) : w.rangeAt B 69 [.int .u64 (p.win.n : Nat), .int .u64 (p.win.a : Nat), .int .u64 (p.win.b : Nat)] := by
  refine range_row (a := byteCells p.s 32 ++ (byteCells p.r 32 ++ (tailL p).take 5)) (c := []) h ?_ (by simp [byteCells_length, tailL])
  simp [pairL, tailL, List.append_assoc]
theorem pair_set (p q : PS) (k j : Nat) (v : Value) (hk : k = 64 + j) (hj : (tailL p).set j v = tailL q) (hs : q.s = p.s) (hr : q.r = p.r) : (pairL p).toArray.setIfInBounds k v = (pairL q).toArray := by
  subst hk
  rw [List.setIfInBounds_toArray]
  congr 1
  unfold pairL
  rw [List.set_append_right _ _ (by rw [byteCells_length]; omega), List.set_append_right _ _ (by simp only [byteCells_length]; omega)]
  simp only [byteCells_length]
  rw [show 64 + j - 32 - 32 = j by omega, hj, hs, hr]
theorem put_sent (h : Whole w B T (pairL p).toArray) (n : Nat) : Whole (w.setCell ⟨B, 68, none⟩ (.int .u64 (n : Nat))) B T (pairL { p with sent := n }).toArray := by
  have := h.put 68 (.int .u64 (n : Nat))
  rwa [pair_set p { p with sent := n } 68 4 _ rfl rfl rfl rfl] at this
theorem put_win (h : Whole w B T (pairL p).toArray) (s : St) : Whole (w.setCells B 69 [.int .u64 (s.n : Nat), .int .u64 (s.a : Nat), .int .u64 (s.b : Nat)]) B T (pairL { p with win := s }).toArray := by
  have h1 := h.put 69 (.int .u64 (s.n : Nat))
  rw [pair_set p { p with win := ⟨s.n, p.win.a, p.win.b⟩ } 69 5 _ rfl rfl rfl rfl] at h1
  have h2 := h1.put 70 (.int .u64 (s.a : Nat))
  rw [pair_set { p with win := ⟨s.n, p.win.a, p.win.b⟩ } { p with win := ⟨s.n, s.a, p.win.b⟩ } 70 6 _ rfl rfl rfl rfl] at h2
  have h3 := h2.put 71 (.int .u64 (s.b : Nat))
  rw [pair_set { p with win := ⟨s.n, s.a, p.win.b⟩ } { p with win := s } 71 7 _ rfl rfl rfl rfl] at h3
  exact h3
end

/-- which times are right; the moments of a pair -/
def rightT (t : Int) : Bool := decide (0 ≤ t) && decide (t ≤ 1099511627776)
def oldB (p : PS) (t : Int) : Bool := !rightT t || (decide (t < p.born) || decide (p.born ≤ t - 180000))
def tiredB (p : PS) (t : Int) : Bool := decide (1152921504606846976 ≤ p.sent) || (oldB p t || (p.one && decide (p.born ≤ t - 120000)))

set_option maxRecDepth 100000 in
theorem right_any (t : Int) (w : World) : Calls Try.prog 24 #[.int .i64 t] w fun e w' => e = .returned (.bool (rightT t)) ∧ Below w.heap.size w w' := by
  unfold rightT
  by_cases h : 0 ≤ t
  · have hd : decide (0 ≤ t) = true := decide_eq_true h
    go_enter Try.func24, Try.ntmps24
    go_wp2
    go_ret
    rw [hd]
    exact ⟨rfl, Below.refl _ _⟩
  · have hd : decide (0 ≤ t) = false := decide_eq_false h
    rw [hd]
    go_enter Try.func24, Try.ntmps24
    go_wp2
    go_ret
    exact ⟨rfl, Below.refl _ _⟩

set_option maxRecDepth 100000 in
theorem born_any (p : PS) (t : Int) (w : World) : Calls Try.prog 29 #[pairV p, .int .i64 t] w fun e w' => e = .returned (.bool (decide (p.born ≤ t))) ∧ Below w.heap.size w w' := by
  unfold pairV
  obtain ⟨L, hL⟩ : ∃ L, (pairL p).toArray = L := ⟨_, rfl⟩
  rw [hL]
  have HL := Lib.hid hL
  clear hL
  go_enter Try.func29, Try.ntmps29
  go_upto_region 1 with fail
  refine cut_world (fun X => X.cell? ⟨w.heap.size, 67, none⟩ = some (.int .i64 p.born) ∧ Below w.heap.size w X) ⟨at_born (T := 34) (by rw [HL.out]; exact Whole.new _ _ _), below_alloc (Below.refl _ _) _⟩ ?_
  rintro W ⟨p1, pb⟩
  have PB := Lib.hid pb
  clear pb
  go_wp2_with fail
  go_ret
  exact ⟨rfl, PB.out⟩

set_option maxRecDepth 100000 in
theorem old_any (p : PS) (t : Int) (h0 : -9223372036854775808 ≤ t) (h1 : t ≤ 9223372036854775807) (w : World) :
    Calls Try.prog 21 #[pairV p, .int .i64 t] w fun e w' => e = .returned (.bool (oldB p t)) ∧ Below w.heap.size w w' := by
  have HR := Lib.hid (fun w => right_any t w)
  have HN := Lib.hid (fun w => born_any p (t - 180000) w)
  unfold pairV at HN ⊢
  obtain ⟨L, hL⟩ : ∃ L, pairL p = L := ⟨_, rfl⟩
  have HS := Lib.hid (show (pairL p).length = 72 from pairL_length p)
  rw [hL] at HN HS ⊢
  have HL := Lib.hid hL
  clear hL
  obtain ⟨R, hR⟩ : ∃ R, oldB p t = R := ⟨_, rfl⟩
  rw [hR]
  have HRS := Lib.hid hR
  clear hR
  obtain ⟨r, hr⟩ : ∃ r, rightT t = r := ⟨_, rfl⟩
  rw [hr] at HR
  have HRT := Lib.hid hr
  go_enter Try.func21, Try.ntmps21
  go_upto_region 1 with fail
  refine cut_world (fun X => Whole X w.heap.size 34 L.toArray ∧ Below w.heap.size w X) ⟨Whole.new _ _ _, below_alloc (Below.refl _ _) _⟩ ?_
  rintro W ⟨p1, pb⟩
  have P1 := Lib.hid p1
  have PB := Lib.hid pb
  clear p1 pb
  generalize hB : w.heap.size = B at P1 PB ⊢
  have HB := Lib.hid hB
  clear hB
  cases r
  · go_wp2_with (first | (go_at_call 24; refine (HR.out _).mono ?_; rintro e w1 ⟨rfl, hb1⟩; replace PB := Lib.hid (PB.out.trans (hb1.mono (Nat.le_of_lt P1.out.lt))); replace P1 := Lib.hid (P1.out.below hb1 P1.out.lt); clear hb1))
    go_ret
    exact ⟨by rw [← HRS.out, oldB, HRT.out]; rfl, by rw [HB.out]; exact PB.out⟩
  have ht : 0 ≤ t ∧ t ≤ 1099511627776 := by simpa [rightT] using hr
  have HW := Lib.hid (show wrap64 (t - 180000) = t - 180000 by unfold wrap64; omega)
  have HBO := Lib.hid (show ∀ X, Whole X B 34 L.toArray → X.cell? ⟨B, 67, none⟩ = some (.int .i64 p.born) from fun X h => at_born (T := 34) (by rw [HL.out]; exact h))
  clear hr ht
  by_cases hb : t < p.born
  · have HBT := Lib.hid hb
    go_wp2_with (first | (go_at_call 24; refine (HR.out _).mono ?_; rintro e w1 ⟨rfl, hb1⟩; replace PB := Lib.hid (PB.out.trans (hb1.mono (Nat.le_of_lt P1.out.lt))); replace P1 := Lib.hid (P1.out.below hb1 P1.out.lt); clear hb1; have c1 := HBO.out _ P1.out))
    go_ret
    exact ⟨by rw [← HRS.out, oldB, HRT.out, decide_eq_true HBT.out]; rfl, by rw [HB.out]; exact PB.out⟩
  · have HBT := Lib.hid hb
    have hd : decide (t < p.born) = false := decide_eq_false hb
    clear hb
    go_wp2_with (first
      | (go_at_call 24; refine (HR.out _).mono ?_; rintro e w1 ⟨rfl, hb1⟩; replace PB := Lib.hid (PB.out.trans (hb1.mono (Nat.le_of_lt P1.out.lt))); replace P1 := Lib.hid (P1.out.below hb1 P1.out.lt); clear hb1; have c1 := HBO.out _ P1.out)
      | (refine Poly.wpList_load_row_if rfl 34 (.tmp 2) rfl B rfl 34 L _ P1.out rfl rfl (by rw [HS.out]; kernel_rfl) ?_))
    rw [HW.out]
    refine (HN.out _).mono ?_
    rintro e w2 ⟨rfl, hb2⟩
    replace PB := Lib.hid (PB.out.trans (hb2.mono (Nat.le_of_lt P1.out.lt)))
    clear hb2
    go_wp2_with fail
    go_ret
    exact ⟨by rw [← HRS.out, oldB, HRT.out, decide_eq_false (show ¬ t < p.born by have := HBT.out; omega)]; rfl, by rw [HB.out]; exact PB.out⟩

set_option maxRecDepth 100000 in
theorem tired_any (p : PS) (t : Int) (h0 : -9223372036854775808 ≤ t - 120000) (h1 : t ≤ 9223372036854775807) (hs : p.sent < 1152921504606846976) (ho : oldB p t = false) (w : World) :
    Calls Try.prog 23 #[pairV p, .int .i64 t] w fun e w' => e = .returned (.bool (p.one && decide (p.born ≤ t - 120000))) ∧ Below w.heap.size w w' := by
  have HR := Lib.hid (fun w => old_any p t (by omega) h1 w)
  have HN := Lib.hid (fun w => born_any p (t - 120000) w)
  rw [ho] at HR
  unfold pairV at HN HR ⊢
  have HW := Lib.hid (show wrap64 (t - 120000) = t - 120000 by unfold wrap64; omega)
  obtain ⟨L, hL⟩ : ∃ L, pairL p = L := ⟨_, rfl⟩
  have HS := Lib.hid (show (pairL p).length = 72 from pairL_length p)
  have hge : decide ((1152921504606846976 : Int) ≤ (p.sent : Int)) = false := decide_eq_false (by omega)
  obtain ⟨S, hS⟩ : ∃ S : Int, (p.sent : Int) = S := ⟨_, rfl⟩
  obtain ⟨F, hF⟩ : ∃ F, p.one = F := ⟨_, rfl⟩
  have HB1 := Lib.hid (show ∀ X B, Whole X B 34 (pairL p).toArray → X.cell? ⟨B, 68, none⟩ = some (.int .u64 S) from fun X B h => by rw [at_sent h, hS])
  have HB2 := Lib.hid (show ∀ X B, Whole X B 34 (pairL p).toArray → X.cell? ⟨B, 66, none⟩ = some (.bool F) from fun X B h => by rw [at_one h, hF])
  rw [hL] at HB1 HB2
  rw [hL] at HN HR HS ⊢
  rw [hF]
  rw [hS] at hge
  have HL := Lib.hid hL
  clear hL hs ho h0 h1 hS hF
  obtain ⟨R, hR⟩ : ∃ R, (F && decide (p.born ≤ t - 120000)) = R := ⟨_, rfl⟩
  rw [hR]
  have HRS := Lib.hid hR
  clear hR
  go_enter Try.func23, Try.ntmps23
  go_upto_region 1 with fail
  refine cut_world (fun X => Whole X w.heap.size 34 L.toArray ∧ Below w.heap.size w X) ⟨Whole.new _ _ _, below_alloc (Below.refl _ _) _⟩ ?_
  rintro W ⟨p1, pb⟩
  have P1 := Lib.hid p1
  have PB := Lib.hid pb
  clear p1 pb
  generalize hB : w.heap.size = B at P1 PB ⊢
  have HB := Lib.hid hB
  clear hB
  have c1 := HB1.out _ _ P1.out
  cases F
  · go_wp2_with (first
      | (refine Poly.wpList_load_row_if rfl 34 (.tmp 2) rfl B rfl 34 L _ P1.out rfl rfl (by rw [HS.out]; kernel_rfl) ?_)
      | (go_at_call 21; refine (HR.out _).mono ?_; rintro e w1 ⟨rfl, hb1⟩; replace PB := Lib.hid (PB.out.trans (hb1.mono (Nat.le_of_lt P1.out.lt))); replace P1 := Lib.hid (P1.out.below hb1 P1.out.lt); clear hb1; have c2 := HB2.out _ _ P1.out))
    go_ret
    exact ⟨by rw [← HRS.out]; rfl, by rw [HB.out]; exact PB.out⟩
  · go_wp2_with (first
      | (refine Poly.wpList_load_row_if rfl 34 (.tmp 2) rfl B rfl 34 L _ P1.out rfl rfl (by rw [HS.out]; kernel_rfl) ?_)
      | (go_at_call 21; refine (HR.out _).mono ?_; rintro e w1 ⟨rfl, hb1⟩; replace PB := Lib.hid (PB.out.trans (hb1.mono (Nat.le_of_lt P1.out.lt))); replace P1 := Lib.hid (P1.out.below hb1 P1.out.lt); clear hb1; have c2 := HB2.out _ _ P1.out))
    rw [HW.out]
    refine (HN.out _).mono ?_
    rintro e w2 ⟨rfl, hb2⟩
    replace PB := Lib.hid (PB.out.trans (hb2.mono (Nat.le_of_lt P1.out.lt)))
    clear hb2
    go_wp2_with fail
    go_ret
    exact ⟨by rw [← HRS.out]; rfl, by rw [HB.out]; exact PB.out⟩

end Pr
end Go.Proofs.Ytdhjgenijieeaaa
