/- isNumber, ofName, IsName and ReadNumber of package text, at any text. -/
import Derived.Test.YtdcpbojknondcaaDoorKit
namespace Go.Proofs.YtdcpbojknondcaaDoor
namespace Text
open Go.ChangeShapes Go.WideShapes Go.ChangeAt Go.RowKit
open Num Mem

/-- a byte that may stand in a name -/
def nameB (c : Nat) : Bool := (decide (97 ≤ c) && decide (c ≤ 122)) || (decide (48 ≤ c) && decide (c ≤ 57)) || c == 45
/-- a digit -/
def digB (c : Nat) : Bool := decide (48 ≤ c) && decide (c ≤ 57)
/-- the first k bytes are digits -/
def digsTo (s : ByteArray) (k : Nat) : Bool := (List.range k).all fun i => digB (chr s i)
def namesTo (s : ByteArray) (k : Nat) : Bool := (List.range k).all fun i => nameB (chr s i)
def isNum (s : ByteArray) : Bool := decide (0 < s.size) && (decide (s.size ≤ 1) || chr s 0 != 48) && digsTo s s.size
def isName (s : ByteArray) : Bool := decide (0 < s.size) && decide (s.size ≤ 16) && namesTo s s.size && (chr s 0 != 45) && (chr s (s.size - 1) != 45)

theorem digsTo_step (s : ByteArray) (k : Nat) : digsTo s (k + 1) = (digsTo s k && digB (chr s k)) := by
  unfold digsTo
  rw [List.range_succ, List.all_append]
  simp
theorem namesTo_step (s : ByteArray) (k : Nat) : namesTo s (k + 1) = (namesTo s k && nameB (chr s k)) := by
  unfold namesTo
  rw [List.range_succ, List.all_append]
  simp
theorem digs_no {s : ByteArray} {k n : Nat} (h : k < n) (hb : digB (chr s k) = false) : digsTo s n = false := by
  unfold digsTo
  rw [List.all_eq_false]
  exact ⟨k, List.mem_range.2 h, by simp [hb]⟩
theorem names_no {s : ByteArray} {k n : Nat} (h : k < n) (hb : nameB (chr s k) = false) : namesTo s n = false := by
  unfold namesTo
  rw [List.all_eq_false]
  exact ⟨k, List.mem_range.2 h, by simp [hb]⟩

theorem toList_some {s : ByteArray} (h : 0 < s.size) : s.toList.isEmpty = false := by
  rw [ByteArray.toList_eq]
  cases hl : s.data.toList with
  | nil =>
    have : s.data.toList.length = 0 := by rw [hl]; rfl
    rw [Array.length_toList] at this
    have h' : 0 < s.data.size := h
    omega
  | cons a t => rfl

set_option maxHeartbeats 1000000 in
theorem ofName_any (c : Nat) (w : World) : Calls Tryd.prog 18 #[.int .u8 (c : Nat)] w fun e w' => e = .returned (.bool (nameB c)) ∧ w' = w := by
  unfold nameB
  by_cases h1 : 97 ≤ c <;> by_cases h2 : c ≤ 122 <;> by_cases h3 : 48 ≤ c <;> by_cases h4 : c ≤ 57 <;> by_cases h5 : c = 45
  all_goals
    first
    | omega
    | (have H1 : (decide ((97 : Int) ≤ (c : Int))) = decide (97 ≤ c) := by congr 1; exact propext (by omega)
       have H2 : (decide ((c : Int) ≤ 122)) = decide (c ≤ 122) := by congr 1; exact propext (by omega)
       have H3 : (decide ((48 : Int) ≤ (c : Int))) = decide (48 ≤ c) := by congr 1; exact propext (by omega)
       have H4 : (decide ((c : Int) ≤ 57)) = decide (c ≤ 57) := by congr 1; exact propext (by omega)
       have H5 : ((c : Int) == 45) = (c == 45) := by rw [Bool.eq_iff_iff]; simp; omega
       simp only [h1, h2, h3, h4, decide_true, decide_false] at H1 H2 H3 H4
       go_enter Tryd.func18, Tryd.ntmps18
       go_wp2
       go_ret
       exact ⟨by simp [h1, h2, h3, h4, h5], rfl⟩)

set_option maxRecDepth 100000 in
set_option maxHeartbeats 4000000 in
theorem isNumber_any (s : ByteArray) (hs : s.size < 2 ^ 62) (w : World) : Calls Tryd.prog 16 #[.string s] w fun e w' => e = .returned (.bool (isNum s)) ∧ w' = w := by
  by_cases h0 : s.size = 0
  · have E0 : s = ⟨#[]⟩ := by
      rcases s with ⟨d⟩
      have : d.size = 0 := h0
      rw [Array.size_eq_zero_iff.1 this]
    have hN : isNum s = false := by unfold isNum; rw [h0]; rfl
    rw [hN]
    subst E0
    go_enter Tryd.func16, Tryd.ntmps16
    go_wp2
    go_ret
    exact ⟨rfl, rfl⟩
  · have hE : s.toList.isEmpty = false := toList_some (by omega)
    have h00 : 0 < s.size := by omega
    have hL0 : (decide ((0 : Int) < (s.size : Int))) = true := decide_eq_true (by omega)
    by_cases h1 : 1 < s.size
    · have hL : (decide ((1 : Int) < (s.size : Int))) = true := decide_eq_true (by omega)
      by_cases hz : s[0].toNat = 48
      · have hZ : (((s[0].toNat : Nat) : Int) == 48) = true := by rw [hz]; rfl
        have hN : isNum s = false := by unfold isNum; rw [← Mem.chr_get s 0 h00, hz]; simp; omega
        rw [hN]
        go_enter Tryd.func16, Tryd.ntmps16
        go_wp2
        go_ret
        exact ⟨rfl, rfl⟩
      · have hZ : (((s[0].toNat : Nat) : Int) == 48) = false := beq_false_of_ne (by omega)
        have hN : isNum s = digsTo s s.size := by unfold isNum; rw [← Mem.chr_get s 0 h00]; simp [hz, h00]
        rw [hN]
        go_enter Tryd.func16, Tryd.ntmps16
        go_wp2
        go_loopw [18] (fun i wr => ∃ k : Nat, k ≤ s.size ∧ i = .int .i64 k ∧ digsTo s k = true ∧ wr = w)
          (fun i _ => s.size - (intOf i).toNat)
        case atStart => exact ⟨0, Nat.zero_le _, rfl, rfl, rfl⟩
        case round =>
          obtain ⟨k, hk, rfl, hd, rfl⟩ := hrel
          by_cases hlt : k < s.size
          · have hT : (decide ((k : Int) < (s.size : Int))) = true := decide_eq_true (by omega)
            by_cases hc1 : s[k].toNat < 48
            · have hC1 : (decide (((s[k].toNat : Nat) : Int) < 48)) = true := decide_eq_true (by omega)
              have hno : digsTo s s.size = false := digs_no hlt (by unfold digB; rw [← Mem.chr_get s k hlt]; simp; omega)
              go_wp2
              go_ret
              exact ⟨by rw [hno]; rfl, rfl⟩
            · have hC1 : (decide (((s[k].toNat : Nat) : Int) < 48)) = false := decide_eq_false (by omega)
              by_cases hc2 : 57 < s[k].toNat
              · have hC2 : (decide ((57 : Int) < ((s[k].toNat : Nat) : Int))) = true := decide_eq_true (by omega)
                have hno : digsTo s s.size = false := digs_no hlt (by unfold digB; rw [← Mem.chr_get s k hlt]; simp; omega)
                go_wp2
                go_ret
                exact ⟨by rw [hno]; rfl, rfl⟩
              · have hC2 : (decide ((57 : Int) < ((s[k].toNat : Nat) : Int))) = false := decide_eq_false (by omega)
                go_wp2
                refine ⟨⟨k + 1, by omega, rfl, ?_, trivial⟩, ?_⟩
                · rw [digsTo_step, hd, ← Mem.chr_get s k hlt] <;> skip
                  unfold digB
                  simp
                  omega
                · show s.size - ((k : Int) + 1).toNat < s.size - (k : Int).toNat
                  omega
          · obtain rfl : k = s.size := by omega
            go_wp2
            go_ret
            exact ⟨by rw [hd]; rfl, rfl⟩
    · have hL : (decide ((1 : Int) < (s.size : Int))) = false := decide_eq_false (by omega)
      have hN : isNum s = digsTo s s.size := by unfold isNum; simp [h00]; omega
      rw [hN]
      go_enter Tryd.func16, Tryd.ntmps16
      go_wp2
      go_loopw [18] (fun i wr => ∃ k : Nat, k ≤ s.size ∧ i = .int .i64 k ∧ digsTo s k = true ∧ wr = w)
        (fun i _ => s.size - (intOf i).toNat)
      case atStart => exact ⟨0, Nat.zero_le _, rfl, rfl, rfl⟩
      case round =>
        obtain ⟨k, hk, rfl, hd, rfl⟩ := hrel
        by_cases hlt : k < s.size
        · have hT : (decide ((k : Int) < (s.size : Int))) = true := decide_eq_true (by omega)
          by_cases hc1 : s[k].toNat < 48
          · have hC1 : (decide (((s[k].toNat : Nat) : Int) < 48)) = true := decide_eq_true (by omega)
            have hno : digsTo s s.size = false := digs_no hlt (by unfold digB; rw [← Mem.chr_get s k hlt]; simp; omega)
            go_wp2
            go_ret
            exact ⟨by rw [hno]; rfl, rfl⟩
          · have hC1 : (decide (((s[k].toNat : Nat) : Int) < 48)) = false := decide_eq_false (by omega)
            by_cases hc2 : 57 < s[k].toNat
            · have hC2 : (decide ((57 : Int) < ((s[k].toNat : Nat) : Int))) = true := decide_eq_true (by omega)
              have hno : digsTo s s.size = false := digs_no hlt (by unfold digB; rw [← Mem.chr_get s k hlt]; simp; omega)
              go_wp2
              go_ret
              exact ⟨by rw [hno]; rfl, rfl⟩
            · have hC2 : (decide ((57 : Int) < ((s[k].toNat : Nat) : Int))) = false := decide_eq_false (by omega)
              go_wp2
              refine ⟨⟨k + 1, by omega, rfl, ?_, trivial⟩, ?_⟩
              · rw [digsTo_step, hd, ← Mem.chr_get s k hlt] <;> skip
                unfold digB
                simp
                omega
              · show s.size - ((k : Int) + 1).toNat < s.size - (k : Int).toNat
                omega
        · obtain rfl : k = s.size := by omega
          go_wp2
          go_ret
          exact ⟨by rw [hd]; rfl, rfl⟩

set_option maxRecDepth 100000 in
set_option maxHeartbeats 4000000 in
theorem isName_any (s : ByteArray) (hs : s.size < 2 ^ 62) (w : World) : Calls Tryd.prog 11 #[.string s] w fun e w' => e = .returned (.bool (isName s)) ∧ w' = w := by
  by_cases h0 : s.size < 1
  · have hN : isName s = false := by unfold isName; simp; omega
    have hL0 : (decide ((s.size : Int) < 1)) = true := decide_eq_true (by omega)
    rw [hN]
    go_enter Tryd.func11, Tryd.ntmps11
    go_wp2
    go_ret
    exact ⟨rfl, rfl⟩
  · have hL0 : (decide ((s.size : Int) < 1)) = false := decide_eq_false (by omega)
    by_cases h1 : 16 < s.size
    · have hL : (decide ((16 : Int) < (s.size : Int))) = true := decide_eq_true (by omega)
      have hN : isName s = false := by unfold isName; simp; omega
      rw [hN]
      go_enter Tryd.func11, Tryd.ntmps11
      go_wp2
      go_ret
      exact ⟨rfl, rfl⟩
    · have hL : (decide ((16 : Int) < (s.size : Int))) = false := decide_eq_false (by omega)
      have h00 : 0 < s.size := by omega
      have hN : isName s = (namesTo s s.size && (chr s 0 != 45) && (chr s (s.size - 1) != 45)) := by unfold isName; simp [h00, show s.size ≤ 16 by omega]
      rw [hN]
      clear hN
      go_enter Tryd.func11, Tryd.ntmps11
      go_wp2
      go_loopw [14] (fun i wr => ∃ k : Nat, k ≤ s.size ∧ i = .int .i64 k ∧ namesTo s k = true ∧ wr = w)
        (fun i _ => s.size - (intOf i).toNat)
      case atStart => exact ⟨0, Nat.zero_le _, rfl, rfl, rfl⟩
      case round =>
        obtain ⟨k, hk, rfl, hd, rfl⟩ := hrel
        by_cases hlt : k < s.size
        · have hT : (decide ((k : Int) < (s.size : Int))) = true := decide_eq_true (by omega)
          by_cases hb : nameB s[k].toNat = true
          · have C := Lib.hid (ofName_any s[k].toNat wr)
            rw [hb] at C
            go_wp2_with fail
            refine C.out.mono ?_
            rintro e w' ⟨rfl, rfl⟩
            go_wp2
            refine ⟨⟨k + 1, by omega, rfl, ?_, trivial⟩, ?_⟩
            · rw [namesTo_step, hd, ← Mem.chr_get s k hlt, hb]
              rfl
            · show s.size - ((k : Int) + 1).toNat < s.size - (k : Int).toNat
              omega
          · have hb : nameB s[k].toNat = false := by simpa using hb
            have C := Lib.hid (ofName_any s[k].toNat wr)
            rw [hb] at C
            have hno : namesTo s s.size = false := names_no hlt (by rw [← Mem.chr_get s k hlt]; exact hb)
            go_wp2_with fail
            refine C.out.mono ?_
            rintro e w' ⟨rfl, rfl⟩
            go_wp2
            go_ret
            exact ⟨by rw [hno]; rfl, rfl⟩
        · obtain rfl : k = s.size := by omega
          have hi1 : (0 : Int) ≤ (s.size : Int) - 1 := by omega
          have hi2 : (s.size : Int) - 1 < (s.size : Int) := by omega
          by_cases hz : s[0].toNat = 45
          · have hZ : (((s[0].toNat : Nat) : Int) != 45) = false := by rw [hz]; rfl
            go_wp2
            go_ret
            exact ⟨by rw [hd, ← Mem.chr_get s 0 h00, hz]; rfl, rfl⟩
          · have hZ : (((s[0].toNat : Nat) : Int) != 45) = true := by rw [bne_iff_ne]; omega
            go_wp2
            go_ret
            refine ⟨?_, rfl⟩
            rw [hd, ← Mem.chr_get s 0 h00, ← Mem.chr_get s (s.size - 1) (by omega)]
            show Ending.returned (Value.bool (((s[s.size - 1].toNat : Nat) : Int) != 45)) = _
            rw [show (((s[s.size - 1].toNat : Nat) : Int) != 45) = (s[s.size - 1].toNat != 45) from by rw [Bool.eq_iff_iff, bne_iff_ne, bne_iff_ne]; omega, show (s[0].toNat != 45) = true from by rw [bne_iff_ne]; exact hz]
            simp

/-- the number of the first k digits -/
def nAt (s : ByteArray) : Nat → Nat
  | 0 => 0
  | k + 1 => nAt s k * 10 + (chr s k - 48)
theorem nAt_mono (s : ByteArray) (k m : Nat) : nAt s k ≤ nAt s (k + m) := by
  induction m with
  | zero => exact Nat.le_refl _
  | succ m ih =>
    have : nAt s (k + (m + 1)) = nAt s (k + m) * 10 + (chr s (k + m) - 48) := rfl
    omega
theorem nAt_le (s : ByteArray) (k n : Nat) (h : k ≤ n) : nAt s k ≤ nAt s n := by
  have := nAt_mono s k (n - k)
  rwa [Nat.add_sub_cancel' h] at this
theorem digs_at {s : ByteArray} {k n : Nat} (h : digsTo s n = true) (hk : k < n) : 48 ≤ chr s k ∧ chr s k ≤ 57 := by
  unfold digsTo at h
  rw [List.all_eq_true] at h
  have := h k (List.mem_range.2 hk)
  unfold digB at this
  simpa using this

/-- what ReadNumber answers -/
def rnV (s : ByteArray) (most : Nat) : Nat := if isNum s = true ∧ nAt s s.size ≤ most then nAt s s.size else 0
def rnE (s : ByteArray) (most : Nat) : Nat := if isNum s = false then 3 else if nAt s s.size ≤ most then 0 else 2

theorem rn_long {s : ByteArray} {most : Nat} (_ : isNum s = true) (h : most < nAt s s.size) : rnV s most = 0 := by
  unfold rnV
  rw [if_neg (by omega)]
theorem rn_longE {s : ByteArray} {most : Nat} (hN : isNum s = true) (h : most < nAt s s.size) : rnE s most = 2 := by
  unfold rnE
  rw [if_neg (by rw [hN]; simp), if_neg (by omega)]
theorem rn_ok {s : ByteArray} {most : Nat} (hN : isNum s = true) (h : nAt s s.size ≤ most) : rnV s most = nAt s s.size := by
  unfold rnV
  rw [if_pos ⟨hN, h⟩]
theorem rn_okE {s : ByteArray} {most : Nat} (hN : isNum s = true) (h : nAt s s.size ≤ most) : rnE s most = 0 := by
  unfold rnE
  rw [if_neg (by rw [hN]; simp), if_pos h]

set_option maxRecDepth 100000 in
set_option maxHeartbeats 4000000 in
theorem readNumber_any (s : ByteArray) (hs : s.size < 2 ^ 62) (most : Nat) (hm : most < 2 ^ 64) (w : World) :
    Calls Tryd.prog 7 #[.string s, .int .u64 (most : Nat)] w fun e w' => e = .returned (.tuple #[.int .u64 (rnV s most : Nat), .int .i64 (rnE s most : Nat)]) ∧ w' = w := by
  have C := Lib.hid (isNumber_any s hs w)
  by_cases hN : isNum s = true
  · rw [hN] at C
    have hdig : digsTo s s.size = true := by unfold isNum at hN; simp at hN; exact hN.2
    go_enter Tryd.func7, Tryd.ntmps7
    go_wp2_with fail
    refine C.out.mono ?_
    rintro e w' ⟨rfl, rfl⟩
    go_wp2
    go_loopw [6, 14] (fun n i wr => ∃ k : Nat, k ≤ s.size ∧ i = .int .i64 k ∧ n = .int .u64 (nAt s k : Nat) ∧ nAt s k ≤ most ∧ wr = w')
      (fun _ i _ => s.size - (intOf i).toNat)
    case atStart => exact ⟨0, Nat.zero_le _, rfl, rfl, Nat.zero_le _, rfl⟩
    case round =>
      obtain ⟨k, hk, rfl, rfl, hle, rfl⟩ := hrel
      by_cases hlt : k < s.size
      · have hT : (decide ((k : Int) < (s.size : Int))) = true := decide_eq_true (by omega)
        obtain ⟨hd1, hd2⟩ := digs_at hdig hlt
        rw [← Mem.chr_get s k hlt] at hd1 hd2
        have hsub : IntKind.u8.wrap (((s[k].toNat : Nat) : Int) - 48) = ((s[k].toNat - 48 : Nat) : Int) := by
          rw [show (((s[k].toNat : Nat) : Int) - 48) = ((s[k].toNat - 48 : Nat) : Int) by omega]
          rw [IntKind.wrap_u8]
          omega
        have hst : nAt s (k + 1) = nAt s k * 10 + (s[k].toNat - 48) := by rw [Mem.chr_get s k hlt]; rfl
        have hmon := nAt_le s (k + 1) s.size (by omega)
        go_wp2
        · have hgt : most < nAt s s.size := by omega
          go_ret2
          exact ⟨by rw [rn_long hN hgt, rn_longE hN hgt]; rfl, rfl⟩
        · refine ⟨⟨k + 1, by omega, rfl, by rw [hst]; congr 1, by omega, trivial⟩, ?_⟩
          show s.size - ((k : Int) + 1).toNat < s.size - (k : Int).toNat
          omega
        · have hgt : most < nAt s s.size := by omega
          go_ret2
          exact ⟨by rw [rn_long hN hgt, rn_longE hN hgt]; rfl, rfl⟩
      · obtain rfl : k = s.size := by omega
        go_wp2
        go_ret2
        exact ⟨by rw [rn_ok hN hle, rn_okE hN hle]; rfl, rfl⟩
  · have hN : isNum s = false := by simpa using hN
    rw [hN] at C
    have hV : rnV s most = 0 := by unfold rnV; rw [if_neg (by rw [hN]; simp)]
    have hE : rnE s most = 3 := by unfold rnE; rw [if_pos hN]
    go_enter Tryd.func7, Tryd.ntmps7
    go_wp2_with fail
    refine C.out.mono ?_
    rintro e w' ⟨rfl, rfl⟩
    go_wp2
    go_ret2
    exact ⟨by rw [hV, hE]; rfl, rfl⟩

end Text
end Go.Proofs.YtdcpbojknondcaaDoor
