/- 'aditlaw04.AeadBack' returns true at every input and writes nothing that was there: the walk. No condition. -/
import Derived.Test.YtdffbjlbhjppeaaAliveFour
namespace Go.Proofs.Ytdffbjlbhjppeaa
namespace AeadBack
open Go.ChangeShapes Go.WideShapes Go.ChangeAt Go.RowKit
open Num Mem Words State PolyN Chacha Quiet Poly Ref Aead

/-- what stays through the whole call -/
def Ctx (S : Nat) (w : World) (key nonce long : Nat → Nat) (A : Option Addr) (n : Nat) (f : Nat → Nat) (O : Option Addr) (no : Nat) (o : Nat → Nat) (X : Option Addr) (m : Nat) (x : Nat → Nat) (W : World) : Prop :=
  Whole W S 40 (byteCells key 32).toArray ∧ Whole W (S + 1) 41 (byteCells nonce 12).toArray ∧ Whole W (S + 1 + 1) 42 (byteCells long 24).toArray ∧ Rd W A n f ∧ Rd W O no o ∧ Rd W X m x ∧ Below S w W
theorem ctx_below {S : Nat} {w W V : World} {key nonce long f o x : Nat → Nat} {A O X : Option Addr} {n no m : Nat} (h : Ctx S w key nonce long A n f O no o X m x W) (hb : Below W.heap.size W V) : Ctx S w key nonce long A n f O no o X m x V :=
  ⟨h.1.below hb h.1.lt, h.2.1.below hb h.2.1.lt, h.2.2.1.below hb h.2.2.1.lt, h.2.2.2.1.below hb (Nat.le_refl _), h.2.2.2.2.1.below hb (Nat.le_refl _), h.2.2.2.2.2.1.below hb (Nat.le_refl _), h.2.2.2.2.2.2.trans (hb.mono (Nat.le_of_lt h.1.lt))⟩

theorem back_len {key nonce x : Nat → Nat} {m : Nat} {o : Nat → Nat} {no : Nat} (h : openE key nonce x m o no = 0) : 16 ≤ m ∧ no ≤ 65536 ∧ m ≤ 65552 ∧ openN key nonce x m o no = m - 16 ∧ Fits16 key nonce x m o no := by
  unfold openE at h
  unfold openN
  by_cases h1 : m < 16
  · rw [if_pos h1] at h
    omega
  · rw [if_neg h1] at h
    by_cases h2 : 65552 < m ∨ 65536 < no
    · rw [if_pos h2] at h
      omega
    · rw [if_neg h2] at h
      by_cases h3 : Fits16 key nonce x m o no
      · rw [if_neg h1, if_neg h2, if_pos h3]
        exact ⟨by omega, by omega, by omega, rfl, h3⟩
      · rw [if_neg h3] at h
        omega
theorem none_len {key nonce x : Nat → Nat} {m : Nat} {o : Nat → Nat} {no : Nat} (h : openE key nonce x m o no ≠ 0) : openN key nonce x m o no = 0 := by
  unfold openE at h
  unfold openN
  by_cases h1 : m < 16
  · rw [if_pos h1]
  · rw [if_neg h1] at h ⊢
    by_cases h2 : 65552 < m ∨ 65536 < no
    · rw [if_pos h2]
    · rw [if_neg h2] at h ⊢
      by_cases h3 : Fits16 key nonce x m o no
      · rw [if_pos h3] at h
        omega
      · rw [if_neg h3]
theorem again {key nonce x : Nat → Nat} {m : Nat} {o : Nat → Nat} {no : Nat} (h16 : 16 ≤ m) (h : Fits16 key nonce x m o no) (i : Nat) (hi : i < m) : boxF key nonce (xo key nonce 1 x) (m - 16) o no i = x i := by
  have hx : ∀ j, xo key nonce 1 (xo key nonce 1 x) j = x j := fun j => by
    unfold xo
    rw [Nat.xor_assoc, Nat.xor_self, Nat.xor_zero]
  by_cases l : i < m - 16
  · rw [box_text _ _ _ _ _ _ l]
    exact hx i
  · obtain ⟨j, rfl⟩ : ∃ j, i = m - 16 + j := ⟨i - (m - 16), by omega⟩
    rw [box_mark, markF_congr key nonce (g := x) (fun k _ => hx k) (fun _ _ => rfl)]
    exact h j (by omega)

set_option maxRecDepth 100000 in
theorem big (key nonce long : Nat → Nat) (A O X : Option Addr) (n ca no co m cx : Nat) (h : 2000 < n ∨ 2000 < no ∨ 2000 < m) (w : World) :
    Calls Try.prog 10 #[.agg (byteCells key 32).toArray, .agg (byteCells nonce 12).toArray, .agg (byteCells long 24).toArray, .slice A n ca, .slice O no co, .slice X m cx] w fun e w' => e = .returned (.bool true) ∧ Below w.heap.size w w' := by
  rw [byteCells_lit32, byteCells_lit12, byteCells_lit24]
  go_enter Try.func10, Try.ntmps10
  by_cases h1 : 2000 < n
  · have hd : decide ((2000 : Int) < (n : Int)) = true := decide_eq_true (by omega)
    go_wp2_with fail
    refine (Aead.alive_any _).mono ?_
    rintro e w1 ⟨rfl, hb1⟩
    have HB := Lib.hid (below_trans (below_alloc (below_alloc (below_alloc (Below.refl w.heap.size w) _) _) _) hb1)
    clear hb1
    go_wp2_with fail
    go_ret
    exact ⟨rfl, HB.out⟩
  · have hd : decide ((2000 : Int) < (n : Int)) = false := decide_eq_false (by omega)
    by_cases h2 : 2000 < no
    · have hd2 : decide ((2000 : Int) < (no : Int)) = true := decide_eq_true (by omega)
      go_wp2_with fail
      refine (Aead.alive_any _).mono ?_
      rintro e w1 ⟨rfl, hb1⟩
      have HB := Lib.hid (below_trans (below_alloc (below_alloc (below_alloc (Below.refl w.heap.size w) _) _) _) hb1)
      clear hb1
      go_wp2_with fail
      go_ret
      exact ⟨rfl, HB.out⟩
    · have hd2 : decide ((2000 : Int) < (no : Int)) = false := decide_eq_false (by omega)
      have hd3 : decide ((2000 : Int) < (m : Int)) = true := decide_eq_true (by omega)
      go_wp2_with fail
      refine (Aead.alive_any _).mono ?_
      rintro e w1 ⟨rfl, hb1⟩
      have HB := Lib.hid (below_trans (below_alloc (below_alloc (below_alloc (Below.refl w.heap.size w) _) _) _) hb1)
      clear hb1
      go_wp2_with fail
      go_ret
      exact ⟨rfl, HB.out⟩

set_option maxRecDepth 100000 in
set_option maxHeartbeats 2000000 in
theorem small (key nonce long : Nat → Nat) (hk : ∀ i, key i < 256) (hno : ∀ i, nonce i < 256) (hlo : ∀ i, long i < 256) (A O X : Option Addr) (n ca no co m cx : Nat) (f o x : Nat → Nat) (hf : ∀ i, f i < 256) (ho : ∀ i, o i < 256) (hx : ∀ i, x i < 256) (h1 : n ≤ 2000) (h2 : no ≤ 2000) (h3 : m ≤ 2000) (hco : no ≤ co) (hcx : m ≤ cx) (hcx2 : cx ≤ 9223372036854775807) (w : World) (ra : Rd w A n f) (ro : Rd w O no o) (rx : Rd w X m x) :
    Calls Try.prog 10 #[.agg (byteCells key 32).toArray, .agg (byteCells nonce 12).toArray, .agg (byteCells long 24).toArray, .slice A n ca, .slice O no co, .slice X m cx] w fun e w' => e = .returned (.bool true) ∧ Below w.heap.size w w' := by
  have hd : decide ((2000 : Int) < (n : Int)) = false := decide_eq_false (by omega)
  have hd2 : decide ((2000 : Int) < (no : Int)) = false := decide_eq_false (by omega)
  have hd3 : decide ((2000 : Int) < (m : Int)) = false := decide_eq_false (by omega)
  have HK := Lib.hid hk
  have HN := Lib.hid hno
  have HLO := Lib.hid hlo
  have HF := Lib.hid hf
  have HO := Lib.hid ho
  have HX := Lib.hid hx
  have RA := Lib.hid ra
  have RO := Lib.hid ro
  have RX := Lib.hid rx
  have HDB := Lib.hid (der_lt key long)
  have HEB := Lib.hid (bn_lt (f := fun i => long (16 + i)) (fun i => hlo _))
  have HSN := Lib.hid (show sealN n no = n + 16 by rw [sealN, if_pos ⟨by omega, by omega⟩])
  have HSE := Lib.hid (show sealE n no = 0 by rw [sealE, if_pos ⟨by omega, by omega⟩])
  clear hk hno hlo hf ho hx ra ro rx
  rw [byteCells_lit32, byteCells_lit12, byteCells_lit24]
  go_enter Try.func10, Try.ntmps10
  go_upto_region 1 with fail
  refine cut_world (Ctx w.heap.size w key nonce long A n f O no o X m x) ⟨?_, ?_, ?_, ?_, ?_, ?_, ?_⟩ ?_
  · rw [byteCells_lit32]
    exact ((whole_new _ _ rfl).alloc _).alloc _
  · rw [byteCells_lit12]
    exact (whole_new _ _ (by simp)).alloc _
  · rw [byteCells_lit24]
    exact whole_new _ _ (by simp)
  · exact RA.out.below (below_alloc (below_alloc (below_alloc (Below.refl _ _) _) _) _) (Nat.le_refl _)
  · exact RO.out.below (below_alloc (below_alloc (below_alloc (Below.refl _ _) _) _) _) (Nat.le_refl _)
  · exact RX.out.below (below_alloc (below_alloc (below_alloc (Below.refl _ _) _) _) _) (Nat.le_refl _)
  · exact below_alloc (below_alloc (below_alloc (Below.refl _ _) _) _) _
  rintro W hc0
  have C0 := Lib.hid hc0
  clear hc0 RA RO RX
  generalize hB : w.heap.size = S at C0 ⊢
  have HB := Lib.hid hB
  clear hB
  go_wp2_with (first | (refine wpList_load_row rfl 40 (.tmp 6) rfl S rfl 40 (byteCells key 32).toArray (0, 0) _ C0.out.1 rfl rfl (by kernel_rfl) ?_) | (refine wpList_load_row rfl 41 (.tmp 7) rfl (S + 1) rfl 41 (byteCells nonce 12).toArray (0, 0) _ C0.out.2.1 rfl rfl (by kernel_rfl) ?_) | (refine wpList_load_row rfl 42 (.tmp 8) rfl (S + 1 + 1) rfl 42 (byteCells long 24).toArray (0, 0) _ C0.out.2.2.1 rfl rfl (by kernel_rfl) ?_))
  refine (seal_ok key nonce HK.out HN.out A n ca f HF.out O no co o HO.out hco (by omega) (by omega) _ C0.out.2.2.2.1 C0.out.2.2.2.2.1).mono ?_
  rintro e w1 ⟨A1, c1, rfl, o1, hb⟩
  have C1 := Lib.hid (ctx_below C0.out hb)
  have R1 := Lib.hid o1.rd
  clear o1 hb C0
  go_wp2_with (first | (refine wpList_load_row rfl 40 (.tmp 6) rfl S rfl 40 (byteCells key 32).toArray (0, 0) _ C1.out.1 rfl rfl (by kernel_rfl) ?_) | (refine wpList_load_row rfl 41 (.tmp 7) rfl (S + 1) rfl 41 (byteCells nonce 12).toArray (0, 0) _ C1.out.2.1 rfl rfl (by kernel_rfl) ?_) | (refine wpList_load_row rfl 42 (.tmp 8) rfl (S + 1 + 1) rfl 42 (byteCells long 24).toArray (0, 0) _ C1.out.2.2.1 rfl rfl (by kernel_rfl) ?_))
  refine (xseal_all key long HK.out HLO.out A n ca f HF.out O no co o HO.out hco _ C1.out.2.2.2.1 C1.out.2.2.2.2.1).mono ?_
  generalize hDD : der key long = D at HDB ⊢
  generalize hEE : (bn fun i => long (16 + i)) = E at HEB ⊢
  have HDD := Lib.hid hDD
  have HEE := Lib.hid hEE
  clear hDD hEE
  rintro e w2 ⟨A2, c2, rfl, o2, hb⟩
  rw [HSN.out] at o2
  rw [HSN.out, HSE.out]
  have C2 := Lib.hid (ctx_below C1.out hb)
  have S1 := Lib.hid (R1.out.below hb (Nat.le_refl _))
  have S2 := Lib.hid o2.rd
  clear o2 hb C1 R1
  obtain ⟨T1, hT1⟩ : ∃ T, boxF key nonce f n o no = T := ⟨_, rfl⟩
  obtain ⟨T2, hT2⟩ : ∃ T, boxF D E f n o no = T := ⟨_, rfl⟩
  have HT1B := Lib.hid (show ∀ i, T1 i < 256 from fun i => by rw [← hT1]; exact boxF_lt _ _ HF.out _ _ _ _)
  have HT2B := Lib.hid (show ∀ i, T2 i < 256 from fun i => by rw [← hT2]; exact boxF_lt _ _ HF.out _ _ _ _)
  have HOE1 := Lib.hid (show openE key nonce T1 (n + 16) o no = 0 by rw [← hT1]; exact open_sealE key nonce f n o no (by omega) (by omega))
  have HON1 := Lib.hid (show openN key nonce T1 (n + 16) o no = n by rw [← hT1]; exact open_sealN key nonce f n o no (by omega) (by omega))
  have HOE2 := Lib.hid (show openE D E T2 (n + 16) o no = 0 by rw [← hT2]; exact open_sealE D E f n o no (by omega) (by omega))
  have HON2 := Lib.hid (show openN D E T2 (n + 16) o no = n by rw [← hT2]; exact open_sealN D E f n o no (by omega) (by omega))
  have HBK1 := Lib.hid (show ∀ i, i < n → xo key nonce 1 T1 i = f i from fun i hi => by rw [← hT1]; exact box_back key nonce f n o no hi)
  have HBK2 := Lib.hid (show ∀ i, i < n → xo D E 1 T2 i = f i from fun i hi => by rw [← hT2]; exact box_back D E f n o no hi)
  rw [hT1] at S1
  rw [hT2] at S2
  clear hT1 hT2 HSN HSE
  go_wp2_with (first | (refine wpList_load_row rfl 40 (.tmp 6) rfl S rfl 40 (byteCells key 32).toArray (0, 0) _ C2.out.1 rfl rfl (by kernel_rfl) ?_) | (refine wpList_load_row rfl 41 (.tmp 7) rfl (S + 1) rfl 41 (byteCells nonce 12).toArray (0, 0) _ C2.out.2.1 rfl rfl (by kernel_rfl) ?_) | (refine wpList_load_row rfl 42 (.tmp 8) rfl (S + 1 + 1) rfl 42 (byteCells long 24).toArray (0, 0) _ C2.out.2.2.1 rfl rfl (by kernel_rfl) ?_))
  refine (open_all key nonce HK.out HN.out A1 (n + 16) (n + 16) T1 HT1B.out O no co o HO.out (Nat.le_refl _) (by omega) hco _ S1.out C2.out.2.2.2.2.1).mono ?_
  rintro e w3 ⟨A3, rfl, r3, _, hb⟩
  rw [HON1.out] at r3
  rw [HON1.out, HOE1.out]
  have C3 := Lib.hid (ctx_below C2.out hb)
  have S2' := Lib.hid (S2.out.below hb (Nat.le_refl _))
  have R3 := Lib.hid r3
  clear r3 hb C2 S1 S2
  go_wp2_with (first | (refine wpList_load_row rfl 40 (.tmp 6) rfl S rfl 40 (byteCells key 32).toArray (0, 0) _ C3.out.1 rfl rfl (by kernel_rfl) ?_) | (refine wpList_load_row rfl 41 (.tmp 7) rfl (S + 1) rfl 41 (byteCells nonce 12).toArray (0, 0) _ C3.out.2.1 rfl rfl (by kernel_rfl) ?_) | (refine wpList_load_row rfl 42 (.tmp 8) rfl (S + 1 + 1) rfl 42 (byteCells long 24).toArray (0, 0) _ C3.out.2.2.1 rfl rfl (by kernel_rfl) ?_))
  have hxo := xopen_all key long HK.out HLO.out A2 (n + 16) (n + 16) T2 HT2B.out O no co o HO.out (Nat.le_refl _) (by omega) hco _ S2'.out C3.out.2.2.2.2.1
  rw [HDD.out, HEE.out] at hxo
  refine hxo.mono ?_
  clear hxo
  rintro e w4 ⟨A4, rfl, r4, _, hb⟩
  rw [HON2.out] at r4
  rw [HON2.out, HOE2.out]
  have C4 := Lib.hid (ctx_below C3.out hb)
  have R3' := Lib.hid (R3.out.below hb (Nat.le_refl _))
  have R4 := Lib.hid r4
  clear r4 hb C3 S2' R3 HT1B HT2B HDB HEB HOE1 HOE2 HON1 HON2
  have hcv1 := run_string_of (P := Try.prog) (c := n) 23 9 5 Try.underlying23 Try.underlying5 Try.underlying9 R3'.out
  have hcv2 := run_string_of (P := Try.prog) (c := n) 23 9 5 Try.underlying23 Try.underlying5 Try.underlying9 R4.out
  have hcv3 := run_string_of (P := Try.prog) (c := ca) 23 9 5 Try.underlying23 Try.underlying5 Try.underlying9 C4.out.2.2.2.1
  rw [strOf_congr HBK1.out] at hcv1
  rw [strOf_congr HBK2.out] at hcv2
  clear R3' R4 HBK1 HBK2
  go_wp2_with (first | (refine wpList_load_row rfl 40 (.tmp 6) rfl S rfl 40 (byteCells key 32).toArray (0, 0) _ C4.out.1 rfl rfl (by kernel_rfl) ?_) | (refine wpList_load_row rfl 41 (.tmp 7) rfl (S + 1) rfl 41 (byteCells nonce 12).toArray (0, 0) _ C4.out.2.1 rfl rfl (by kernel_rfl) ?_) | (refine wpList_load_row rfl 42 (.tmp 8) rfl (S + 1 + 1) rfl 42 (byteCells long 24).toArray (0, 0) _ C4.out.2.2.1 rfl rfl (by kernel_rfl) ?_))
  refine (open_all key nonce HK.out HN.out X m cx x HX.out O no co o HO.out hcx hcx2 hco _ C4.out.2.2.2.2.2.1 C4.out.2.2.2.2.1).mono ?_
  clear hcv1 hcv2 hcv3
  rintro e w5 ⟨A5, rfl, r5, _, hb⟩
  have C5 := Lib.hid (ctx_below C4.out hb)
  by_cases he : openE key nonce x m o no = 0
  · obtain ⟨b16, _, _, bN, bF⟩ := back_len he
    rw [bN] at r5
    rw [bN, he]
    have R5 := Lib.hid r5
    have HF5 := Lib.hid (again b16 bF)
    have HXB := Lib.hid (xo_lt key nonce 1 HX.out)
    obtain ⟨q, hq⟩ : ∃ q, m - 16 = q := ⟨_, rfl⟩
    rw [hq] at R5 HF5 ⊢
    have hmq : m = q + 16 := by omega
    obtain ⟨Y, hY⟩ : ∃ Y, xo key nonce 1 x = Y := ⟨_, rfl⟩
    rw [hY] at R5 HF5 HXB
    clear r5 hb C4 he bN bF hq hY b16 hcx hcx2
    subst hmq
    go_wp2_with (first | (refine wpList_load_row rfl 40 (.tmp 6) rfl S rfl 40 (byteCells key 32).toArray (0, 0) _ C5.out.1 rfl rfl (by kernel_rfl) ?_) | (refine wpList_load_row rfl 41 (.tmp 7) rfl (S + 1) rfl 41 (byteCells nonce 12).toArray (0, 0) _ C5.out.2.1 rfl rfl (by kernel_rfl) ?_) | (refine wpList_load_row rfl 42 (.tmp 8) rfl (S + 1 + 1) rfl 42 (byteCells long 24).toArray (0, 0) _ C5.out.2.2.1 rfl rfl (by kernel_rfl) ?_))
    refine (seal_ok key nonce HK.out HN.out A5 q q Y HXB.out O no co o HO.out hco (by omega) (by omega) _ R5.out C5.out.2.2.2.2.1).mono ?_
    rintro e w6 ⟨A6, c6, rfl, o6, hb⟩
    have C6 := Lib.hid (ctx_below C5.out hb)
    have R6 := Lib.hid o6.rd
    clear o6 hb C5 R5
    go_wp2_with fail
    refine (Aead.alive_any _).mono ?_
    rintro e w7 ⟨rfl, hb⟩
    have C7 := Lib.hid (ctx_below C6.out hb)
    have hcv1 := run_string_of (P := Try.prog) (c := q + 16) 23 9 5 Try.underlying23 Try.underlying5 Try.underlying9 (R6.out.below hb (Nat.le_refl _))
    have hcv2 := run_string_of (P := Try.prog) (c := cx) 23 9 5 Try.underlying23 Try.underlying5 Try.underlying9 C7.out.2.2.2.2.2.1
    rw [strOf_congr HF5.out] at hcv1
    clear hb C6 R6
    go_wp2_with fail
    go_ret
    exact ⟨rfl, by rw [HB.out]; exact C7.out.2.2.2.2.2.2⟩
  · rw [none_len he]
    obtain ⟨z, hz⟩ : ∃ z, openE key nonce x m o no = z := ⟨_, rfl⟩
    rw [hz] at he ⊢
    have hz0 : (z != 0) = true := by simpa using he
    clear r5 hb C4 hz he
    go_wp2_with fail
    refine (Aead.alive_any _).mono ?_
    rintro e w7 ⟨rfl, hb⟩
    have C7 := Lib.hid (ctx_below C5.out hb)
    clear hb C5
    go_wp2_with fail
    go_ret
    exact ⟨rfl, by rw [HB.out]; exact C7.out.2.2.2.2.2.2⟩

theorem walk (key nonce long : Nat → Nat) (a3 : Option Addr) (len3 cap3 : Nat) (z3 : List Int) (a4 : Option Addr) (len4 cap4 : Nat) (z4 : List Int) (a5 : Option Addr) (len5 cap5 : Nat) (z5 : List Int) (w : World) (w0 : ∀ i, key i < 256) (w1 : ∀ i, nonce i < 256) (w2 : ∀ i, long i < 256) (w3 : IsRow .u8 w a3 len3 cap3 z3) (w4 : IsRow .u8 w a4 len4 cap4 z4) (w5 : IsRow .u8 w a5 len5 cap5 z5) :
    Calls Try.prog 10 #[.agg (byteCells key 32).toArray, .agg (byteCells nonce 12).toArray, .agg (byteCells long 24).toArray, .slice a3 len3 cap3, .slice a4 len4 cap4, .slice a5 len5 cap5] w fun e w' => e = .returned (.bool true) ∧ Below w.heap.size w w' := by
  obtain ⟨f, hf, hr, _, _⟩ := rd_of_row w3
  obtain ⟨o, ho, hr2, hco, _⟩ := rd_of_row w4
  obtain ⟨x, hx, hr3, hcx, hcx2⟩ := rd_of_row w5
  by_cases h : 2000 < len3 ∨ 2000 < len4 ∨ 2000 < len5
  · exact big key nonce long a3 a4 a5 len3 cap3 len4 cap4 len5 cap5 h w
  · exact small key nonce long w0 w1 w2 a3 a4 a5 len3 cap3 len4 cap4 len5 cap5 f o x hf ho hx (by omega) (by omega) (by omega) hco hcx hcx2 w hr hr2 hr3

end AeadBack
end Go.Proofs.Ytdffbjlbhjppeaa
