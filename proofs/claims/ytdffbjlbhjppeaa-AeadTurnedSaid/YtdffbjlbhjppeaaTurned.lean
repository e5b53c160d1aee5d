/- 'aditlaw04.AeadTurned' returns true at every input and writes nothing that was there: the walk. No condition. -/
import Derived.Test.YtdffbjlbhjppeaaAliveFour
import Derived.Test.YtdffbjlbhjppeaaQuietB
namespace Go.Proofs.Ytdffbjlbhjppeaa
namespace AeadTurned
open Go.ChangeShapes Go.WideShapes Go.ChangeAt Go.RowKit
open Num Mem Words State PolyN Chacha Quiet Poly Ref Aead

/-- what stays through the whole call -/
def Ctx (S : Nat) (w : World) (key nonce : Nat → Nat) (A : Option Addr) (n : Nat) (f : Nat → Nat) (O : Option Addr) (no : Nat) (o : Nat → Nat) (W : World) : Prop :=
  Whole W S 40 (byteCells key 32).toArray ∧ Whole W (S + 1) 41 (byteCells nonce 12).toArray ∧ Rd W A n f ∧ Rd W O no o ∧ Below S w W
theorem ctx_below {S : Nat} {w W V : World} {key nonce f o : Nat → Nat} {A O : Option Addr} {n no : Nat} (h : Ctx S w key nonce A n f O no o W) (hb : Below W.heap.size W V) : Ctx S w key nonce A n f O no o V :=
  ⟨h.1.below hb h.1.lt, h.2.1.below hb h.2.1.lt, h.2.2.1.below hb (Nat.le_refl _), h.2.2.2.1.below hb (Nat.le_refl _), h.2.2.2.2.trans (hb.mono (Nat.le_of_lt h.1.lt))⟩

theorem own_whole {w : World} {B t k c : Nat} {A : Option Addr} {f : Nat → Nat} (h : Own w B t A k c f) (h0 : 0 < k) : ∃ b cur, A = some ⟨b, 0, none⟩ ∧ B ≤ b ∧ Whole w b t cur ∧ ∀ i, i < k → cur[i]? = some (.int .u8 (f i : Nat)) := by
  have hr := h.rd
  rcases h.2 with ⟨_, e⟩ | ⟨b, cap, cur, e, hg, hh, _⟩
  · omega
  · obtain rfl : A = some ⟨b, 0, none⟩ := by injection e
    refine ⟨b, cur, rfl, hg, hh, fun i hi => ?_⟩
    rcases hr with e | ⟨b', off, e, _, hc⟩
    · omega
    · injection e with e
      injection e with e1 e2
      subst e1
      subst e2
      have h2 := hc i hi
      rw [Nat.zero_add, cell_of_row _ _ _ _ t (0, 0) hh] at h2
      exact h2

theorem none_len {key nonce x : Nat → Nat} {m : Nat} {o : Nat → Nat} {no : Nat} (h : openE key nonce x m o no ≠ 0) : openN key nonce x m o no = 0 := by
  unfold openE at h
  unfold openN
  by_cases h1 : m < 16
  · rw [if_pos h1]
  · rw [if_neg h1] at h ⊢
    by_cases h2 : 65552 < m ∨ 65536 < no
    · rw [if_pos h2]
    · rw [if_neg h2] at h ⊢
      by_cases h3 : Fits16 key nonce x m o no
      · rw [if_pos h3] at h
        omega
      · rw [if_neg h3]
theorem turned_out {key nonce f : Nat → Nat} {n : Nat} {o : Nat → Nat} {no k v : Nat} (hk : k < 16) (hv : v ≠ 0) (T : Nat → Nat) (hT : ∀ i, T i = if i = n + k then boxF key nonce f n o no (n + k) ^^^ v else boxF key nonce f n o no i) : ¬ Fits16 key nonce T (n + 16) o no := by
  intro h
  have h1 := h k hk
  rw [Nat.add_sub_cancel, hT (n + k), if_pos rfl, box_mark, markF_congr key nonce (g := xo key nonce 1 f) (fun i hi => by
    rw [hT i, if_neg (by omega), box_text _ _ _ _ _ _ hi]) (fun _ _ => rfl)] at h1
  generalize markF key nonce (xo key nonce 1 f) n o no k = M at h1
  have h2 : M ^^^ M = M ^^^ (M ^^^ v) := by rw [← h1]
  rw [Nat.xor_self, ← Nat.xor_assoc, Nat.xor_self, Nat.zero_xor] at h2
  exact hv h2.symm

set_option maxRecDepth 100000 in
theorem big (key nonce : Nat → Nat) (A O : Option Addr) (n ca no co : Nat) (a4 a5 : Int) (h : 2000 < n ∨ 2000 < no) (w : World) :
    Calls Try.prog 11 #[.agg (byteCells key 32).toArray, .agg (byteCells nonce 12).toArray, .slice A n ca, .slice O no co, .int .i64 a4, .int .u8 a5] w fun e w' => e = .returned (.bool true) ∧ Below w.heap.size w w' := by
  rw [byteCells_lit32, byteCells_lit12]
  go_enter Try.func11, Try.ntmps11
  by_cases h1 : 2000 < n
  · have hd : decide ((2000 : Int) < (n : Int)) = true := decide_eq_true (by omega)
    go_wp2_with fail
    refine (Aead.alive_any _).mono ?_
    rintro e w1 ⟨rfl, hb1⟩
    have HB := Lib.hid (below_trans (below_alloc (below_alloc (Below.refl w.heap.size w) _) _) hb1)
    clear hb1
    go_wp2_with fail
    go_ret
    exact ⟨rfl, HB.out⟩
  · have hd : decide ((2000 : Int) < (n : Int)) = false := decide_eq_false (by omega)
    have hd2 : decide ((2000 : Int) < (no : Int)) = true := decide_eq_true (by omega)
    go_wp2_with fail
    refine (Aead.alive_any _).mono ?_
    rintro e w1 ⟨rfl, hb1⟩
    have HB := Lib.hid (below_trans (below_alloc (below_alloc (Below.refl w.heap.size w) _) _) hb1)
    clear hb1
    go_wp2_with fail
    go_ret
    exact ⟨rfl, HB.out⟩

set_option maxRecDepth 100000 in
set_option maxHeartbeats 2000000 in
theorem small (key nonce : Nat → Nat) (hk : ∀ i, key i < 256) (hno : ∀ i, nonce i < 256) (A O : Option Addr) (n ca no co : Nat) (f o : Nat → Nat) (hf : ∀ i, f i < 256) (ho : ∀ i, o i < 256) (h1 : n ≤ 2000) (h2 : no ≤ 2000) (hco : no ≤ co) (a4 : Int) (h4 : -9223372036854775808 ≤ a4 ∧ a4 ≤ 9223372036854775807) (v : Nat) (hv : v < 256) (w : World) (ra : Rd w A n f) (ro : Rd w O no o) :
    Calls Try.prog 11 #[.agg (byteCells key 32).toArray, .agg (byteCells nonce 12).toArray, .slice A n ca, .slice O no co, .int .i64 a4, .int .u8 (v : Nat)] w fun e w' => e = .returned (.bool true) ∧ Below w.heap.size w w' := by
  have hd : decide ((2000 : Int) < (n : Int)) = false := decide_eq_false (by omega)
  have hd2 : decide ((2000 : Int) < (no : Int)) = false := decide_eq_false (by omega)
  have HK := Lib.hid hk
  have HN := Lib.hid hno
  have HF := Lib.hid hf
  have HO := Lib.hid ho
  have RA := Lib.hid ra
  have RO := Lib.hid ro
  clear hk hno hf ho ra ro
  rw [byteCells_lit32, byteCells_lit12]
  go_enter Try.func11, Try.ntmps11
  go_upto_region 1 with fail
  refine cut_world (Ctx w.heap.size w key nonce A n f O no o) ⟨?_, ?_, ?_, ?_, ?_⟩ ?_
  · rw [byteCells_lit32]
    exact (whole_new _ _ rfl).alloc _
  · rw [byteCells_lit12]
    exact whole_new _ _ (by simp)
  · exact RA.out.below (below_alloc (below_alloc (Below.refl _ _) _) _) (Nat.le_refl _)
  · exact RO.out.below (below_alloc (below_alloc (Below.refl _ _) _) _) (Nat.le_refl _)
  · exact below_alloc (below_alloc (Below.refl _ _) _) _
  rintro W hc0
  have C0 := Lib.hid hc0
  clear hc0
  generalize hB : w.heap.size = S at C0 ⊢
  have HB := Lib.hid hB
  clear hB
  go_wp2_with (first | (refine wpList_load_row rfl 40 (.tmp 6) rfl S rfl 40 (byteCells key 32).toArray (0, 0) _ C0.out.1 rfl rfl (by kernel_rfl) ?_) | (refine wpList_load_row rfl 41 (.tmp 7) rfl (S + 1) rfl 41 (byteCells nonce 12).toArray (0, 0) _ C0.out.2.1 rfl rfl (by kernel_rfl) ?_))
  refine (seal_ok key nonce HK.out HN.out A n ca f HF.out O no co o HO.out hco (by omega) (by omega) _ C0.out.2.2.1 C0.out.2.2.2.1).mono ?_
  rintro e w1 ⟨A1, c1, rfl, o1, hb⟩
  have C1 := Lib.hid (ctx_below C0.out hb)
  obtain ⟨b1, cur, rfl, hbW, hw1, hcur⟩ := own_whole o1 (by omega)
  have HSB : S + 1 < b1 := by have := C0.out.2.1.lt; omega
  have HW1 := Lib.hid hw1
  have HCUR := Lib.hid hcur
  clear o1 hb C0 hw1 hcur hbW
  by_cases ha : a4 < 0
  · have hd3 : decide (a4 < 0) = true := decide_eq_true ha
    go_wp2_with fail
    refine (Aead.alive_any _).mono ?_
    rintro e w7 ⟨rfl, hb⟩
    have C7 := Lib.hid (ctx_below C1.out hb)
    clear hb C1
    go_wp2_with fail
    go_ret
    exact ⟨rfl, by rw [HB.out]; exact C7.out.2.2.2.2⟩
  have hd3 : decide (a4 < 0) = false := decide_eq_false ha
  by_cases hc : 15 < a4
  · have hd4 : decide (15 < a4) = true := decide_eq_true hc
    go_wp2_with fail
    refine (Aead.alive_any _).mono ?_
    rintro e w7 ⟨rfl, hb⟩
    have C7 := Lib.hid (ctx_below C1.out hb)
    clear hb C1
    go_wp2_with fail
    go_ret
    exact ⟨rfl, by rw [HB.out]; exact C7.out.2.2.2.2⟩
  have hd4 : decide (15 < a4) = false := decide_eq_false hc
  obtain ⟨k, rfl⟩ : ∃ k : Nat, a4 = (k : Int) := ⟨a4.toNat, by omega⟩
  have hk16 : k < 16 := by omega
  by_cases hz : v = 0
  · have hd5 : ((v : Int) == 0) = true := by subst hz; rfl
    go_wp2_with fail
    refine (Aead.alive_any _).mono ?_
    rintro e w7 ⟨rfl, hb⟩
    have C7 := Lib.hid (ctx_below C1.out hb)
    clear hb C1
    go_wp2_with fail
    go_ret
    exact ⟨rfl, by rw [HB.out]; exact C7.out.2.2.2.2⟩
  · have hd5 : ((v : Int) == 0) = false := by simp only [beq_eq_false_iff_ne, ne_eq]; omega
    have hkn : (k : Int) ≤ (n : Int) + 16 := by omega
    go_upto_region 8 with fail
    refine q_start (by kernel_rfl) (by kernel_rfl) ?_
    refine q_take _ (by rfl) (fun x hx => run_load_in 40 (.tmp 6) rfl (S) rfl (byteCells (key) 32).toArray 32 (by rw [List.size_toArray, byteCells_length]) ((C1.out.1).below hx (C1.out.1).lt) rfl rfl (by kernel_rfl)) ?_
    try simp only [Act.put, List.setIfInBounds_toArray, List.set_cons_zero, List.set_cons_succ]
    refine q_take _ (by rfl) (fun x hx => run_load_in 41 (.tmp 7) rfl (S + 1) rfl (byteCells (nonce) 12).toArray 12 (by rw [List.size_toArray, byteCells_length]) ((C1.out.2.1).below hx (C1.out.2.1).lt) rfl rfl (by kernel_rfl)) ?_
    try simp only [Act.put, List.setIfInBounds_toArray, List.set_cons_zero, List.set_cons_succ]
    refine q_take _ (by rfl) (by intro w _; go_simp; with_reducible rfl) ?_
    try simp only [Act.put, List.setIfInBounds_toArray, List.set_cons_zero, List.set_cons_succ]
    refine q_take _ (by rfl) (by intro w _; go_simp; with_reducible rfl) ?_
    try simp only [Act.put, List.setIfInBounds_toArray, List.set_cons_zero, List.set_cons_succ]
    refine q_take _ (by rfl) (by intro w _; go_simp; with_reducible rfl) ?_
    try simp only [Act.put, List.setIfInBounds_toArray, List.set_cons_zero, List.set_cons_succ]
    refine q_take _ (by rfl) (by intro w _; go_simp; with_reducible rfl) ?_
    try simp only [Act.put, List.setIfInBounds_toArray, List.set_cons_zero, List.set_cons_succ]
    refine q_call (.tuple #[.slice none 0 0, .int .i64 10]) 30 (#[.agg (byteCells key 32).toArray, .agg (byteCells nonce 12).toArray, .slice (some ⟨b1, 0, none⟩) k (n + 16), .slice O no co]) (by rfl) (by intro w; go_simp; try with_reducible rfl) (fun x hx => (open_short key nonce (some ⟨b1, 0, none⟩) O k (n + 16) no co hk16 x).mono (fun e w' ⟨h1, h2⟩ => ⟨h1, below_trans hx h2⟩)) ?_
    try simp only [Act.put, List.setIfInBounds_toArray, List.set_cons_zero, List.set_cons_succ]
    refine q_take _ (by rfl) (by intro w _; go_simp; with_reducible rfl) ?_
    try simp only [Act.put, List.setIfInBounds_toArray, List.set_cons_zero, List.set_cons_succ]
    refine q_take _ (by rfl) (by intro w _; go_simp; with_reducible rfl) ?_
    try simp only [Act.put, List.setIfInBounds_toArray, List.set_cons_zero, List.set_cons_succ]
    refine q_take _ (by rfl) (by intro w _; go_simp; with_reducible rfl) ?_
    try simp only [Act.put, List.setIfInBounds_toArray, List.set_cons_zero, List.set_cons_succ]
    refine q_take _ (by rfl) (by intro w _; go_simp; with_reducible rfl) ?_
    try simp only [Act.put, List.setIfInBounds_toArray, List.set_cons_zero, List.set_cons_succ]
    refine q_take _ (by rfl) (by intro w _; go_simp; with_reducible rfl) ?_
    try simp only [Act.put, List.setIfInBounds_toArray, List.set_cons_zero, List.set_cons_succ]
    refine wpQuiet_nil ?_
    intro w2 hb2
    have C2 := Lib.hid (ctx_below C1.out hb2)
    have HW2 := Lib.hid (HW1.out.below hb2 HW1.out.lt)
    obtain ⟨T, hT⟩ : ∃ T, boxF key nonce f n o no = T := ⟨_, rfl⟩
    have hcell : w2.cell? ⟨b1, n + k, none⟩ = some (.int .u8 (T (n + k) : Nat)) := by
      rw [HW2.out.cell, HCUR.out (n + k) (by omega), hT]
    have hfree := HW2.out.free (n + k)
    have hTk : T (n + k) < 256 := by rw [← hT]; exact boxF_lt _ _ HF.out _ _ _ _
    have hTB := Lib.hid (show ∀ i, T i < 256 from fun i => by rw [← hT]; exact boxF_lt _ _ HF.out _ _ _ _)
    obtain ⟨t, ht⟩ : ∃ t, T (n + k) = t := ⟨_, rfl⟩
    rw [ht] at hcell hTk
    have HXV := Lib.hid (u8_xor_nat t v hTk hv)
    have hNF := turned_out (key := key) (nonce := nonce) (f := f) (n := n) (o := o) (no := no) hk16 hz (fun i => if i = n + k then t ^^^ v else T i) (fun i => by rw [← ht, ← hT])
    have hE : openE key nonce (fun i => if i = n + k then t ^^^ v else T i) (n + 16) o no = 20 := by rw [openE, if_neg (by omega), if_neg (by omega), if_neg hNF]
    have hTn : ∀ i, (if i = n + k then t ^^^ v else T i) < 256 := fun i => by
      split
      · exact Nat.xor_lt_two_pow (n := 8) hTk hv
      · exact hTB.out i
    have HCUR2 := Lib.hid (show ∀ i, i < n + 16 → cur[i]? = some (.int .u8 (T i : Nat)) from fun i hi => by rw [← hT]; exact HCUR.out i hi)
    have hpk : ((n : Int) + (k : Int)).toNat = n + k := by omega
    have hlt9 : (n : Int) + (k : Int) < (n : Int) + 16 := by omega
    have hge9 : (0 : Int) ≤ (n : Int) + (k : Int) := by omega
    have HNF := Lib.hid hE
    have HTN := Lib.hid hTn
    have h0E := Lib.hid (none_len (key := key) (nonce := nonce) (x := fun i => if i = n + k then t ^^^ v else T i) (m := n + 16) (o := o) (no := no) (by rw [hE]; omega))
    clear hb2 hT ht hNF hE hTn HW1 HCUR C1 hTk
    go_upto_region 10 with fail
    rw [HXV.out]
    refine cut_world (fun X => Ctx S w key nonce A n f O no o X ∧ Rd X (some ⟨b1, 0, none⟩) (n + 16) (fun i => if i = n + k then t ^^^ v else T i)) ⟨⟨C2.out.1.far (by simp; omega) _, C2.out.2.1.far (by simp; omega) _, ?_, ?_, C2.out.2.2.2.2.setCell (by simp; omega) _⟩, ?_⟩ ?_
    · exact RA.out.below (C2.out.2.2.2.2.setCell (by simp; omega) _) (by rw [HB.out]; exact Nat.le_refl _)
    · exact RO.out.below (C2.out.2.2.2.2.setCell (by simp; omega) _) (by rw [HB.out]; exact Nat.le_refl _)
    · have hp := HW2.out.put (n + k) (.int .u8 ((t ^^^ v : Nat) : Int))
      refine .inr ⟨b1, 0, rfl, hp.lt, fun i hi => ?_⟩
      rw [Nat.zero_add, hp.cell, Array.getElem?_setIfInBounds]
      by_cases e : i = n + k
      · subst e
        have hsz : n + k < cur.size := by
          rcases Nat.lt_or_ge (n + k) cur.size with h | h
          · exact h
          · have := HCUR2.out (n + k) hi
            rw [Array.getElem?_eq_none h] at this
            cases this
        dsimp only
        rw [if_pos rfl, if_pos hsz, if_pos rfl]
      · dsimp only
        rw [if_neg (fun h => e h.symm), if_neg e]
        exact HCUR2.out i hi
    rintro W3 ⟨c3, r3⟩
    have C3 := Lib.hid c3
    have R3 := Lib.hid r3
    obtain ⟨T2, hT2⟩ : ∃ T2, (fun i => if i = n + k then t ^^^ v else T i) = T2 := ⟨_, rfl⟩
    rw [hT2] at R3 HNF h0E
    have HT2 := Lib.hid (show ∀ i, T2 i < 256 from fun i => by rw [← hT2]; exact HTN.out i)
    clear c3 r3 C2 HW2 hcell hfree HXV hT2 HTN HCUR2 hTB
    go_wp2_with (first | (refine wpList_load_row rfl 40 (.tmp 6) rfl S rfl 40 (byteCells key 32).toArray (0, 0) _ C3.out.1 rfl rfl (by kernel_rfl) ?_) | (refine wpList_load_row rfl 41 (.tmp 7) rfl (S + 1) rfl 41 (byteCells nonce 12).toArray (0, 0) _ C3.out.2.1 rfl rfl (by kernel_rfl) ?_))
    refine (open_all key nonce HK.out HN.out (some ⟨b1, 0, none⟩) (n + 16) (n + 16) T2 HT2.out O no co o HO.out (Nat.le_refl _) (by omega) hco _ R3.out C3.out.2.2.2.1).mono ?_
    rintro e w4 ⟨A4, rfl, r4, _, hb⟩
    rw [HNF.out, h0E.out]
    have C4 := Lib.hid (ctx_below C3.out hb)
    clear r4 hb C3 R3
    go_wp2_with fail
    refine (Aead.alive_any _).mono ?_
    rintro e w7 ⟨rfl, hb⟩
    have C7 := Lib.hid (ctx_below C4.out hb)
    clear hb C4
    go_wp2_with fail
    go_ret
    exact ⟨rfl, by rw [HB.out]; exact C7.out.2.2.2.2⟩

theorem walk (key nonce : Nat → Nat) (a2 : Option Addr) (len2 cap2 : Nat) (z2 : List Int) (a3 : Option Addr) (len3 cap3 : Nat) (z3 : List Int) (a4 : Int) (a5 : Int) (w : World) (w0 : ∀ i, key i < 256) (w1 : ∀ i, nonce i < 256) (w2 : IsRow .u8 w a2 len2 cap2 z2) (w3 : IsRow .u8 w a3 len3 cap3 z3) (w4 : (Lit.int .i64 a4).wf = true) (w5 : (Lit.int .u8 a5).wf = true) :
    Calls Try.prog 11 #[.agg (byteCells key 32).toArray, .agg (byteCells nonce 12).toArray, .slice a2 len2 cap2, .slice a3 len3 cap3, .int .i64 a4, .int .u8 a5] w fun e w' => e = .returned (.bool true) ∧ Below w.heap.size w w' := by
  obtain ⟨f, hf, hr, _, _⟩ := rd_of_row w2
  obtain ⟨o, ho, hr2, hco, _⟩ := rd_of_row w3
  obtain ⟨v, rfl, hv⟩ := nat_u8 w5
  by_cases h : 2000 < len2 ∨ 2000 < len3
  · exact big key nonce a2 a3 len2 cap2 len3 cap3 a4 _ h w
  · exact small key nonce w0 w1 a2 a3 len2 cap2 len3 cap3 f o hf ho (by omega) (by omega) hco a4 (int_i64 w4) v hv w hr hr2

end AeadTurned
end Go.Proofs.Ytdffbjlbhjppeaa
