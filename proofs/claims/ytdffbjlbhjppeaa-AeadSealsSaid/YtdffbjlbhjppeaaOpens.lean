/- 'aditlaw04.AeadOpens' returns true at every input and writes nothing that was there: the walk. No condition. -/
import Derived.Test.YtdffbjlbhjppeaaRefAll
namespace Go.Proofs.Ytdffbjlbhjppeaa
namespace AeadOpens
open Go.ChangeShapes Go.WideShapes Go.ChangeAt Go.RowKit
open Num Mem Words State PolyN Chacha Quiet Poly Ref Aead

/-- what stays through the whole call -/
def Ctx (S : Nat) (w : World) (key nonce long : Nat → Nat) (X : Option Addr) (m : Nat) (x : Nat → Nat) (O : Option Addr) (no : Nat) (o : Nat → Nat) (W : World) : Prop :=
  Whole W S 40 (byteCells key 32).toArray ∧ Whole W (S + 1) 41 (byteCells nonce 12).toArray ∧ Whole W (S + 1 + 1) 42 (byteCells long 24).toArray ∧ Rd W X m x ∧ Rd W O no o ∧ Below S w W
theorem ctx_below {S : Nat} {w W V : World} {key nonce long x o : Nat → Nat} {X O : Option Addr} {m no : Nat} (h : Ctx S w key nonce long X m x O no o W) (hb : Below W.heap.size W V) : Ctx S w key nonce long X m x O no o V :=
  ⟨h.1.below hb h.1.lt, h.2.1.below hb h.2.1.lt, h.2.2.1.below hb h.2.2.1.lt, h.2.2.2.1.below hb (Nat.le_refl _), h.2.2.2.2.1.below hb (Nat.le_refl _), h.2.2.2.2.2.trans (hb.mono (Nat.le_of_lt h.1.lt))⟩

def oddB (n : Nat) : Bool := decide ((200 < n ∧ n ≤ 65552) ∨ 65566 < n)
set_option maxRecDepth 100000 in
theorem odd_any (A : Option Addr) (n c : Nat) (w : World) : Calls Try.prog 22 #[.slice A n c] w fun e w' => e = .returned (.bool (oddB n)) ∧ w = w' := by
  have hob : oddB n = decide ((200 < n ∧ n ≤ 65552) ∨ 65566 < n) := rfl
  by_cases h1 : 200 < n
  · have hd1 : decide ((200 : Int) < (n : Int)) = true := decide_eq_true (by omega)
    by_cases h2 : n ≤ 65552
    · have hd2 : decide ((n : Int) ≤ (65552 : Int)) = true := decide_eq_true (by omega)
      rw [decide_eq_true (by omega)] at hob
      rw [hob]
      clear hob
      go_enter Try.func22, Try.ntmps22
      go_wp2_with fail
      go_ret
      exact ⟨rfl, rfl⟩
    · have hd2 : decide ((n : Int) ≤ (65552 : Int)) = false := decide_eq_false (by omega)
      by_cases h3 : 65566 < n
      · have hd3 : decide ((65566 : Int) < (n : Int)) = true := decide_eq_true (by omega)
        rw [decide_eq_true (by omega)] at hob
        rw [hob]
        clear hob
        go_enter Try.func22, Try.ntmps22
        go_wp2_with fail
        go_ret
        exact ⟨rfl, rfl⟩
      · have hd3 : decide ((65566 : Int) < (n : Int)) = false := decide_eq_false (by omega)
        rw [decide_eq_false (by omega)] at hob
        rw [hob]
        clear hob
        go_enter Try.func22, Try.ntmps22
        go_wp2_with fail
        go_ret
        exact ⟨rfl, rfl⟩
  · have hd1 : decide ((200 : Int) < (n : Int)) = false := decide_eq_false (by omega)
    have hd3 : decide ((65566 : Int) < (n : Int)) = false := decide_eq_false (by omega)
    rw [decide_eq_false (by omega)] at hob
    rw [hob]
    clear hob
    go_enter Try.func22, Try.ntmps22
    go_wp2_with fail
    go_ret
    exact ⟨rfl, rfl⟩

theorem own_cells {w : World} {B t n c : Nat} {A : Option Addr} {f : Nat → Nat} (h : Own w B t A n c f) (h0 : 0 < n) : ∃ g, A = some ⟨g, 0, none⟩ ∧ g < w.heap.size ∧ ∀ i, i < n → w.cell? ⟨g, 0 + i, none⟩ = some (.int .u8 (f i : Nat)) := by
  rcases own_at h with e | ⟨g, e, _, hlt⟩
  · have := own_none h e
    omega
  · subst e
    rcases h.rd with h1 | ⟨b, off, e, _, hc⟩
    · omega
    · injection e with e
      injection e with e1 e2
      subst e1
      subst e2
      exact ⟨_, rfl, hlt, hc⟩

set_option maxRecDepth 100000 in
set_option maxHeartbeats 2000000 in
theorem big (key nonce long : Nat → Nat) (X O : Option Addr) (m cx no co : Nat) (h : oddB m = true ∨ oddB no = true) (w : World) :
    Calls Try.prog 9 #[.agg (byteCells key 32).toArray, .agg (byteCells nonce 12).toArray, .agg (byteCells long 24).toArray, .slice X m cx, .slice O no co] w fun e w' => e = .returned (.bool true) ∧ Below w.heap.size w w' := by
  rw [byteCells_lit32, byteCells_lit12, byteCells_lit24]
  go_enter Try.func9, Try.ntmps9
  go_wp2_with fail
  refine (odd_any X m cx _).mono ?_
  rintro e w1 ⟨rfl, rfl⟩
  rcases hm : oddB m with _ | _
  · have hno : oddB no = true := by
      rcases h with h | h
      · rw [hm] at h
        cases h
      · exact h
    go_wp2_with fail
    refine (odd_any O no co _).mono ?_
    rintro e w1 ⟨rfl, rfl⟩
    rw [hno]
    go_wp2_with fail
    refine (Aead.alive_any _).mono ?_
    rintro e w1 ⟨rfl, hb1⟩
    have HB := Lib.hid (below_trans (below_alloc (below_alloc (below_alloc (Below.refl w.heap.size w) _) _) _) hb1)
    clear hb1
    go_wp2_with fail
    go_ret
    exact ⟨rfl, HB.out⟩
  · go_wp2_with fail
    refine (Aead.alive_any _).mono ?_
    rintro e w1 ⟨rfl, hb1⟩
    have HB := Lib.hid (below_trans (below_alloc (below_alloc (below_alloc (Below.refl w.heap.size w) _) _) _) hb1)
    clear hb1
    go_wp2_with fail
    go_ret
    exact ⟨rfl, HB.out⟩

set_option maxRecDepth 100000 in
set_option maxHeartbeats 2000000 in
theorem small (key nonce long : Nat → Nat) (hk : ∀ i, key i < 256) (hno : ∀ i, nonce i < 256) (hlo : ∀ i, long i < 256) (X O : Option Addr) (m cx no co : Nat) (x o : Nat → Nat) (hx : ∀ i, x i < 256) (ho : ∀ i, o i < 256) (h1 : oddB m = false) (h2 : oddB no = false) (hcx : m ≤ cx) (hcx2 : cx ≤ 9223372036854775807) (hco : no ≤ co) (hon : O = none → no = 0 ∧ co = 0) (w : World) (rx : Rd w X m x) (ro : Rd w O no o) :
    Calls Try.prog 9 #[.agg (byteCells key 32).toArray, .agg (byteCells nonce 12).toArray, .agg (byteCells long 24).toArray, .slice X m cx, .slice O no co] w fun e w' => e = .returned (.bool true) ∧ Below w.heap.size w w' := by
  have HK := Lib.hid hk
  have HN := Lib.hid hno
  have HL := Lib.hid hlo
  have HX := Lib.hid hx
  have HO := Lib.hid ho
  have RX := Lib.hid rx
  have RO := Lib.hid ro
  have HON := Lib.hid hon
  have HDB := Lib.hid (der_lt key long)
  have HEB := Lib.hid (bn_lt (f := fun i => long (16 + i)) (fun i => hlo _))
  clear hk hno hlo hx ho rx ro hon
  rw [byteCells_lit32, byteCells_lit12, byteCells_lit24]
  go_enter Try.func9, Try.ntmps9
  go_upto_region 1 with fail
  refine cut_world (Ctx w.heap.size w key nonce long X m x O no o) ⟨?_, ?_, ?_, ?_, ?_, ?_⟩ ?_
  · rw [byteCells_lit32]
    exact ((whole_new _ _ rfl).alloc _).alloc _
  · rw [byteCells_lit12]
    exact (whole_new _ _ (by simp)).alloc _
  · rw [byteCells_lit24]
    exact whole_new _ _ (by simp)
  · exact RX.out.below (below_alloc (below_alloc (below_alloc (Below.refl _ _) _) _) _) (Nat.le_refl _)
  · exact RO.out.below (below_alloc (below_alloc (below_alloc (Below.refl _ _) _) _) _) (Nat.le_refl _)
  · exact below_alloc (below_alloc (below_alloc (Below.refl _ _) _) _) _
  rintro W hc0
  have C0 := Lib.hid hc0
  clear hc0 RX RO
  generalize hB : w.heap.size = S at C0 ⊢
  have HB := Lib.hid hB
  clear hB
  go_wp2_with fail
  refine (odd_any X m cx _).mono ?_
  rintro e w1 ⟨rfl, rfl⟩
  rw [h1]
  go_wp2_with fail
  refine (odd_any O no co _).mono ?_
  rintro e w1 ⟨rfl, rfl⟩
  rw [h2]
  go_wp2_with (first | (refine wpList_load_row rfl 40 (.tmp 5) rfl S rfl 40 (byteCells key 32).toArray (0, 0) _ C0.out.1 rfl rfl (by kernel_rfl) ?_) | (refine wpList_load_row rfl 41 (.tmp 6) rfl (S + 1) rfl 41 (byteCells nonce 12).toArray (0, 0) _ C0.out.2.1 rfl rfl (by kernel_rfl) ?_) | (refine wpList_load_row rfl 42 (.tmp 7) rfl (S + 1 + 1) rfl 42 (byteCells long 24).toArray (0, 0) _ C0.out.2.2.1 rfl rfl (by kernel_rfl) ?_))
  refine (open_all key nonce HK.out HN.out X m cx x HX.out O no co o HO.out hcx hcx2 hco _ C0.out.2.2.2.1 C0.out.2.2.2.2.1).mono ?_
  rintro e w1 ⟨A1, rfl, r1, _, hb⟩
  obtain ⟨n1, hn1⟩ : ∃ y, openN key nonce x m o no = y := ⟨_, rfl⟩
  obtain ⟨e1, he1⟩ : ∃ y, openE key nonce x m o no = y := ⟨_, rfl⟩
  obtain ⟨T1, hT1⟩ : ∃ y, xo key nonce 1 x = y := ⟨_, rfl⟩
  rw [hn1, hT1] at r1
  rw [hn1, he1]
  have HN1 := Lib.hid hn1
  have HE1 := Lib.hid he1
  have HT1 := Lib.hid hT1
  have R1 := Lib.hid r1
  have C1 := Lib.hid (ctx_below C0.out hb)
  clear r1 hb C0 hn1 he1 hT1
  go_wp2_with fail
  refine region_start (fun w' => Below w1.heap.size w1 w') (by kernel_rfl) (below_drewN (Below.refl _ _) 1) ?_
  intro v0 hS
  refine take 0 _ rfl (by kernel_rfl) (by kernel_rfl) (by kernel_rfl) (fun _ _ _ h => h) (by rfl) hS (by intro w _; go_simp; with_reducible rfl) ?_
  try simp only [Act.put, List.setIfInBounds_toArray, List.set_cons_zero, List.set_cons_succ]
  refine take 1 _ rfl (by kernel_rfl) (by kernel_rfl) (by kernel_rfl) (fun _ _ _ h => h) (by rfl) hS (by intro w _; go_simp; with_reducible rfl) ?_
  try simp only [Act.put, List.setIfInBounds_toArray, List.set_cons_zero, List.set_cons_succ]
  refine take 2 _ rfl (by kernel_rfl) (by kernel_rfl) (by kernel_rfl) (fun _ _ _ h => h) (by rfl) hS (by intro w _; go_simp; with_reducible rfl) ?_
  try simp only [Act.put, List.setIfInBounds_toArray, List.set_cons_zero, List.set_cons_succ]
  refine take 3 _ rfl (by kernel_rfl) (by kernel_rfl) (by kernel_rfl) (fun _ _ _ h => h) (by rfl) hS (by intro w _; go_simp; with_reducible rfl) ?_
  try simp only [Act.put, List.setIfInBounds_toArray, List.set_cons_zero, List.set_cons_succ]
  refine alone 4 rfl (by kernel_rfl) (by rfl) ?_
  intro K hK
  go_simp
  have CC := ctx_below C1.out hS
  refine (open_ref S 0 32 (S + 1) 0 12 key nonce HK.out HN.out (by omega) (by omega) X m cx x HX.out O no co o HO.out HON.out hcx hcx2 _ CC.1.lt CC.2.1.lt (fun i hi => CC.1.bytes i hi) (fun i hi => CC.2.1.bytes i hi) CC.2.2.2.1 CC.2.2.2.2.1).mono ?_
  rintro e v1 ⟨A2, c2, rfl, r2, hb⟩
  rw [HE1.out, HN1.out]
  rw [HN1.out, HT1.out] at r2
  have R2 := Lib.hid r2
  have R1' := Lib.hid (R1.out.below (hS.trans (hb.mono hS.size)) (Nat.le_refl _))
  clear r2 CC R1
  go_simp
  replace hS := below_trans hS hb
  refine hK.out _ _ hS ?_
  clear hK hb K
  try simp only [Act.put, List.setIfInBounds_toArray, List.set_cons_zero, List.set_cons_succ]
  refine take 5 _ rfl (by kernel_rfl) (by kernel_rfl) (by kernel_rfl) (fun _ _ _ h => h) (by rfl) hS (by intro w _; go_simp; with_reducible rfl) ?_
  try simp only [Act.put, List.setIfInBounds_toArray, List.set_cons_zero, List.set_cons_succ]
  refine take 6 _ rfl (by kernel_rfl) (by kernel_rfl) (by kernel_rfl) (fun _ _ _ h => h) (by rfl) hS (by intro w _; go_simp; with_reducible rfl) ?_
  try simp only [Act.put, List.setIfInBounds_toArray, List.set_cons_zero, List.set_cons_succ]
  refine take 7 _ rfl (by kernel_rfl) (by kernel_rfl) (by kernel_rfl) (fun _ _ _ h => h) (by rfl) hS (by intro w _; go_simp; with_reducible rfl) ?_
  try simp only [Act.put, List.setIfInBounds_toArray, List.set_cons_zero, List.set_cons_succ]
  refine take 8 _ rfl (by kernel_rfl) (by kernel_rfl) (by kernel_rfl) (fun _ _ _ h => h) (by rfl) hS (by intro w _; go_simp; with_reducible rfl) ?_
  try simp only [Act.put, List.setIfInBounds_toArray, List.set_cons_zero, List.set_cons_succ]
  refine take 9 _ rfl (by kernel_rfl) (by kernel_rfl) (by kernel_rfl) (fun _ _ _ h => h) (by rfl) hS (by intro w _; go_simp; with_reducible rfl) ?_
  try simp only [Act.put, List.setIfInBounds_toArray, List.set_cons_zero, List.set_cons_succ]
  refine region_end (by kernel_rfl) ?_
  have C2 := Lib.hid (ctx_below C1.out hS)
  clear hS C1
  go_wp2_with (first | (refine wpList_load_row rfl 40 (.tmp 5) rfl S rfl 40 (byteCells key 32).toArray (0, 0) _ C2.out.1 rfl rfl (by kernel_rfl) ?_) | (refine wpList_load_row rfl 41 (.tmp 6) rfl (S + 1) rfl 41 (byteCells nonce 12).toArray (0, 0) _ C2.out.2.1 rfl rfl (by kernel_rfl) ?_) | (refine wpList_load_row rfl 42 (.tmp 7) rfl (S + 1 + 1) rfl 42 (byteCells long 24).toArray (0, 0) _ C2.out.2.2.1 rfl rfl (by kernel_rfl) ?_))
  have hxo := xopen_all key long HK.out HL.out X m cx x HX.out O no co o HO.out hcx hcx2 hco _ C2.out.2.2.2.1 C2.out.2.2.2.2.1
  generalize hDD : der key long = D at HDB hxo ⊢
  generalize hEE : (bn fun i => long (16 + i)) = E at HEB hxo ⊢
  have HDD := Lib.hid hDD
  have HEE := Lib.hid hEE
  clear hDD hEE
  refine hxo.mono ?_
  clear hxo
  rintro e w3 ⟨A3, rfl, r3, _, hb⟩
  obtain ⟨n2, hn2⟩ : ∃ y, openN D E x m o no = y := ⟨_, rfl⟩
  obtain ⟨e2, he2⟩ : ∃ y, openE D E x m o no = y := ⟨_, rfl⟩
  obtain ⟨T2, hT2⟩ : ∃ y, xo D E 1 x = y := ⟨_, rfl⟩
  rw [hn2, hT2] at r3
  rw [hn2, he2]
  have HN2 := Lib.hid hn2
  have HE2 := Lib.hid he2
  have HT2 := Lib.hid hT2
  have R3 := Lib.hid r3
  have R1 := Lib.hid (R1'.out.below hb (Nat.le_refl _))
  have S2 := Lib.hid (R2.out.below hb (Nat.le_refl _))
  have C3 := Lib.hid (ctx_below C2.out hb)
  clear r3 hb C2 hn2 he2 hT2 R1' R2
  have R2 := Lib.hid S2.out
  clear S2
  go_wp2_with fail
  refine region_start (fun w' => Below w3.heap.size w3 w') (by kernel_rfl) (below_drewN (Below.refl _ _) 1) ?_
  intro v2 hS
  refine take 0 _ rfl (by kernel_rfl) (by kernel_rfl) (by kernel_rfl) (fun _ _ _ h => h) (by rfl) hS (by intro w _; go_simp; with_reducible rfl) ?_
  try simp only [Act.put, List.setIfInBounds_toArray, List.set_cons_zero, List.set_cons_succ]
  refine take 1 _ rfl (by kernel_rfl) (by kernel_rfl) (by kernel_rfl) (fun _ _ _ h => h) (by rfl) hS (by intro w _; go_simp; with_reducible rfl) ?_
  try simp only [Act.put, List.setIfInBounds_toArray, List.set_cons_zero, List.set_cons_succ]
  refine alone 2 rfl (by kernel_rfl) (by rfl) ?_
  intro K hK
  go_simp
  have CC := ctx_below C3.out hS
  refine (short_ref S 0 32 (S + 1 + 1) 0 24 key long HK.out HL.out (by omega) (by omega) (by omega) (by omega) _ CC.1.lt CC.2.2.1.lt (fun i hi => CC.1.bytes i hi) (fun i hi => CC.2.2.1.bytes i hi)).mono ?_
  rintro e v3 ⟨A4, c4, A5, c5, rfl, o4, o5, hb⟩
  rw [HDD.out] at o4
  rw [HEE.out] at o5
  have O4 := Lib.hid o4
  have O5 := Lib.hid o5
  have R1' := Lib.hid (R1.out.below (hS.trans (hb.mono hS.size)) (Nat.le_refl _))
  have R2' := Lib.hid (R2.out.below (hS.trans (hb.mono hS.size)) (Nat.le_refl _))
  have R3' := Lib.hid (R3.out.below (hS.trans (hb.mono hS.size)) (Nat.le_refl _))
  clear o4 o5 CC R1 R2 R3
  go_simp
  replace hS := below_trans hS hb
  refine hK.out _ _ hS ?_
  clear hK hb K
  try simp only [Act.put, List.setIfInBounds_toArray, List.set_cons_zero, List.set_cons_succ]
  refine take 3 _ rfl (by kernel_rfl) (by kernel_rfl) (by kernel_rfl) (fun _ _ _ h => h) (by rfl) hS (by intro w _; go_simp; with_reducible rfl) ?_
  try simp only [Act.put, List.setIfInBounds_toArray, List.set_cons_zero, List.set_cons_succ]
  refine take 4 _ rfl (by kernel_rfl) (by kernel_rfl) (by kernel_rfl) (fun _ _ _ h => h) (by rfl) hS (by intro w _; go_simp; with_reducible rfl) ?_
  try simp only [Act.put, List.setIfInBounds_toArray, List.set_cons_zero, List.set_cons_succ]
  refine take 5 _ rfl (by kernel_rfl) (by kernel_rfl) (by kernel_rfl) (fun _ _ _ h => h) (by rfl) hS (by intro w _; go_simp; with_reducible rfl) ?_
  try simp only [Act.put, List.setIfInBounds_toArray, List.set_cons_zero, List.set_cons_succ]
  refine take 6 _ rfl (by kernel_rfl) (by kernel_rfl) (by kernel_rfl) (fun _ _ _ h => h) (by rfl) hS (by intro w _; go_simp; with_reducible rfl) ?_
  try simp only [Act.put, List.setIfInBounds_toArray, List.set_cons_zero, List.set_cons_succ]
  refine take 7 _ rfl (by kernel_rfl) (by kernel_rfl) (by kernel_rfl) (fun _ _ _ h => h) (by rfl) hS (by intro w _; go_simp; with_reducible rfl) ?_
  try simp only [Act.put, List.setIfInBounds_toArray, List.set_cons_zero, List.set_cons_succ]
  refine region_end (by kernel_rfl) ?_
  have C4 := Lib.hid (ctx_below C3.out hS)
  clear hS C3
  obtain ⟨g4, rfl, hc4⟩ : ∃ g, A4 = some ⟨g, 0, none⟩ ∧ g < v3.heap.size ∧ ∀ i, i < 32 → v3.cell? ⟨g, 0 + i, none⟩ = some (.int .u8 (D i : Nat)) := own_cells O4.out (by omega)
  obtain ⟨g5, rfl, hc5⟩ : ∃ g, A5 = some ⟨g, 0, none⟩ ∧ g < v3.heap.size ∧ ∀ i, i < 12 → v3.cell? ⟨g, 0 + i, none⟩ = some (.int .u8 (E i : Nat)) := own_cells O5.out (by omega)
  have hk4 := own_cap O4.out
  have hm4 := own_max O4.out
  have HC4 := Lib.hid hc4
  have HC5 := Lib.hid hc5
  clear hc4 hc5 O4 O5
  go_wp2_with fail
  refine (open_ref g4 0 c4 g5 0 c5 D E HDB.out HEB.out hk4 hm4 X m cx x HX.out O no co o HO.out HON.out hcx hcx2 _ HC4.out.1 HC5.out.1 HC4.out.2 HC5.out.2 C4.out.2.2.2.1 C4.out.2.2.2.2.1).mono ?_
  rintro e w5 ⟨A6, c6, rfl, r6, hb⟩
  rw [HN2.out, HT2.out] at r6
  rw [HN2.out, HE2.out]
  have R6 := Lib.hid r6
  have Q1 := Lib.hid (R1'.out.below hb (Nat.le_refl _))
  have Q2 := Lib.hid (R2'.out.below hb (Nat.le_refl _))
  have Q3 := Lib.hid (R3'.out.below hb (Nat.le_refl _))
  have C5 := Lib.hid (ctx_below C4.out hb)
  clear r6 hb C4 HC4 HC5 R1' R2' R3'
  go_wp2_with fail
  refine (Aead.alive_any _).mono ?_
  rintro e w6 ⟨rfl, hb⟩
  have C6 := Lib.hid (ctx_below C5.out hb)
  have hcv1 := run_string_of (P := Try.prog) (c := n1) 23 9 5 Try.underlying23 Try.underlying5 Try.underlying9 (Q1.out.below hb (Nat.le_refl _))
  have hcv2 := run_string_of (P := Try.prog) (c := c2) 23 9 5 Try.underlying23 Try.underlying5 Try.underlying9 (Q2.out.below hb (Nat.le_refl _))
  have hcv3 := run_string_of (P := Try.prog) (c := n2) 23 9 5 Try.underlying23 Try.underlying5 Try.underlying9 (Q3.out.below hb (Nat.le_refl _))
  have hcv4 := run_string_of (P := Try.prog) (c := c6) 23 9 5 Try.underlying23 Try.underlying5 Try.underlying9 (R6.out.below hb (Nat.le_refl _))
  clear hb C5 Q1 Q2 Q3 R6
  go_wp2_with fail
  go_ret
  exact ⟨rfl, by rw [HB.out]; exact C6.out.2.2.2.2.2⟩

theorem walk (key nonce long : Nat → Nat) (a3 : Option Addr) (len3 cap3 : Nat) (z3 : List Int) (a4 : Option Addr) (len4 cap4 : Nat) (z4 : List Int) (w : World) (w0 : ∀ i, key i < 256) (w1 : ∀ i, nonce i < 256) (w2 : ∀ i, long i < 256) (w3 : IsRow .u8 w a3 len3 cap3 z3) (w4 : IsRow .u8 w a4 len4 cap4 z4) :
    Calls Try.prog 9 #[.agg (byteCells key 32).toArray, .agg (byteCells nonce 12).toArray, .agg (byteCells long 24).toArray, .slice a3 len3 cap3, .slice a4 len4 cap4] w fun e w' => e = .returned (.bool true) ∧ Below w.heap.size w w' := by
  obtain ⟨x, hx, hr, hcx, hcx2⟩ := rd_of_row w3
  obtain ⟨o, ho, hr2, hco, _⟩ := rd_of_row w4
  by_cases h : oddB len3 = true ∨ oddB len4 = true
  · exact big key nonce long a3 a4 len3 cap3 len4 cap4 h w
  · exact small key nonce long w0 w1 w2 a3 a4 len3 cap3 len4 cap4 x o hx ho (by simpa using fun e => h (.inl e)) (by simpa using fun e => h (.inr e)) hcx hcx2 hco (fun e => Arr.row_nil w4 e) w hr hr2

end AeadOpens
end Go.Proofs.Ytdffbjlbhjppeaa
