/- 'aditlaw04.AeadSeals' returns true at every input and writes nothing that was there: the walk. No condition. -/
import Derived.Test.YtdffbjlbhjppeaaOpens
namespace Go.Proofs.Ytdffbjlbhjppeaa
namespace AeadSeals
open Go.ChangeShapes Go.WideShapes Go.ChangeAt Go.RowKit
open Num Mem Words State PolyN Chacha Quiet Poly Ref Aead
open AeadOpens

set_option maxRecDepth 100000 in
set_option maxHeartbeats 2000000 in
theorem big (key nonce long : Nat → Nat) (X O : Option Addr) (m cx no co : Nat) (a5 : Int) (h : oddB m = true ∨ oddB no = true) (w : World) :
    Calls Try.prog 8 #[.agg (byteCells key 32).toArray, .agg (byteCells nonce 12).toArray, .agg (byteCells long 24).toArray, .slice X m cx, .slice O no co, .int .u64 a5] w fun e w' => e = .returned (.bool true) ∧ Below w.heap.size w w' := by
  rw [byteCells_lit32, byteCells_lit12, byteCells_lit24]
  go_enter Try.func8, Try.ntmps8
  go_wp2_with fail
  refine (odd_any X m cx _).mono ?_
  rintro e w1 ⟨rfl, rfl⟩
  rcases hm : oddB m with _ | _
  · have hno : oddB no = true := by
      rcases h with h | h
      · rw [hm] at h
        cases h
      · exact h
    go_wp2_with fail
    refine (odd_any O no co _).mono ?_
    rintro e w1 ⟨rfl, rfl⟩
    rw [hno]
    go_wp2_with fail
    refine (Aead.alive_any _).mono ?_
    rintro e w1 ⟨rfl, hb1⟩
    have HB := Lib.hid (below_trans (below_alloc (below_alloc (below_alloc (Below.refl w.heap.size w) _) _) _) hb1)
    clear hb1
    go_wp2_with fail
    go_ret
    exact ⟨rfl, HB.out⟩
  · go_wp2_with fail
    refine (Aead.alive_any _).mono ?_
    rintro e w1 ⟨rfl, hb1⟩
    have HB := Lib.hid (below_trans (below_alloc (below_alloc (below_alloc (Below.refl w.heap.size w) _) _) _) hb1)
    clear hb1
    go_wp2_with fail
    go_ret
    exact ⟨rfl, HB.out⟩

set_option maxRecDepth 100000 in
set_option maxHeartbeats 2000000 in
theorem small (key nonce long : Nat → Nat) (hk : ∀ i, key i < 256) (hno : ∀ i, nonce i < 256) (hlo : ∀ i, long i < 256) (X O : Option Addr) (m cx no co : Nat) (x o : Nat → Nat) (hx : ∀ i, x i < 256) (ho : ∀ i, o i < 256) (h1 : oddB m = false) (h2 : oddB no = false) (hco : no ≤ co) (hon : O = none → no = 0 ∧ co = 0) (v : Nat) (hv : v < 18446744073709551616) (w : World) (rx : Rd w X m x) (ro : Rd w O no o) :
    Calls Try.prog 8 #[.agg (byteCells key 32).toArray, .agg (byteCells nonce 12).toArray, .agg (byteCells long 24).toArray, .slice X m cx, .slice O no co, .int .u64 (v : Nat)] w fun e w' => e = .returned (.bool true) ∧ Below w.heap.size w w' := by
  have HK := Lib.hid hk
  have HN := Lib.hid hno
  have HL := Lib.hid hlo
  have HX := Lib.hid hx
  have HO := Lib.hid ho
  have RX := Lib.hid rx
  have RO := Lib.hid ro
  have HON := Lib.hid hon
  have HDB := Lib.hid (der_lt key long)
  have HEB := Lib.hid (bn_lt (f := fun i => long (16 + i)) (fun i => hlo _))
  clear hk hno hlo hx ho rx ro hon
  rw [byteCells_lit32, byteCells_lit12, byteCells_lit24]
  go_enter Try.func8, Try.ntmps8
  go_upto_region 1 with fail
  refine cut_world (Ctx w.heap.size w key nonce long X m x O no o) ⟨?_, ?_, ?_, ?_, ?_, ?_⟩ ?_
  · rw [byteCells_lit32]
    exact ((whole_new _ _ rfl).alloc _).alloc _
  · rw [byteCells_lit12]
    exact (whole_new _ _ (by simp)).alloc _
  · rw [byteCells_lit24]
    exact whole_new _ _ (by simp)
  · exact RX.out.below (below_alloc (below_alloc (below_alloc (Below.refl _ _) _) _) _) (Nat.le_refl _)
  · exact RO.out.below (below_alloc (below_alloc (below_alloc (Below.refl _ _) _) _) _) (Nat.le_refl _)
  · exact below_alloc (below_alloc (below_alloc (Below.refl _ _) _) _) _
  rintro W hc0
  have C0 := Lib.hid hc0
  clear hc0 RX RO
  generalize hB : w.heap.size = S at C0 ⊢
  have HB := Lib.hid hB
  clear hB
  go_wp2_with fail
  refine (odd_any X m cx _).mono ?_
  rintro e w1 ⟨rfl, rfl⟩
  rw [h1]
  go_wp2_with fail
  refine (odd_any O no co _).mono ?_
  rintro e w1 ⟨rfl, rfl⟩
  rw [h2]
  go_wp2_with (first | (refine wpList_load_row rfl 40 (.tmp 6) rfl S rfl 40 (byteCells key 32).toArray (0, 0) _ C0.out.1 rfl rfl (by kernel_rfl) ?_) | (refine wpList_load_row rfl 41 (.tmp 7) rfl (S + 1) rfl 41 (byteCells nonce 12).toArray (0, 0) _ C0.out.2.1 rfl rfl (by kernel_rfl) ?_) | (refine wpList_load_row rfl 42 (.tmp 8) rfl (S + 1 + 1) rfl 42 (byteCells long 24).toArray (0, 0) _ C0.out.2.2.1 rfl rfl (by kernel_rfl) ?_))
  refine (seal_all key nonce HK.out HN.out X m cx x HX.out O no co o HO.out hco _ C0.out.2.2.2.1 C0.out.2.2.2.2.1).mono ?_
  rintro e w1 ⟨A1, d1, rfl, r1, hb⟩
  obtain ⟨n1, hn1⟩ : ∃ y, sealN m no = y := ⟨_, rfl⟩
  obtain ⟨e1, he1⟩ : ∃ y, sealE m no = y := ⟨_, rfl⟩
  obtain ⟨T1, hT1⟩ : ∃ y, boxF key nonce x m o no = y := ⟨_, rfl⟩
  rw [hn1, hT1] at r1
  rw [hn1, he1]
  have HN1 := Lib.hid hn1
  have HE1 := Lib.hid he1
  have HT1 := Lib.hid hT1
  have R1 := Lib.hid r1.rd
  have C1 := Lib.hid (ctx_below C0.out hb)
  clear r1 hb C0 hn1 he1 hT1
  go_wp2_with fail
  refine region_start (fun w' => Below w1.heap.size w1 w') (by kernel_rfl) (below_drewN (Below.refl _ _) 1) ?_
  intro v0 hS
  refine take 0 _ rfl (by kernel_rfl) (by kernel_rfl) (by kernel_rfl) (fun _ _ _ h => h) (by rfl) hS (by intro w _; go_simp; with_reducible rfl) ?_
  try simp only [Act.put, List.setIfInBounds_toArray, List.set_cons_zero, List.set_cons_succ]
  refine take 1 _ rfl (by kernel_rfl) (by kernel_rfl) (by kernel_rfl) (fun _ _ _ h => h) (by rfl) hS (by intro w _; go_simp; with_reducible rfl) ?_
  try simp only [Act.put, List.setIfInBounds_toArray, List.set_cons_zero, List.set_cons_succ]
  refine take 2 _ rfl (by kernel_rfl) (by kernel_rfl) (by kernel_rfl) (fun _ _ _ h => h) (by rfl) hS (by intro w _; go_simp; with_reducible rfl) ?_
  try simp only [Act.put, List.setIfInBounds_toArray, List.set_cons_zero, List.set_cons_succ]
  refine take 3 _ rfl (by kernel_rfl) (by kernel_rfl) (by kernel_rfl) (fun _ _ _ h => h) (by rfl) hS (by intro w _; go_simp; with_reducible rfl) ?_
  try simp only [Act.put, List.setIfInBounds_toArray, List.set_cons_zero, List.set_cons_succ]
  refine alone 4 rfl (by kernel_rfl) (by rfl) ?_
  intro K hK
  go_simp
  have CC := ctx_below C1.out hS
  refine (seal_ref S 0 32 (S + 1) 0 12 key nonce HK.out HN.out (by omega) (by omega) X m cx x HX.out O no co o HO.out HON.out _ CC.1.lt CC.2.1.lt (fun i hi => CC.1.bytes i hi) (fun i hi => CC.2.1.bytes i hi) CC.2.2.2.1 CC.2.2.2.2.1).mono ?_
  rintro e v1 ⟨A2, c2, rfl, r2, hb⟩
  rw [HE1.out, HN1.out]
  rw [HN1.out, HT1.out] at r2
  have R2 := Lib.hid r2
  have R1' := Lib.hid (R1.out.below (hS.trans (hb.mono hS.size)) (Nat.le_refl _))
  clear r2 CC R1
  go_simp
  replace hS := below_trans hS hb
  refine hK.out _ _ hS ?_
  clear hK hb K
  try simp only [Act.put, List.setIfInBounds_toArray, List.set_cons_zero, List.set_cons_succ]
  refine take 5 _ rfl (by kernel_rfl) (by kernel_rfl) (by kernel_rfl) (fun _ _ _ h => h) (by rfl) hS (by intro w _; go_simp; with_reducible rfl) ?_
  try simp only [Act.put, List.setIfInBounds_toArray, List.set_cons_zero, List.set_cons_succ]
  refine take 6 _ rfl (by kernel_rfl) (by kernel_rfl) (by kernel_rfl) (fun _ _ _ h => h) (by rfl) hS (by intro w _; go_simp; with_reducible rfl) ?_
  try simp only [Act.put, List.setIfInBounds_toArray, List.set_cons_zero, List.set_cons_succ]
  refine take 7 _ rfl (by kernel_rfl) (by kernel_rfl) (by kernel_rfl) (fun _ _ _ h => h) (by rfl) hS (by intro w _; go_simp; with_reducible rfl) ?_
  try simp only [Act.put, List.setIfInBounds_toArray, List.set_cons_zero, List.set_cons_succ]
  refine take 8 _ rfl (by kernel_rfl) (by kernel_rfl) (by kernel_rfl) (fun _ _ _ h => h) (by rfl) hS (by intro w _; go_simp; with_reducible rfl) ?_
  try simp only [Act.put, List.setIfInBounds_toArray, List.set_cons_zero, List.set_cons_succ]
  refine take 9 _ rfl (by kernel_rfl) (by kernel_rfl) (by kernel_rfl) (fun _ _ _ h => h) (by rfl) hS (by intro w _; go_simp; with_reducible rfl) ?_
  try simp only [Act.put, List.setIfInBounds_toArray, List.set_cons_zero, List.set_cons_succ]
  refine region_end (by kernel_rfl) ?_
  have C2 := Lib.hid (ctx_below C1.out hS)
  clear hS C1
  go_wp2_with (first | (refine wpList_load_row rfl 40 (.tmp 6) rfl S rfl 40 (byteCells key 32).toArray (0, 0) _ C2.out.1 rfl rfl (by kernel_rfl) ?_) | (refine wpList_load_row rfl 41 (.tmp 7) rfl (S + 1) rfl 41 (byteCells nonce 12).toArray (0, 0) _ C2.out.2.1 rfl rfl (by kernel_rfl) ?_) | (refine wpList_load_row rfl 42 (.tmp 8) rfl (S + 1 + 1) rfl 42 (byteCells long 24).toArray (0, 0) _ C2.out.2.2.1 rfl rfl (by kernel_rfl) ?_))
  have hxo := xseal_all key long HK.out HL.out X m cx x HX.out O no co o HO.out hco _ C2.out.2.2.2.1 C2.out.2.2.2.2.1
  generalize hDD : der key long = D at HDB hxo ⊢
  generalize hEE : (bn fun i => long (16 + i)) = E at HEB hxo ⊢
  have HDD := Lib.hid hDD
  have HEE := Lib.hid hEE
  clear hDD hEE
  refine hxo.mono ?_
  clear hxo
  rintro e w3 ⟨A3, d3, rfl, r3, hb⟩
  obtain ⟨T2, hT2⟩ : ∃ y, boxF D E x m o no = y := ⟨_, rfl⟩
  rw [HN1.out, hT2] at r3
  rw [HN1.out, HE1.out]
  have HT2 := Lib.hid hT2
  have R3 := Lib.hid r3.rd
  have R1 := Lib.hid (R1'.out.below hb (Nat.le_refl _))
  have S2 := Lib.hid (R2.out.below hb (Nat.le_refl _))
  have C3 := Lib.hid (ctx_below C2.out hb)
  clear r3 hb C2 hT2 R1' R2
  have R2 := Lib.hid S2.out
  clear S2
  go_wp2_with fail
  refine region_start (fun w' => Below w3.heap.size w3 w') (by kernel_rfl) (below_drewN (Below.refl _ _) 1) ?_
  intro v2 hS
  refine take 0 _ rfl (by kernel_rfl) (by kernel_rfl) (by kernel_rfl) (fun _ _ _ h => h) (by rfl) hS (by intro w _; go_simp; with_reducible rfl) ?_
  try simp only [Act.put, List.setIfInBounds_toArray, List.set_cons_zero, List.set_cons_succ]
  refine take 1 _ rfl (by kernel_rfl) (by kernel_rfl) (by kernel_rfl) (fun _ _ _ h => h) (by rfl) hS (by intro w _; go_simp; with_reducible rfl) ?_
  try simp only [Act.put, List.setIfInBounds_toArray, List.set_cons_zero, List.set_cons_succ]
  refine alone 2 rfl (by kernel_rfl) (by rfl) ?_
  intro K hK
  go_simp
  have CC := ctx_below C3.out hS
  refine (short_ref S 0 32 (S + 1 + 1) 0 24 key long HK.out HL.out (by omega) (by omega) (by omega) (by omega) _ CC.1.lt CC.2.2.1.lt (fun i hi => CC.1.bytes i hi) (fun i hi => CC.2.2.1.bytes i hi)).mono ?_
  rintro e v3 ⟨A4, c4, A5, c5, rfl, o4, o5, hb⟩
  rw [HDD.out] at o4
  rw [HEE.out] at o5
  have O4 := Lib.hid o4
  have O5 := Lib.hid o5
  have R1' := Lib.hid (R1.out.below (hS.trans (hb.mono hS.size)) (Nat.le_refl _))
  have R2' := Lib.hid (R2.out.below (hS.trans (hb.mono hS.size)) (Nat.le_refl _))
  have R3' := Lib.hid (R3.out.below (hS.trans (hb.mono hS.size)) (Nat.le_refl _))
  clear o4 o5 CC R1 R2 R3
  go_simp
  replace hS := below_trans hS hb
  refine hK.out _ _ hS ?_
  clear hK hb K
  try simp only [Act.put, List.setIfInBounds_toArray, List.set_cons_zero, List.set_cons_succ]
  refine take 3 _ rfl (by kernel_rfl) (by kernel_rfl) (by kernel_rfl) (fun _ _ _ h => h) (by rfl) hS (by intro w _; go_simp; with_reducible rfl) ?_
  try simp only [Act.put, List.setIfInBounds_toArray, List.set_cons_zero, List.set_cons_succ]
  refine take 4 _ rfl (by kernel_rfl) (by kernel_rfl) (by kernel_rfl) (fun _ _ _ h => h) (by rfl) hS (by intro w _; go_simp; with_reducible rfl) ?_
  try simp only [Act.put, List.setIfInBounds_toArray, List.set_cons_zero, List.set_cons_succ]
  refine take 5 _ rfl (by kernel_rfl) (by kernel_rfl) (by kernel_rfl) (fun _ _ _ h => h) (by rfl) hS (by intro w _; go_simp; with_reducible rfl) ?_
  try simp only [Act.put, List.setIfInBounds_toArray, List.set_cons_zero, List.set_cons_succ]
  refine take 6 _ rfl (by kernel_rfl) (by kernel_rfl) (by kernel_rfl) (fun _ _ _ h => h) (by rfl) hS (by intro w _; go_simp; with_reducible rfl) ?_
  try simp only [Act.put, List.setIfInBounds_toArray, List.set_cons_zero, List.set_cons_succ]
  refine take 7 _ rfl (by kernel_rfl) (by kernel_rfl) (by kernel_rfl) (fun _ _ _ h => h) (by rfl) hS (by intro w _; go_simp; with_reducible rfl) ?_
  try simp only [Act.put, List.setIfInBounds_toArray, List.set_cons_zero, List.set_cons_succ]
  refine region_end (by kernel_rfl) ?_
  have C4 := Lib.hid (ctx_below C3.out hS)
  clear hS C3
  obtain ⟨g4, rfl, hc4⟩ : ∃ g, A4 = some ⟨g, 0, none⟩ ∧ g < v3.heap.size ∧ ∀ i, i < 32 → v3.cell? ⟨g, 0 + i, none⟩ = some (.int .u8 (D i : Nat)) := own_cells O4.out (by omega)
  obtain ⟨g5, rfl, hc5⟩ : ∃ g, A5 = some ⟨g, 0, none⟩ ∧ g < v3.heap.size ∧ ∀ i, i < 12 → v3.cell? ⟨g, 0 + i, none⟩ = some (.int .u8 (E i : Nat)) := own_cells O5.out (by omega)
  have hk4 := own_cap O4.out
  have hm4 := own_max O4.out
  have HC4 := Lib.hid hc4
  have HC5 := Lib.hid hc5
  clear hc4 hc5 O4 O5
  go_wp2_with fail
  refine (seal_ref g4 0 c4 g5 0 c5 D E HDB.out HEB.out hk4 hm4 X m cx x HX.out O no co o HO.out HON.out _ HC4.out.1 HC5.out.1 HC4.out.2 HC5.out.2 C4.out.2.2.2.1 C4.out.2.2.2.2.1).mono ?_
  rintro e w5 ⟨A6, c6, rfl, r6, hb⟩
  rw [HN1.out, HT2.out] at r6
  rw [HN1.out, HE1.out]
  have S6 := Lib.hid r6
  have S1 := Lib.hid (R1'.out.below hb (Nat.le_refl _))
  have S2 := Lib.hid (R2'.out.below hb (Nat.le_refl _))
  have S3 := Lib.hid (R3'.out.below hb (Nat.le_refl _))
  have C5 := Lib.hid (ctx_below C4.out hb)
  clear r6 hb C4 HC4 HC5 R1' R2' R3'
  obtain ⟨F, hF⟩ : ∃ F, bn (byteAt v) = F := ⟨_, rfl⟩
  have HCT := Lib.hid hF
  clear hF
  have HZ12 := Lib.hid (show ∀ f, (byteCells f 12).toArray.size = 12 from fun f => by rw [List.size_toArray, byteCells_length])
  go_wp2_with fail
  refine (counter_any v hv _).mono ?_
  rintro e w6 ⟨rfl, hb⟩
  rw [HCT.out]
  have P1 := Lib.hid (S1.out.below hb (Nat.le_refl _))
  have P2 := Lib.hid (S2.out.below hb (Nat.le_refl _))
  have P3 := Lib.hid (S3.out.below hb (Nat.le_refl _))
  have P6 := Lib.hid (S6.out.below hb (Nat.le_refl _))
  have C6 := Lib.hid (ctx_below C5.out hb)
  clear hb C5 S1 S2 S3 S6
  go_upto_region 9 with (refine wpList_store_row rfl 41 (.tmp 23) (.tmp 70) rfl w6.heap.size (byteCells F 12).toArray rfl rfl 41 _ (Whole.new _ _ _) (by rw [HZ12.out]; kernel_rfl) (by rw [HZ12.out]; rfl) (bytes_one _ _) ?_)
  try simp only [Act.put]
  refine cut_world (fun X => Below w6.heap.size w6 X ∧ Whole X w6.heap.size 41 (byteCells F 12).toArray) ⟨below_setRow (below_alloc (Below.refl _ _) _) (Nat.le_refl _) _, setRow_heap _ _ _ _ _ _ (Whole.new _ _ _)⟩ ?_
  rintro W7 ⟨hb, kx⟩
  have Q1 := Lib.hid (P1.out.below hb (Nat.le_refl _))
  have Q2 := Lib.hid (P2.out.below hb (Nat.le_refl _))
  have Q3 := Lib.hid (P3.out.below hb (Nat.le_refl _))
  have R6 := Lib.hid (P6.out.below hb (Nat.le_refl _))
  have C7 := Lib.hid (ctx_below C6.out hb)
  have KX := Lib.hid kx
  clear hb kx C6 P1 P2 P3 P6
  generalize w6.heap.size = G at KX ⊢
  refine region_start (fun w' => Below W7.heap.size W7 w') (by kernel_rfl) (below_drewN (Below.refl _ _) 1) ?_
  intro v3' hS
  refine alone 0 rfl (by kernel_rfl) (by rfl) ?_
  intro K hK
  go_simp
  refine (Aead.alive_any _).mono ?_
  rintro e v4 ⟨rfl, hb⟩
  go_simp
  replace hS := below_trans hS hb
  refine hK.out _ _ hS ?_
  clear hK hb K
  try simp only [Act.put, List.setIfInBounds_toArray, List.set_cons_zero, List.set_cons_succ]
  refine take 1 _ rfl (by kernel_rfl) (by kernel_rfl) (by kernel_rfl) (fun _ _ _ h => h) (by rfl) hS (by intro w _; go_simp; with_reducible rfl) ?_
  try simp only [Act.put, List.setIfInBounds_toArray, List.set_cons_zero, List.set_cons_succ]
  refine take 2 _ rfl (by kernel_rfl) (by kernel_rfl) (by kernel_rfl) (fun _ _ _ h => h) (by rfl) hS (by intro w _; go_simp; with_reducible rfl) ?_
  try simp only [Act.put, List.setIfInBounds_toArray, List.set_cons_zero, List.set_cons_succ]
  refine take 3 _ rfl (by kernel_rfl) (by kernel_rfl) (by kernel_rfl) (fun _ _ _ h => h) (by rfl) hS (fun w hw => run_string_op 23 9 5 _ rfl rfl Try.underlying23 Try.underlying5 Try.underlying9 (Q1.out.below hw (Nat.le_refl _))) ?_
  try simp only [Act.put, List.setIfInBounds_toArray, List.set_cons_zero, List.set_cons_succ]
  refine take 4 _ rfl (by kernel_rfl) (by kernel_rfl) (by kernel_rfl) (fun _ _ _ h => h) (by rfl) hS (by intro w _; go_simp; with_reducible rfl) ?_
  try simp only [Act.put, List.setIfInBounds_toArray, List.set_cons_zero, List.set_cons_succ]
  refine take 5 _ rfl (by kernel_rfl) (by kernel_rfl) (by kernel_rfl) (fun _ _ _ h => h) (by rfl) hS (fun w hw => run_string_op 23 9 5 _ rfl rfl Try.underlying23 Try.underlying5 Try.underlying9 (Q2.out.below hw (Nat.le_refl _))) ?_
  try simp only [Act.put, List.setIfInBounds_toArray, List.set_cons_zero, List.set_cons_succ]
  refine take 6 _ rfl (by kernel_rfl) (by kernel_rfl) (by kernel_rfl) (fun _ _ _ h => h) (by rfl) hS (by intro w _; go_simp; with_reducible rfl) ?_
  try simp only [Act.put, List.setIfInBounds_toArray, List.set_cons_zero, List.set_cons_succ]
  refine take 7 _ rfl (by kernel_rfl) (by kernel_rfl) (by kernel_rfl) (fun _ _ _ h => h) (by rfl) hS (by intro w _; go_simp; with_reducible rfl) ?_
  try simp only [Act.put, List.setIfInBounds_toArray, List.set_cons_zero, List.set_cons_succ]
  refine take 8 _ rfl (by kernel_rfl) (by kernel_rfl) (by kernel_rfl) (fun _ _ _ h => h) (by rfl) hS (by intro w _; go_simp; with_reducible rfl) ?_
  try simp only [Act.put, List.setIfInBounds_toArray, List.set_cons_zero, List.set_cons_succ]
  refine take 9 _ rfl (by kernel_rfl) (by kernel_rfl) (by kernel_rfl) (fun _ _ _ h => h) (by rfl) hS (by intro w _; go_simp; with_reducible rfl) ?_
  try simp only [Act.put, List.setIfInBounds_toArray, List.set_cons_zero, List.set_cons_succ]
  refine take 10 _ rfl (by kernel_rfl) (by kernel_rfl) (by kernel_rfl) (fun _ _ _ h => h) (by rfl) hS (by intro w _; go_simp; with_reducible rfl) ?_
  try simp only [Act.put, List.setIfInBounds_toArray, List.set_cons_zero, List.set_cons_succ]
  refine take 11 _ rfl (by kernel_rfl) (by kernel_rfl) (by kernel_rfl) (fun _ _ _ h => h) (by rfl) hS (by intro w _; go_simp; with_reducible rfl) ?_
  try simp only [Act.put, List.setIfInBounds_toArray, List.set_cons_zero, List.set_cons_succ]
  refine take 12 _ rfl (by kernel_rfl) (by kernel_rfl) (by kernel_rfl) (fun _ _ _ h => h) (by rfl) hS (by intro w _; go_simp; with_reducible rfl) ?_
  try simp only [Act.put, List.setIfInBounds_toArray, List.set_cons_zero, List.set_cons_succ]
  refine take 13 _ rfl (by kernel_rfl) (by kernel_rfl) (by kernel_rfl) (fun _ _ _ h => h) (by rfl) hS (by intro w _; go_simp; with_reducible rfl) ?_
  try simp only [Act.put, List.setIfInBounds_toArray, List.set_cons_zero, List.set_cons_succ]
  refine take 14 _ rfl (by kernel_rfl) (by kernel_rfl) (by kernel_rfl) (fun _ _ _ h => h) (by rfl) hS (by intro w _; go_simp; with_reducible rfl) ?_
  try simp only [Act.put, List.setIfInBounds_toArray, List.set_cons_zero, List.set_cons_succ]
  refine take 15 _ rfl (by kernel_rfl) (by kernel_rfl) (by kernel_rfl) (fun _ _ _ h => h) (by rfl) hS (fun w hw => run_string_op 23 9 5 _ rfl rfl Try.underlying23 Try.underlying5 Try.underlying9 (Q3.out.below hw (Nat.le_refl _))) ?_
  try simp only [Act.put, List.setIfInBounds_toArray, List.set_cons_zero, List.set_cons_succ]
  refine take 16 _ rfl (by kernel_rfl) (by kernel_rfl) (by kernel_rfl) (fun _ _ _ h => h) (by rfl) hS (by intro w _; go_simp; with_reducible rfl) ?_
  try simp only [Act.put, List.setIfInBounds_toArray, List.set_cons_zero, List.set_cons_succ]
  refine take 17 _ rfl (by kernel_rfl) (by kernel_rfl) (by kernel_rfl) (fun _ _ _ h => h) (by rfl) hS (fun w hw => run_string_op 23 9 5 _ rfl rfl Try.underlying23 Try.underlying5 Try.underlying9 (R6.out.below hw (Nat.le_refl _))) ?_
  try simp only [Act.put, List.setIfInBounds_toArray, List.set_cons_zero, List.set_cons_succ]
  refine take 18 _ rfl (by kernel_rfl) (by kernel_rfl) (by kernel_rfl) (fun _ _ _ h => h) (by rfl) hS (by intro w _; go_simp; with_reducible rfl) ?_
  try simp only [Act.put, List.setIfInBounds_toArray, List.set_cons_zero, List.set_cons_succ]
  refine take 19 _ rfl (by kernel_rfl) (by kernel_rfl) (by kernel_rfl) (fun _ _ _ h => h) (by rfl) hS (by intro w _; go_simp; with_reducible rfl) ?_
  try simp only [Act.put, List.setIfInBounds_toArray, List.set_cons_zero, List.set_cons_succ]
  refine take 20 _ rfl (by kernel_rfl) (by kernel_rfl) (by kernel_rfl) (fun _ _ _ h => h) (by rfl) hS (by intro w _; go_simp; with_reducible rfl) ?_
  try simp only [Act.put, List.setIfInBounds_toArray, List.set_cons_zero, List.set_cons_succ]
  refine take 21 _ rfl (by kernel_rfl) (by kernel_rfl) (by kernel_rfl) (fun _ _ _ h => h) (by rfl) hS (by intro w _; go_simp; with_reducible rfl) ?_
  try simp only [Act.put, List.setIfInBounds_toArray, List.set_cons_zero, List.set_cons_succ]
  refine take 22 _ rfl (by kernel_rfl) (by kernel_rfl) (by kernel_rfl) (fun _ _ _ h => h) (by rfl) hS (by intro w _; go_simp; with_reducible rfl) ?_
  try simp only [Act.put, List.setIfInBounds_toArray, List.set_cons_zero, List.set_cons_succ]
  refine take 23 _ rfl (by kernel_rfl) (by kernel_rfl) (by kernel_rfl) (fun _ _ _ h => h) (by rfl) hS (by intro w _; go_simp; with_reducible rfl) ?_
  try simp only [Act.put, List.setIfInBounds_toArray, List.set_cons_zero, List.set_cons_succ]
  refine take 24 _ rfl (by kernel_rfl) (by kernel_rfl) (by kernel_rfl) (fun _ _ _ h => h) (by rfl) hS (by intro w _; go_simp; with_reducible rfl) ?_
  try simp only [Act.put, List.setIfInBounds_toArray, List.set_cons_zero, List.set_cons_succ]
  refine take 25 _ rfl (by kernel_rfl) (by kernel_rfl) (by kernel_rfl) (fun _ _ _ h => h) (by rfl) hS (by intro w _; go_simp; with_reducible rfl) ?_
  try simp only [Act.put, List.setIfInBounds_toArray, List.set_cons_zero, List.set_cons_succ]
  refine take 26 _ rfl (by kernel_rfl) (by kernel_rfl) (by kernel_rfl) (fun _ _ _ h => h) (by rfl) hS (by intro w _; go_simp; with_reducible rfl) ?_
  try simp only [Act.put, List.setIfInBounds_toArray, List.set_cons_zero, List.set_cons_succ]
  refine take 27 _ rfl (by kernel_rfl) (by kernel_rfl) (by kernel_rfl) (fun _ _ _ h => h) (by rfl) hS (fun w hw => run_string_op 23 9 5 _ rfl rfl Try.underlying23 Try.underlying5 Try.underlying9 (Rd.of_whole (KX.out.below hw KX.out.lt))) ?_
  try simp only [Act.put, List.setIfInBounds_toArray, List.set_cons_zero, List.set_cons_succ]
  refine take 28 _ rfl (by kernel_rfl) (by kernel_rfl) (by kernel_rfl) (fun _ _ _ h => h) (by rfl) hS (by intro w _; go_simp; with_reducible rfl) ?_
  try simp only [Act.put, List.setIfInBounds_toArray, List.set_cons_zero, List.set_cons_succ]
  refine alone 29 rfl (by kernel_rfl) (by rfl) ?_
  intro K hK
  go_simp
  refine (counter_ref v hv _).mono ?_
  rintro e v5 ⟨AC, cc, rfl, rc, hb⟩
  rw [HCT.out] at rc
  have RC := Lib.hid rc
  clear rc
  go_simp
  replace hS := below_trans hS hb
  refine hK.out _ _ hS ?_
  clear hK hb K
  try simp only [Act.put, List.setIfInBounds_toArray, List.set_cons_zero, List.set_cons_succ]
  refine alone_run 30 _ rfl (by kernel_rfl) (by rfl) hS (run_string_op 23 9 5 _ rfl rfl Try.underlying23 Try.underlying5 Try.underlying9 (RC.out)) ?_
  try simp only [Act.put, List.setIfInBounds_toArray, List.set_cons_zero, List.set_cons_succ]
  refine take 31 _ rfl (by kernel_rfl) (by kernel_rfl) (by kernel_rfl) (fun _ _ _ h => h) (by rfl) hS (by intro w _; go_simp; with_reducible rfl) ?_
  try simp only [Act.put, List.setIfInBounds_toArray, List.set_cons_zero, List.set_cons_succ]
  refine take 32 _ rfl (by kernel_rfl) (by kernel_rfl) (by kernel_rfl) (fun _ _ _ h => h) (by rfl) hS (by intro w _; go_simp; with_reducible rfl) ?_
  try simp only [Act.put, List.setIfInBounds_toArray, List.set_cons_zero, List.set_cons_succ]
  refine take 33 _ rfl (by kernel_rfl) (by kernel_rfl) (by kernel_rfl) (fun _ _ _ h => h) (by rfl) hS (by intro w _; go_simp; with_reducible rfl) ?_
  try simp only [Act.put, List.setIfInBounds_toArray, List.set_cons_zero, List.set_cons_succ]
  refine region_end (by kernel_rfl) ?_
  have C8 := Lib.hid (ctx_below C7.out hS)
  clear hS C7
  go_wp2_with fail
  go_ret
  exact ⟨rfl, by rw [HB.out]; exact C8.out.2.2.2.2.2⟩

theorem walk (key nonce long : Nat → Nat) (a3 : Option Addr) (len3 cap3 : Nat) (z3 : List Int) (a4 : Option Addr) (len4 cap4 : Nat) (z4 : List Int) (a5 : Int) (w : World) (w0 : ∀ i, key i < 256) (w1 : ∀ i, nonce i < 256) (w2 : ∀ i, long i < 256) (w3 : IsRow .u8 w a3 len3 cap3 z3) (w4 : IsRow .u8 w a4 len4 cap4 z4) (w5 : (Lit.int .u64 a5).wf = true) :
    Calls Try.prog 8 #[.agg (byteCells key 32).toArray, .agg (byteCells nonce 12).toArray, .agg (byteCells long 24).toArray, .slice a3 len3 cap3, .slice a4 len4 cap4, .int .u64 a5] w fun e w' => e = .returned (.bool true) ∧ Below w.heap.size w w' := by
  obtain ⟨x, hx, hr, _, _⟩ := rd_of_row w3
  obtain ⟨o, ho, hr2, hco, _⟩ := rd_of_row w4
  obtain ⟨v, rfl, hv⟩ := nat_u64 w5
  by_cases h : oddB len3 = true ∨ oddB len4 = true
  · exact big key nonce long a3 a4 len3 cap3 len4 cap4 _ h w
  · exact small key nonce long w0 w1 w2 a3 a4 len3 cap3 len4 cap4 x o hx ho (by simpa using fun e => h (.inl e)) (by simpa using fun e => h (.inr e)) hco (fun e => Arr.row_nil w4 e) v hv w hr hr2

end AeadSeals
end Go.Proofs.Ytdffbjlbhjppeaa
