/- The call Derive of package chacha. -/
import Derived.Test.YtdffbjlbhjppeaaBlock
import Derived.Test.YtdffbjlbhjppeaaTree
import Derived.Test.YtdffbjlbhjppeaaCopy
import Derived.Test.YtdffbjlbhjppeaaRefDer
import Derived.Deep.DeepCutAuto
namespace Go.Proofs.Ytdffbjlbhjppeaa
namespace Chacha
open Go.ChangeShapes Go.WideShapes Go.ChangeAt Go.RowKit
open Num Mem Words State Quiet Ref

theorem wraps (k : Nat) (h : k ≤ 4) : IntKind.i64.wrap (4 * (k : Int)) = 4 * (k : Int) ∧ IntKind.i64.wrap (16 + 4 * (k : Int)) = 16 + 4 * (k : Int) := by
  rw [IntKind.wrap_i64, IntKind.wrap_i64]
  omega
/-- the first n of each half -/
def hpart (G : Nat → Nat) (n m j : Nat) : Nat := if j < n ∨ (16 ≤ j ∧ j < 16 + m) then G j else 0

set_option maxRecDepth 100000 in
set_option maxHeartbeats 2000000 in
theorem derive_any (key nonce : Nat → Nat) (hk : ∀ i, key i < 256) (hn : ∀ i, nonce i < 256) (w : World) :
    Calls Try.prog 61 #[.agg (byteCells key 32).toArray, .agg (byteCells nonce 16).toArray] w fun e w' => e = .returned (.agg (byteCells (der key nonce) 32).toArray) ∧ Below w.heap.size w w' := by
  have HKF := Lib.hid hk
  have HNF := Lib.hid hn
  clear hk hn
  rw [byteCells_lit32, byteCells_lit16]
  go_enter Try.func61, Try.ntmps61
  go_wp2_with fail
  refine cut_world (fun W => Whole W w.heap.size 40 (byteCells key 32).toArray ∧ Whole W (w.heap.size + 1) 25 (byteCells nonce 16).toArray ∧ Whole W (w.heap.size + 1 + 1) 40 (byteCells (fun _ => 0) 32).toArray ∧ Below w.heap.size w W) ⟨?_, ?_, ?_, ?_⟩ ?_
  · rw [byteCells_lit32]
    exact ((whole_new _ _ rfl).alloc _).alloc _
  · rw [byteCells_lit16]
    exact (whole_new _ _ (by simp)).alloc _
  · rw [byteCells_lit32]
    exact whole_new _ _ (by simp)
  · exact below_alloc (below_alloc (below_alloc (Below.refl _ _) _) _) _
  rintro W ⟨k1, k2, k3, kb⟩
  have HK := Lib.hid k1
  have HN := Lib.hid k2
  have HR := Lib.hid k3
  have HB := Lib.hid kb
  clear k1 k2 k3 kb
  generalize hB : w.heap.size = B at HK HN HR HB ⊢
  refine region_start (fun w' => Below W.heap.size W w') (by kernel_rfl) (below_drewN (Below.refl _ _) 1) ?_
  intro w0 hS
  refine take 0 _ rfl (by kernel_rfl) (by kernel_rfl) (by kernel_rfl) (fun _ _ _ h => h) (by rfl) hS (fun w hw => run_load_op 40 (.tmp 2) rfl (B) rfl (HK.out.below hw HK.out.lt) rfl rfl (by kernel_rfl)) ?_
  try simp only [Act.put, List.setIfInBounds_toArray, List.set_cons_zero, List.set_cons_succ]
  refine take 1 _ rfl (by kernel_rfl) (by kernel_rfl) (by kernel_rfl) (fun _ _ _ h => h) (by rfl) hS (by intro w _; go_simp; with_reducible rfl) ?_
  try simp only [Act.put, List.setIfInBounds_toArray, List.set_cons_zero, List.set_cons_succ]
  refine take_call 2 (.int .u32 (le nonce 0 4 : Nat)) 70 (#[.slice (some ⟨B + 1, 0, none⟩) 16 16, .int .i64 0]) rfl (by kernel_rfl) (by kernel_rfl) (by kernel_rfl) (fun _ _ _ h => h) (by rfl) hS (by intro w; go_simp; try with_reducible rfl) (fun w hw => number_any (B + 1) 0 16 16 nonce HNF.out 0 (by omega) (by omega) _ (fun i hi => (HN.out.below hw HN.out.lt).bytes i hi)) ?_
  try simp only [Act.put, List.setIfInBounds_toArray, List.set_cons_zero, List.set_cons_succ]
  refine take 3 _ rfl (by kernel_rfl) (by kernel_rfl) (by kernel_rfl) (fun _ _ _ h => h) (by rfl) hS (by intro w _; go_simp; with_reducible rfl) ?_
  try simp only [Act.put, List.setIfInBounds_toArray, List.set_cons_zero, List.set_cons_succ]
  refine take_call 4 (.int .u32 (le nonce 4 4 : Nat)) 70 (#[.slice (some ⟨B + 1, 0, none⟩) 16 16, .int .i64 1]) rfl (by kernel_rfl) (by kernel_rfl) (by kernel_rfl) (fun _ _ _ h => h) (by rfl) hS (by intro w; go_simp; try with_reducible rfl) (fun w hw => number_any (B + 1) 0 16 16 nonce HNF.out 1 (by omega) (by omega) _ (fun i hi => (HN.out.below hw HN.out.lt).bytes i hi)) ?_
  try simp only [Act.put, List.setIfInBounds_toArray, List.set_cons_zero, List.set_cons_succ]
  refine take 5 _ rfl (by kernel_rfl) (by kernel_rfl) (by kernel_rfl) (fun _ _ _ h => h) (by rfl) hS (by intro w _; go_simp; with_reducible rfl) ?_
  try simp only [Act.put, List.setIfInBounds_toArray, List.set_cons_zero, List.set_cons_succ]
  refine take_call 6 (.int .u32 (le nonce 8 4 : Nat)) 70 (#[.slice (some ⟨B + 1, 0, none⟩) 16 16, .int .i64 2]) rfl (by kernel_rfl) (by kernel_rfl) (by kernel_rfl) (fun _ _ _ h => h) (by rfl) hS (by intro w; go_simp; try with_reducible rfl) (fun w hw => number_any (B + 1) 0 16 16 nonce HNF.out 2 (by omega) (by omega) _ (fun i hi => (HN.out.below hw HN.out.lt).bytes i hi)) ?_
  try simp only [Act.put, List.setIfInBounds_toArray, List.set_cons_zero, List.set_cons_succ]
  refine take 7 _ rfl (by kernel_rfl) (by kernel_rfl) (by kernel_rfl) (fun _ _ _ h => h) (by rfl) hS (by intro w _; go_simp; with_reducible rfl) ?_
  try simp only [Act.put, List.setIfInBounds_toArray, List.set_cons_zero, List.set_cons_succ]
  refine take_call 8 (.int .u32 (le nonce 12 4 : Nat)) 70 (#[.slice (some ⟨B + 1, 0, none⟩) 16 16, .int .i64 3]) rfl (by kernel_rfl) (by kernel_rfl) (by kernel_rfl) (fun _ _ _ h => h) (by rfl) hS (by intro w; go_simp; try with_reducible rfl) (fun w hw => number_any (B + 1) 0 16 16 nonce HNF.out 3 (by omega) (by omega) _ (fun i hi => (HN.out.below hw HN.out.lt).bytes i hi)) ?_
  try simp only [Act.put, List.setIfInBounds_toArray, List.set_cons_zero, List.set_cons_succ]
  refine take 9 _ rfl (by kernel_rfl) (by kernel_rfl) (by kernel_rfl) (fun _ _ _ h => h) (by rfl) hS (by intro w _; go_simp; with_reducible rfl) ?_
  try simp only [Act.put, List.setIfInBounds_toArray, List.set_cons_zero, List.set_cons_succ]
  refine call_alloc_store 10 11 12 69 _ 104 20 5 (wcells (List.replicate 16 0)).toArray (wcells (first key [le nonce 0 4, le nonce 4 4, le nonce 8 4, le nonce 12 4])).toArray rfl rfl rfl (by kernel_rfl) (by kernel_rfl) (by kernel_rfl) (by kernel_rfl) (by kernel_rfl) (by decide) rfl rfl rfl rfl rfl rfl (by decide) (by simp) (by simp) rfl (by intro a w; go_simp; rfl) (by rw [first_size]; kernel_rfl) (by rw [first_size]; rfl) (wcells_one _) (by intro w; go_simp) (by intro p w; go_simp) (fun w hw => first_any key HKF.out _ _ _ _ w) hS ?_
  intro g5 w1 hg5 h5 hb1
  simp only [Act.put, List.setIfInBounds_toArray, List.set_cons_zero, List.set_cons_succ]
  have l6 := HR.out.lt
  have l5 := h5.lt
  have HR1 := Lib.hid (HR.out.below hb1 HR.out.lt)
  have HB1 := Lib.hid (HB.out.trans (hb1.mono (by have := HB.out.size; omega)))
  have hs1 : B ≤ w1.heap.size := by have := HB1.out.size; omega
  have hlen : (first key [le nonce 0 4, le nonce 4 4, le nonce 8 4, le nonce 12 4]).length = 16 := by simp [first, nums]
  have hfits : Fits (first key [le nonce 0 4, le nonce 4 4, le nonce 8 4, le nonce 12 4]) := first_fits key HKF.out _ _ _ _ (le_lt HNF.out 0 4) (le_lt HNF.out 4 4) (le_lt HNF.out 8 4) (le_lt HNF.out 12 4)
  have hder : ∀ j, der key nonce j = byteAt ((stir (first key [le nonce 0 4, le nonce 4 4, le nonce 8 4, le nonce 12 4])).getD (if j < 16 then j / 4 else 8 + j / 4) 0) (j % 4) := fun _ => rfl
  generalize first key [le nonce 0 4, le nonce 4 4, le nonce 8 4, le nonce 12 4] = F at h5 hlen hfits hder ⊢
  have H5 := Lib.hid h5
  have HL := Lib.hid hlen
  have HF := Lib.hid hfits
  have HD := Lib.hid hder
  clear h5 hb1 hlen hfits hder hS HK HN HR HB
  go_wp2_with fail
  refine (stir_any g5 F HL.out HF.out _ H5.out).mono ?_
  rintro e w2 ⟨rfl, h8, hg⟩
  have hr' := whole_grown HR1.out hg (by omega)
  have hb' := below_grown HB1.out hg (by omega) hs1
  have SL := Lib.hid (show (stir F).length = 16 by rw [stir, rounds_length]; exact HL.out)
  have SF := Lib.hid (show Fits (stir F) from rounds_fits 10 HF.out)
  have HD' := HD.out
  generalize stir F = G at h8 SL SF HD'
  have HDG := Lib.hid HD'
  have H8 := Lib.hid h8
  have HR' := Lib.hid hr'
  have HB' := Lib.hid hb'
  clear h8 hr' hb' hg HR1 HB1 H5 HD HD' HL HF
  go_wp2_with fail
  refine cut_world (fun X => Whole X g5 104 (wcells G).toArray ∧ Whole X (B + 1 + 1) 40 (byteCells (fun _ => 0) 32).toArray ∧ Whole X w2.heap.size 40 (byteCells (fun _ => 0) 32).toArray ∧ Below B w X ∧ B + 1 + 1 < w2.heap.size ∧ g5 < w2.heap.size) ⟨H8.out.alloc _, HR'.out.alloc _, ?_, below_alloc' HB'.out (by have := HB'.out.size; omega) _, HR'.out.lt, H8.out.lt⟩ ?_
  · rw [byteCells_lit32]
    exact Whole.new _ _ _
  rintro X ⟨x5, x4, x6, xb, l4, l5⟩
  generalize w2.heap.size = g6 at x6 l4 l5 ⊢
  have X5 := Lib.hid x5
  have X4 := Lib.hid x4
  have X6 := Lib.hid x6
  have XB := Lib.hid xb
  clear x5 x4 x6 xb H8 HR' HB'
  go_loopw [22] (fun i wr => ∃ k : Nat, k ≤ 4 ∧ i = .int .i64 k ∧ Whole wr g5 104 (wcells G).toArray ∧ Whole wr (B + 1 + 1) 40 (byteCells (fun _ => 0) 32).toArray ∧ Whole wr g6 40 (byteCells (hpart (der key nonce) (4 * k) (4 * k)) 32).toArray ∧ Below B w wr) (fun i _ => 4 - (intOf i).toNat)
  case atStart => exact ⟨0, by omega, rfl, X5.out, X4.out, by
    rw [byteCells_congr (g := fun _ => 0) (fun i hi => by unfold hpart; rw [if_neg (by omega)])]
    exact X6.out, XB.out⟩
  case round =>
    obtain ⟨k, hk, rfl, q5, q4, q6, qb⟩ := hrel
    by_cases hlt : k < 4
    · have c1 : ∀ x, Below wr.heap.size wr x → x.cell? ⟨g5, k, none⟩ = some (.int .u32 (G.getD k 0 : Nat)) := fun x hx => by
        rw [(q5.below hx q5.lt).cell, List.getElem?_toArray, wcells_get _ _ (by rw [SL.out]; omega)]
      have c2 : ∀ x, Below wr.heap.size wr x → x.cell? ⟨g5, 12 + k, none⟩ = some (.int .u32 (G.getD (12 + k) 0 : Nat)) := fun x hx => by
        rw [(q5.below hx q5.lt).cell, List.getElem?_toArray, wcells_get _ _ (by rw [SL.out]; omega)]
      obtain ⟨k2, hk2⟩ : ∃ k2, k2 = 12 + k := ⟨_, rfl⟩
      have HW2 := Lib.hid (show IntKind.i64.wrap (12 + (k : Int)) = (k2 : Int) by rw [IntKind.wrap_i64]; omega)
      have hk2i : (k2 : Int) < 16 := by omega
      have hd1 : ∀ i, i < 4 → der key nonce (4 * k + i) = byteAt (G.getD k 0) i := fun i hi => by
        rw [HDG.out, if_pos (by omega), show (4 * k + i) / 4 = k by omega, show (4 * k + i) % 4 = i by omega]
      have hd2 : ∀ i, i < 4 → der key nonce (16 + 4 * k + i) = byteAt (G.getD (12 + k) 0) i := fun i hi => by
        rw [HDG.out, if_neg (by omega), show 8 + (16 + 4 * k + i) / 4 = 12 + k by omega, show (16 + 4 * k + i) % 4 = i by omega]
      have hz1 : G.getD k 0 < 4294967296 := SF.out k
      have hz2 : G.getD (12 + k) 0 < 4294967296 := SF.out (12 + k)
      generalize G.getD k 0 = z1 at c1 hd1 hz1
      rw [← hk2] at c2 hd2 hz2
      clear hk2
      generalize G.getD k2 0 = z2 at c2 hd2 hz2
      have C1 := Lib.hid c1
      have C2 := Lib.hid c2
      have HD1 := Lib.hid hd1
      have HD2 := Lib.hid hd2
      have Q5 := Lib.hid q5
      have Q4 := Lib.hid q4
      have Q6 := Lib.hid q6
      have QB := Lib.hid qb
      clear c1 c2 hd1 hd2 q5 q4 q6 qb
      have hk4 : (k : Int) < 4 := by omega
      have hk16 : (k : Int) < 16 := by omega
      go_upto_region 7 with fail
      go_cut [8, 9] (fun s8 s9 wx => ∃ ga0 ga1 : Nat, s8 = .pointer (some ⟨ga0, 0, none⟩) ∧ s9 = .pointer (some ⟨ga1, 0, none⟩) ∧ ga0 ≠ ga1 ∧ wr.heap.size ≤ ga0 ∧ wr.heap.size ≤ ga1 ∧ Whole wx ga0 108 (byteCells (byteAt z1) 4).toArray ∧ Whole wx ga1 108 (byteCells (byteAt z2) 4).toArray ∧ Below wr.heap.size wr wx)
      case first =>
        refine region_start (fun w' => Below wr.heap.size wr w') (by kernel_rfl) (below_drewN (Below.refl _ _) 1) ?_
        intro w3 hS
        refine take 0 _ rfl (by kernel_rfl) (by kernel_rfl) (by kernel_rfl) (fun _ _ _ h => h) (by rfl) hS (by intro w _; go_simp; with_reducible rfl) ?_
        try simp only [Act.put, List.setIfInBounds_toArray, List.set_cons_zero, List.set_cons_succ]
        refine take 1 _ rfl (by kernel_rfl) (by kernel_rfl) (by kernel_rfl) (fun _ _ _ h => h) (by rfl) hS (by intro w _; go_simp; with_reducible rfl) ?_
        try simp only [Act.put, List.setIfInBounds_toArray, List.set_cons_zero, List.set_cons_succ]
        refine take 2 _ rfl (by kernel_rfl) (by kernel_rfl) (by kernel_rfl) (fun _ _ _ h => h) (by rfl) hS (by intro w hw; have hcl := C1.out w hw; go_simp; with_reducible rfl) ?_
        try simp only [Act.put, List.setIfInBounds_toArray, List.set_cons_zero, List.set_cons_succ]
        refine take 4 _ rfl (by kernel_rfl) (by kernel_rfl) (by kernel_rfl) (fun _ _ _ h => h) (by rfl) hS (by intro w _; go_simp; with_reducible rfl) ?_
        try simp only [Act.put, List.setIfInBounds_toArray, List.set_cons_zero, List.set_cons_succ]
        refine take 5 _ rfl (by kernel_rfl) (by kernel_rfl) (by kernel_rfl) (fun _ _ _ h => h) (by rfl) hS (by intro w _; go_simp; with_reducible rfl) ?_
        try simp only [Act.put, List.setIfInBounds_toArray, List.set_cons_zero, List.set_cons_succ]
        rw [HW2.out]
        refine take 6 _ rfl (by kernel_rfl) (by kernel_rfl) (by kernel_rfl) (fun _ _ _ h => h) (by rfl) hS (by intro w _; go_simp; with_reducible rfl) ?_
        try simp only [Act.put, List.setIfInBounds_toArray, List.set_cons_zero, List.set_cons_succ]
        refine take 7 _ rfl (by kernel_rfl) (by kernel_rfl) (by kernel_rfl) (fun _ _ _ h => h) (by rfl) hS (by intro w hw; have hcl := C2.out w hw; go_simp; with_reducible rfl) ?_
        try simp only [Act.put, List.setIfInBounds_toArray, List.set_cons_zero, List.set_cons_succ]
        refine ready_three 3 9 10 rfl rfl rfl (by kernel_rfl) (by rfl) (by rfl) (by rfl) ?_ ?_ ?_
        · intro K hK
          go_simp
          refine (put32_any z1 hz1 _).mono ?_
          rintro e v1 ⟨rfl, hb⟩
          go_simp
          replace hS := below_trans hS hb
          refine hK.out _ _ hS ?_
          clear hK hb K
          try simp only [Act.put, List.setIfInBounds_toArray, List.set_cons_zero, List.set_cons_succ]
          refine ready_three 8 9 10 rfl rfl rfl (by kernel_rfl) (by rfl) (by rfl) (by rfl) ?_ ?_ ?_
          · intro K hK
            go_simp
            refine (put32_any z2 hz2 _).mono ?_
            rintro e v2 ⟨rfl, hb⟩
            go_simp
            replace hS := below_trans hS hb
            refine hK.out _ _ hS ?_
            clear hK hb K
            try simp only [Act.put, List.setIfInBounds_toArray, List.set_cons_zero, List.set_cons_succ]
            refine ready_two 9 10 rfl rfl (by kernel_rfl) (by rfl) (by rfl) ?_ ?_
            · intro K hK
              go_simp
              refine hK.out _ _ (hS.alloc hS.size _) ?_
              clear hK K
              try simp only [Act.put, List.setIfInBounds_toArray, List.set_cons_zero, List.set_cons_succ]
              refine cut_any (fun X => Whole X v2.heap.size 108 (byteCells (fun _ => 0) 4).toArray ∧ Below wr.heap.size wr X) ⟨Whole.new _ _ _, hS.alloc hS.size _⟩ ?_
              rintro v3 ⟨hnew, hS'⟩
              have hge0 : wr.heap.size ≤ v2.heap.size := hS.size
              clear hS
              have hS := hS'
              clear hS'
              generalize v2.heap.size = ga0 at hnew hge0 ⊢
              have Ha0 := Lib.hid hnew
              clear hnew
              refine alone 10 rfl (by kernel_rfl) (by rfl) ?_
              intro K hK
              go_simp
              refine hK.out _ _ (hS.alloc hS.size _) ?_
              clear hK K
              try simp only [Act.put, List.setIfInBounds_toArray, List.set_cons_zero, List.set_cons_succ]
              refine cut_any (fun X => Whole X v3.heap.size 108 (byteCells (fun _ => 0) 4).toArray ∧ Below wr.heap.size wr X ∧ Whole X ga0 108 (byteCells (fun _ => 0) 4).toArray) ⟨Whole.new _ _ _, hS.alloc hS.size _, Ha0.out.alloc _⟩ ?_
              rintro v4 ⟨hnew, hS', hold0⟩
              have hlt0 : ga0 < v3.heap.size := Ha0.out.lt
              have hge1 : wr.heap.size ≤ v3.heap.size := hS.size
              clear hS
              have hS := hS'
              clear hS'
              generalize v3.heap.size = ga1 at hnew hge1 hlt0 ⊢
              have Ha1 := Lib.hid hnew
              clear hnew
              replace Ha0 := Lib.hid hold0
              clear hold0
              have hne : ga0 ≠ ga1 := by omega
              refine alone 11 rfl (by kernel_rfl) (by rfl) ?_
              intro K hK
              refine wp_store_row 108 (.tmp 8) (.tmp 28) rfl ga0 (byteCells (byteAt z1) 4).toArray (by rfl) (by rfl) 108 _ Ha0.out (by kernel_rfl) (by rfl) (bytes_one _ _) ?_
              have hS2 := below_setRow hS hge0 (byteCells (byteAt z1) 4).toArray
              refine hK.out _ _ hS2 ?_
              clear hK K
              refine cut_any (fun X => Whole X ga0 108 (byteCells (byteAt z1) 4).toArray ∧ Whole X ga1 108 (byteCells (fun _ => 0) 4).toArray ∧ Below wr.heap.size wr X) ⟨setRow_heap _ _ _ _ _ _ Ha0.out, Whole.farRow Ha1.out (by omega) _, hS2⟩ ?_
              rintro v5 ⟨hnew, hold, hS3⟩
              clear hS hS2
              have hS := hS3
              clear hS3
              replace Ha0 := Lib.hid hnew
              replace Ha1 := Lib.hid hold
              clear hnew hold
              try simp only [Act.put]
              refine alone 12 rfl (by kernel_rfl) (by rfl) ?_
              intro K hK
              refine wp_store_row 108 (.tmp 9) (.tmp 33) rfl ga1 (byteCells (byteAt z2) 4).toArray (by rfl) (by rfl) 108 _ Ha1.out (by kernel_rfl) (by rfl) (bytes_one _ _) ?_
              have hS2 := below_setRow hS hge1 (byteCells (byteAt z2) 4).toArray
              refine hK.out _ _ hS2 ?_
              clear hK K
              refine cut_any (fun X => Whole X ga1 108 (byteCells (byteAt z2) 4).toArray ∧ Whole X ga0 108 (byteCells (byteAt z1) 4).toArray ∧ Below wr.heap.size wr X) ⟨setRow_heap _ _ _ _ _ _ Ha1.out, Whole.farRow Ha0.out (by omega) _, hS2⟩ ?_
              rintro v6 ⟨hnew, hold, hS3⟩
              clear hS hS2
              have hS := hS3
              clear hS3
              replace Ha1 := Lib.hid hnew
              replace Ha0 := Lib.hid hold
              clear hnew hold
              try simp only [Act.put]
              refine region_end (by kernel_rfl) ?_
              go_wp2_with fail
              go_meet
              exact ⟨ga0, ga1, rfl, rfl, hne, hge0, hge1, Ha0.out, Ha1.out, hS⟩
            · intro K hK
              go_simp
              refine hK.out _ _ (hS.alloc hS.size _) ?_
              clear hK K
              try simp only [Act.put, List.setIfInBounds_toArray, List.set_cons_zero, List.set_cons_succ]
              refine cut_any (fun X => Whole X v2.heap.size 108 (byteCells (fun _ => 0) 4).toArray ∧ Below wr.heap.size wr X) ⟨Whole.new _ _ _, hS.alloc hS.size _⟩ ?_
              rintro v7 ⟨hnew, hS'⟩
              have hge1 : wr.heap.size ≤ v2.heap.size := hS.size
              clear hS
              have hS := hS'
              clear hS'
              generalize v2.heap.size = ga1 at hnew hge1 ⊢
              have Ha1 := Lib.hid hnew
              clear hnew
              refine alone 9 rfl (by kernel_rfl) (by rfl) ?_
              intro K hK
              go_simp
              refine hK.out _ _ (hS.alloc hS.size _) ?_
              clear hK K
              try simp only [Act.put, List.setIfInBounds_toArray, List.set_cons_zero, List.set_cons_succ]
              refine cut_any (fun X => Whole X v7.heap.size 108 (byteCells (fun _ => 0) 4).toArray ∧ Below wr.heap.size wr X ∧ Whole X ga1 108 (byteCells (fun _ => 0) 4).toArray) ⟨Whole.new _ _ _, hS.alloc hS.size _, Ha1.out.alloc _⟩ ?_
              rintro v8 ⟨hnew, hS', hold1⟩
              have hlt1 : ga1 < v7.heap.size := Ha1.out.lt
              have hge0 : wr.heap.size ≤ v7.heap.size := hS.size
              clear hS
              have hS := hS'
              clear hS'
              generalize v7.heap.size = ga0 at hnew hge0 hlt1 ⊢
              have Ha0 := Lib.hid hnew
              clear hnew
              replace Ha1 := Lib.hid hold1
              clear hold1
              have hne : ga0 ≠ ga1 := by omega
              refine alone 11 rfl (by kernel_rfl) (by rfl) ?_
              intro K hK
              refine wp_store_row 108 (.tmp 8) (.tmp 28) rfl ga0 (byteCells (byteAt z1) 4).toArray (by rfl) (by rfl) 108 _ Ha0.out (by kernel_rfl) (by rfl) (bytes_one _ _) ?_
              have hS2 := below_setRow hS hge0 (byteCells (byteAt z1) 4).toArray
              refine hK.out _ _ hS2 ?_
              clear hK K
              refine cut_any (fun X => Whole X ga0 108 (byteCells (byteAt z1) 4).toArray ∧ Whole X ga1 108 (byteCells (fun _ => 0) 4).toArray ∧ Below wr.heap.size wr X) ⟨setRow_heap _ _ _ _ _ _ Ha0.out, Whole.farRow Ha1.out (by omega) _, hS2⟩ ?_
              rintro v9 ⟨hnew, hold, hS3⟩
              clear hS hS2
              have hS := hS3
              clear hS3
              replace Ha0 := Lib.hid hnew
              replace Ha1 := Lib.hid hold
              clear hnew hold
              try simp only [Act.put]
              refine alone 12 rfl (by kernel_rfl) (by rfl) ?_
              intro K hK
              refine wp_store_row 108 (.tmp 9) (.tmp 33) rfl ga1 (byteCells (byteAt z2) 4).toArray (by rfl) (by rfl) 108 _ Ha1.out (by kernel_rfl) (by rfl) (bytes_one _ _) ?_
              have hS2 := below_setRow hS hge1 (byteCells (byteAt z2) 4).toArray
              refine hK.out _ _ hS2 ?_
              clear hK K
              refine cut_any (fun X => Whole X ga1 108 (byteCells (byteAt z2) 4).toArray ∧ Whole X ga0 108 (byteCells (byteAt z1) 4).toArray ∧ Below wr.heap.size wr X) ⟨setRow_heap _ _ _ _ _ _ Ha1.out, Whole.farRow Ha0.out (by omega) _, hS2⟩ ?_
              rintro v10 ⟨hnew, hold, hS3⟩
              clear hS hS2
              have hS := hS3
              clear hS3
              replace Ha1 := Lib.hid hnew
              replace Ha0 := Lib.hid hold
              clear hnew hold
              try simp only [Act.put]
              refine region_end (by kernel_rfl) ?_
              go_wp2_with fail
              go_meet
              exact ⟨ga0, ga1, rfl, rfl, hne, hge0, hge1, Ha0.out, Ha1.out, hS⟩
          · intro K hK
            go_simp
            refine hK.out _ _ (hS.alloc hS.size _) ?_
            clear hK K
            try simp only [Act.put, List.setIfInBounds_toArray, List.set_cons_zero, List.set_cons_succ]
            refine cut_any (fun X => Whole X v1.heap.size 108 (byteCells (fun _ => 0) 4).toArray ∧ Below wr.heap.size wr X) ⟨Whole.new _ _ _, hS.alloc hS.size _⟩ ?_
            rintro v11 ⟨hnew, hS'⟩
            have hge0 : wr.heap.size ≤ v1.heap.size := hS.size
            clear hS
            have hS := hS'
            clear hS'
            generalize v1.heap.size = ga0 at hnew hge0 ⊢
            have Ha0 := Lib.hid hnew
            clear hnew
            refine ready_two 8 10 rfl rfl (by kernel_rfl) (by rfl) (by rfl) ?_ ?_
            · intro K hK
              go_simp
              refine (put32_any z2 hz2 _).mono ?_
              rintro e v12 ⟨rfl, hb⟩
              go_simp
              replace Ha0 := Lib.hid (Ha0.out.below hb Ha0.out.lt)
              replace hS := below_trans hS hb
              refine hK.out _ _ hS ?_
              clear hK hb K
              try simp only [Act.put, List.setIfInBounds_toArray, List.set_cons_zero, List.set_cons_succ]
              refine alone 10 rfl (by kernel_rfl) (by rfl) ?_
              intro K hK
              go_simp
              refine hK.out _ _ (hS.alloc hS.size _) ?_
              clear hK K
              try simp only [Act.put, List.setIfInBounds_toArray, List.set_cons_zero, List.set_cons_succ]
              refine cut_any (fun X => Whole X v12.heap.size 108 (byteCells (fun _ => 0) 4).toArray ∧ Below wr.heap.size wr X ∧ Whole X ga0 108 (byteCells (fun _ => 0) 4).toArray) ⟨Whole.new _ _ _, hS.alloc hS.size _, Ha0.out.alloc _⟩ ?_
              rintro v13 ⟨hnew, hS', hold0⟩
              have hlt0 : ga0 < v12.heap.size := Ha0.out.lt
              have hge1 : wr.heap.size ≤ v12.heap.size := hS.size
              clear hS
              have hS := hS'
              clear hS'
              generalize v12.heap.size = ga1 at hnew hge1 hlt0 ⊢
              have Ha1 := Lib.hid hnew
              clear hnew
              replace Ha0 := Lib.hid hold0
              clear hold0
              have hne : ga0 ≠ ga1 := by omega
              refine alone 11 rfl (by kernel_rfl) (by rfl) ?_
              intro K hK
              refine wp_store_row 108 (.tmp 8) (.tmp 28) rfl ga0 (byteCells (byteAt z1) 4).toArray (by rfl) (by rfl) 108 _ Ha0.out (by kernel_rfl) (by rfl) (bytes_one _ _) ?_
              have hS2 := below_setRow hS hge0 (byteCells (byteAt z1) 4).toArray
              refine hK.out _ _ hS2 ?_
              clear hK K
              refine cut_any (fun X => Whole X ga0 108 (byteCells (byteAt z1) 4).toArray ∧ Whole X ga1 108 (byteCells (fun _ => 0) 4).toArray ∧ Below wr.heap.size wr X) ⟨setRow_heap _ _ _ _ _ _ Ha0.out, Whole.farRow Ha1.out (by omega) _, hS2⟩ ?_
              rintro v14 ⟨hnew, hold, hS3⟩
              clear hS hS2
              have hS := hS3
              clear hS3
              replace Ha0 := Lib.hid hnew
              replace Ha1 := Lib.hid hold
              clear hnew hold
              try simp only [Act.put]
              refine alone 12 rfl (by kernel_rfl) (by rfl) ?_
              intro K hK
              refine wp_store_row 108 (.tmp 9) (.tmp 33) rfl ga1 (byteCells (byteAt z2) 4).toArray (by rfl) (by rfl) 108 _ Ha1.out (by kernel_rfl) (by rfl) (bytes_one _ _) ?_
              have hS2 := below_setRow hS hge1 (byteCells (byteAt z2) 4).toArray
              refine hK.out _ _ hS2 ?_
              clear hK K
              refine cut_any (fun X => Whole X ga1 108 (byteCells (byteAt z2) 4).toArray ∧ Whole X ga0 108 (byteCells (byteAt z1) 4).toArray ∧ Below wr.heap.size wr X) ⟨setRow_heap _ _ _ _ _ _ Ha1.out, Whole.farRow Ha0.out (by omega) _, hS2⟩ ?_
              rintro v15 ⟨hnew, hold, hS3⟩
              clear hS hS2
              have hS := hS3
              clear hS3
              replace Ha1 := Lib.hid hnew
              replace Ha0 := Lib.hid hold
              clear hnew hold
              try simp only [Act.put]
              refine region_end (by kernel_rfl) ?_
              go_wp2_with fail
              go_meet
              exact ⟨ga0, ga1, rfl, rfl, hne, hge0, hge1, Ha0.out, Ha1.out, hS⟩
            · intro K hK
              go_simp
              refine hK.out _ _ (hS.alloc hS.size _) ?_
              clear hK K
              try simp only [Act.put, List.setIfInBounds_toArray, List.set_cons_zero, List.set_cons_succ]
              refine cut_any (fun X => Whole X v11.heap.size 108 (byteCells (fun _ => 0) 4).toArray ∧ Below wr.heap.size wr X ∧ Whole X ga0 108 (byteCells (fun _ => 0) 4).toArray) ⟨Whole.new _ _ _, hS.alloc hS.size _, Ha0.out.alloc _⟩ ?_
              rintro v16 ⟨hnew, hS', hold0⟩
              have hlt0 : ga0 < v11.heap.size := Ha0.out.lt
              have hge1 : wr.heap.size ≤ v11.heap.size := hS.size
              clear hS
              have hS := hS'
              clear hS'
              generalize v11.heap.size = ga1 at hnew hge1 hlt0 ⊢
              have Ha1 := Lib.hid hnew
              clear hnew
              replace Ha0 := Lib.hid hold0
              clear hold0
              have hne : ga0 ≠ ga1 := by omega
              refine alone 8 rfl (by kernel_rfl) (by rfl) ?_
              intro K hK
              go_simp
              refine (put32_any z2 hz2 _).mono ?_
              rintro e v17 ⟨rfl, hb⟩
              go_simp
              replace Ha0 := Lib.hid (Ha0.out.below hb Ha0.out.lt)
              replace Ha1 := Lib.hid (Ha1.out.below hb Ha1.out.lt)
              replace hS := below_trans hS hb
              refine hK.out _ _ hS ?_
              clear hK hb K
              try simp only [Act.put, List.setIfInBounds_toArray, List.set_cons_zero, List.set_cons_succ]
              refine alone 11 rfl (by kernel_rfl) (by rfl) ?_
              intro K hK
              refine wp_store_row 108 (.tmp 8) (.tmp 28) rfl ga0 (byteCells (byteAt z1) 4).toArray (by rfl) (by rfl) 108 _ Ha0.out (by kernel_rfl) (by rfl) (bytes_one _ _) ?_
              have hS2 := below_setRow hS hge0 (byteCells (byteAt z1) 4).toArray
              refine hK.out _ _ hS2 ?_
              clear hK K
              refine cut_any (fun X => Whole X ga0 108 (byteCells (byteAt z1) 4).toArray ∧ Whole X ga1 108 (byteCells (fun _ => 0) 4).toArray ∧ Below wr.heap.size wr X) ⟨setRow_heap _ _ _ _ _ _ Ha0.out, Whole.farRow Ha1.out (by omega) _, hS2⟩ ?_
              rintro v18 ⟨hnew, hold, hS3⟩
              clear hS hS2
              have hS := hS3
              clear hS3
              replace Ha0 := Lib.hid hnew
              replace Ha1 := Lib.hid hold
              clear hnew hold
              try simp only [Act.put]
              refine alone 12 rfl (by kernel_rfl) (by rfl) ?_
              intro K hK
              refine wp_store_row 108 (.tmp 9) (.tmp 33) rfl ga1 (byteCells (byteAt z2) 4).toArray (by rfl) (by rfl) 108 _ Ha1.out (by kernel_rfl) (by rfl) (bytes_one _ _) ?_
              have hS2 := below_setRow hS hge1 (byteCells (byteAt z2) 4).toArray
              refine hK.out _ _ hS2 ?_
              clear hK K
              refine cut_any (fun X => Whole X ga1 108 (byteCells (byteAt z2) 4).toArray ∧ Whole X ga0 108 (byteCells (byteAt z1) 4).toArray ∧ Below wr.heap.size wr X) ⟨setRow_heap _ _ _ _ _ _ Ha1.out, Whole.farRow Ha0.out (by omega) _, hS2⟩ ?_
              rintro v19 ⟨hnew, hold, hS3⟩
              clear hS hS2
              have hS := hS3
              clear hS3
              replace Ha1 := Lib.hid hnew
              replace Ha0 := Lib.hid hold
              clear hnew hold
              try simp only [Act.put]
              refine region_end (by kernel_rfl) ?_
              go_wp2_with fail
              go_meet
              exact ⟨ga0, ga1, rfl, rfl, hne, hge0, hge1, Ha0.out, Ha1.out, hS⟩
          · intro K hK
            go_simp
            refine hK.out _ _ (hS.alloc hS.size _) ?_
            clear hK K
            try simp only [Act.put, List.setIfInBounds_toArray, List.set_cons_zero, List.set_cons_succ]
            refine cut_any (fun X => Whole X v1.heap.size 108 (byteCells (fun _ => 0) 4).toArray ∧ Below wr.heap.size wr X) ⟨Whole.new _ _ _, hS.alloc hS.size _⟩ ?_
            rintro v20 ⟨hnew, hS'⟩
            have hge1 : wr.heap.size ≤ v1.heap.size := hS.size
            clear hS
            have hS := hS'
            clear hS'
            generalize v1.heap.size = ga1 at hnew hge1 ⊢
            have Ha1 := Lib.hid hnew
            clear hnew
            refine ready_two 8 9 rfl rfl (by kernel_rfl) (by rfl) (by rfl) ?_ ?_
            · intro K hK
              go_simp
              refine (put32_any z2 hz2 _).mono ?_
              rintro e v21 ⟨rfl, hb⟩
              go_simp
              replace Ha1 := Lib.hid (Ha1.out.below hb Ha1.out.lt)
              replace hS := below_trans hS hb
              refine hK.out _ _ hS ?_
              clear hK hb K
              try simp only [Act.put, List.setIfInBounds_toArray, List.set_cons_zero, List.set_cons_succ]
              refine alone 9 rfl (by kernel_rfl) (by rfl) ?_
              intro K hK
              go_simp
              refine hK.out _ _ (hS.alloc hS.size _) ?_
              clear hK K
              try simp only [Act.put, List.setIfInBounds_toArray, List.set_cons_zero, List.set_cons_succ]
              refine cut_any (fun X => Whole X v21.heap.size 108 (byteCells (fun _ => 0) 4).toArray ∧ Below wr.heap.size wr X ∧ Whole X ga1 108 (byteCells (fun _ => 0) 4).toArray) ⟨Whole.new _ _ _, hS.alloc hS.size _, Ha1.out.alloc _⟩ ?_
              rintro v22 ⟨hnew, hS', hold1⟩
              have hlt1 : ga1 < v21.heap.size := Ha1.out.lt
              have hge0 : wr.heap.size ≤ v21.heap.size := hS.size
              clear hS
              have hS := hS'
              clear hS'
              generalize v21.heap.size = ga0 at hnew hge0 hlt1 ⊢
              have Ha0 := Lib.hid hnew
              clear hnew
              replace Ha1 := Lib.hid hold1
              clear hold1
              have hne : ga0 ≠ ga1 := by omega
              refine alone 11 rfl (by kernel_rfl) (by rfl) ?_
              intro K hK
              refine wp_store_row 108 (.tmp 8) (.tmp 28) rfl ga0 (byteCells (byteAt z1) 4).toArray (by rfl) (by rfl) 108 _ Ha0.out (by kernel_rfl) (by rfl) (bytes_one _ _) ?_
              have hS2 := below_setRow hS hge0 (byteCells (byteAt z1) 4).toArray
              refine hK.out _ _ hS2 ?_
              clear hK K
              refine cut_any (fun X => Whole X ga0 108 (byteCells (byteAt z1) 4).toArray ∧ Whole X ga1 108 (byteCells (fun _ => 0) 4).toArray ∧ Below wr.heap.size wr X) ⟨setRow_heap _ _ _ _ _ _ Ha0.out, Whole.farRow Ha1.out (by omega) _, hS2⟩ ?_
              rintro v23 ⟨hnew, hold, hS3⟩
              clear hS hS2
              have hS := hS3
              clear hS3
              replace Ha0 := Lib.hid hnew
              replace Ha1 := Lib.hid hold
              clear hnew hold
              try simp only [Act.put]
              refine alone 12 rfl (by kernel_rfl) (by rfl) ?_
              intro K hK
              refine wp_store_row 108 (.tmp 9) (.tmp 33) rfl ga1 (byteCells (byteAt z2) 4).toArray (by rfl) (by rfl) 108 _ Ha1.out (by kernel_rfl) (by rfl) (bytes_one _ _) ?_
              have hS2 := below_setRow hS hge1 (byteCells (byteAt z2) 4).toArray
              refine hK.out _ _ hS2 ?_
              clear hK K
              refine cut_any (fun X => Whole X ga1 108 (byteCells (byteAt z2) 4).toArray ∧ Whole X ga0 108 (byteCells (byteAt z1) 4).toArray ∧ Below wr.heap.size wr X) ⟨setRow_heap _ _ _ _ _ _ Ha1.out, Whole.farRow Ha0.out (by omega) _, hS2⟩ ?_
              rintro v24 ⟨hnew, hold, hS3⟩
              clear hS hS2
              have hS := hS3
              clear hS3
              replace Ha1 := Lib.hid hnew
              replace Ha0 := Lib.hid hold
              clear hnew hold
              try simp only [Act.put]
              refine region_end (by kernel_rfl) ?_
              go_wp2_with fail
              go_meet
              exact ⟨ga0, ga1, rfl, rfl, hne, hge0, hge1, Ha0.out, Ha1.out, hS⟩
            · intro K hK
              go_simp
              refine hK.out _ _ (hS.alloc hS.size _) ?_
              clear hK K
              try simp only [Act.put, List.setIfInBounds_toArray, List.set_cons_zero, List.set_cons_succ]
              refine cut_any (fun X => Whole X v20.heap.size 108 (byteCells (fun _ => 0) 4).toArray ∧ Below wr.heap.size wr X ∧ Whole X ga1 108 (byteCells (fun _ => 0) 4).toArray) ⟨Whole.new _ _ _, hS.alloc hS.size _, Ha1.out.alloc _⟩ ?_
              rintro v25 ⟨hnew, hS', hold1⟩
              have hlt1 : ga1 < v20.heap.size := Ha1.out.lt
              have hge0 : wr.heap.size ≤ v20.heap.size := hS.size
              clear hS
              have hS := hS'
              clear hS'
              generalize v20.heap.size = ga0 at hnew hge0 hlt1 ⊢
              have Ha0 := Lib.hid hnew
              clear hnew
              replace Ha1 := Lib.hid hold1
              clear hold1
              have hne : ga0 ≠ ga1 := by omega
              refine alone 8 rfl (by kernel_rfl) (by rfl) ?_
              intro K hK
              go_simp
              refine (put32_any z2 hz2 _).mono ?_
              rintro e v26 ⟨rfl, hb⟩
              go_simp
              replace Ha0 := Lib.hid (Ha0.out.below hb Ha0.out.lt)
              replace Ha1 := Lib.hid (Ha1.out.below hb Ha1.out.lt)
              replace hS := below_trans hS hb
              refine hK.out _ _ hS ?_
              clear hK hb K
              try simp only [Act.put, List.setIfInBounds_toArray, List.set_cons_zero, List.set_cons_succ]
              refine alone 11 rfl (by kernel_rfl) (by rfl) ?_
              intro K hK
              refine wp_store_row 108 (.tmp 8) (.tmp 28) rfl ga0 (byteCells (byteAt z1) 4).toArray (by rfl) (by rfl) 108 _ Ha0.out (by kernel_rfl) (by rfl) (bytes_one _ _) ?_
              have hS2 := below_setRow hS hge0 (byteCells (byteAt z1) 4).toArray
              refine hK.out _ _ hS2 ?_
              clear hK K
              refine cut_any (fun X => Whole X ga0 108 (byteCells (byteAt z1) 4).toArray ∧ Whole X ga1 108 (byteCells (fun _ => 0) 4).toArray ∧ Below wr.heap.size wr X) ⟨setRow_heap _ _ _ _ _ _ Ha0.out, Whole.farRow Ha1.out (by omega) _, hS2⟩ ?_
              rintro v27 ⟨hnew, hold, hS3⟩
              clear hS hS2
              have hS := hS3
              clear hS3
              replace Ha0 := Lib.hid hnew
              replace Ha1 := Lib.hid hold
              clear hnew hold
              try simp only [Act.put]
              refine alone 12 rfl (by kernel_rfl) (by rfl) ?_
              intro K hK
              refine wp_store_row 108 (.tmp 9) (.tmp 33) rfl ga1 (byteCells (byteAt z2) 4).toArray (by rfl) (by rfl) 108 _ Ha1.out (by kernel_rfl) (by rfl) (bytes_one _ _) ?_
              have hS2 := below_setRow hS hge1 (byteCells (byteAt z2) 4).toArray
              refine hK.out _ _ hS2 ?_
              clear hK K
              refine cut_any (fun X => Whole X ga1 108 (byteCells (byteAt z2) 4).toArray ∧ Whole X ga0 108 (byteCells (byteAt z1) 4).toArray ∧ Below wr.heap.size wr X) ⟨setRow_heap _ _ _ _ _ _ Ha1.out, Whole.farRow Ha0.out (by omega) _, hS2⟩ ?_
              rintro v28 ⟨hnew, hold, hS3⟩
              clear hS hS2
              have hS := hS3
              clear hS3
              replace Ha1 := Lib.hid hnew
              replace Ha0 := Lib.hid hold
              clear hnew hold
              try simp only [Act.put]
              refine region_end (by kernel_rfl) ?_
              go_wp2_with fail
              go_meet
              exact ⟨ga0, ga1, rfl, rfl, hne, hge0, hge1, Ha0.out, Ha1.out, hS⟩
        · intro K hK
          go_simp
          refine hK.out _ _ (hS.alloc hS.size _) ?_
          clear hK K
          try simp only [Act.put, List.setIfInBounds_toArray, List.set_cons_zero, List.set_cons_succ]
          refine cut_any (fun X => Whole X w3.heap.size 108 (byteCells (fun _ => 0) 4).toArray ∧ Below wr.heap.size wr X) ⟨Whole.new _ _ _, hS.alloc hS.size _⟩ ?_
          rintro v29 ⟨hnew, hS'⟩
          have hge0 : wr.heap.size ≤ w3.heap.size := hS.size
          clear hS
          have hS := hS'
          clear hS'
          generalize w3.heap.size = ga0 at hnew hge0 ⊢
          have Ha0 := Lib.hid hnew
          clear hnew
          refine ready_two 3 10 rfl rfl (by kernel_rfl) (by rfl) (by rfl) ?_ ?_
          · intro K hK
            go_simp
            refine (put32_any z1 hz1 _).mono ?_
            rintro e v30 ⟨rfl, hb⟩
            go_simp
            replace Ha0 := Lib.hid (Ha0.out.below hb Ha0.out.lt)
            replace hS := below_trans hS hb
            refine hK.out _ _ hS ?_
            clear hK hb K
            try simp only [Act.put, List.setIfInBounds_toArray, List.set_cons_zero, List.set_cons_succ]
            refine ready_two 8 10 rfl rfl (by kernel_rfl) (by rfl) (by rfl) ?_ ?_
            · intro K hK
              go_simp
              refine (put32_any z2 hz2 _).mono ?_
              rintro e v31 ⟨rfl, hb⟩
              go_simp
              replace Ha0 := Lib.hid (Ha0.out.below hb Ha0.out.lt)
              replace hS := below_trans hS hb
              refine hK.out _ _ hS ?_
              clear hK hb K
              try simp only [Act.put, List.setIfInBounds_toArray, List.set_cons_zero, List.set_cons_succ]
              refine alone 10 rfl (by kernel_rfl) (by rfl) ?_
              intro K hK
              go_simp
              refine hK.out _ _ (hS.alloc hS.size _) ?_
              clear hK K
              try simp only [Act.put, List.setIfInBounds_toArray, List.set_cons_zero, List.set_cons_succ]
              refine cut_any (fun X => Whole X v31.heap.size 108 (byteCells (fun _ => 0) 4).toArray ∧ Below wr.heap.size wr X ∧ Whole X ga0 108 (byteCells (fun _ => 0) 4).toArray) ⟨Whole.new _ _ _, hS.alloc hS.size _, Ha0.out.alloc _⟩ ?_
              rintro v32 ⟨hnew, hS', hold0⟩
              have hlt0 : ga0 < v31.heap.size := Ha0.out.lt
              have hge1 : wr.heap.size ≤ v31.heap.size := hS.size
              clear hS
              have hS := hS'
              clear hS'
              generalize v31.heap.size = ga1 at hnew hge1 hlt0 ⊢
              have Ha1 := Lib.hid hnew
              clear hnew
              replace Ha0 := Lib.hid hold0
              clear hold0
              have hne : ga0 ≠ ga1 := by omega
              refine alone 11 rfl (by kernel_rfl) (by rfl) ?_
              intro K hK
              refine wp_store_row 108 (.tmp 8) (.tmp 28) rfl ga0 (byteCells (byteAt z1) 4).toArray (by rfl) (by rfl) 108 _ Ha0.out (by kernel_rfl) (by rfl) (bytes_one _ _) ?_
              have hS2 := below_setRow hS hge0 (byteCells (byteAt z1) 4).toArray
              refine hK.out _ _ hS2 ?_
              clear hK K
              refine cut_any (fun X => Whole X ga0 108 (byteCells (byteAt z1) 4).toArray ∧ Whole X ga1 108 (byteCells (fun _ => 0) 4).toArray ∧ Below wr.heap.size wr X) ⟨setRow_heap _ _ _ _ _ _ Ha0.out, Whole.farRow Ha1.out (by omega) _, hS2⟩ ?_
              rintro v33 ⟨hnew, hold, hS3⟩
              clear hS hS2
              have hS := hS3
              clear hS3
              replace Ha0 := Lib.hid hnew
              replace Ha1 := Lib.hid hold
              clear hnew hold
              try simp only [Act.put]
              refine alone 12 rfl (by kernel_rfl) (by rfl) ?_
              intro K hK
              refine wp_store_row 108 (.tmp 9) (.tmp 33) rfl ga1 (byteCells (byteAt z2) 4).toArray (by rfl) (by rfl) 108 _ Ha1.out (by kernel_rfl) (by rfl) (bytes_one _ _) ?_
              have hS2 := below_setRow hS hge1 (byteCells (byteAt z2) 4).toArray
              refine hK.out _ _ hS2 ?_
              clear hK K
              refine cut_any (fun X => Whole X ga1 108 (byteCells (byteAt z2) 4).toArray ∧ Whole X ga0 108 (byteCells (byteAt z1) 4).toArray ∧ Below wr.heap.size wr X) ⟨setRow_heap _ _ _ _ _ _ Ha1.out, Whole.farRow Ha0.out (by omega) _, hS2⟩ ?_
              rintro v34 ⟨hnew, hold, hS3⟩
              clear hS hS2
              have hS := hS3
              clear hS3
              replace Ha1 := Lib.hid hnew
              replace Ha0 := Lib.hid hold
              clear hnew hold
              try simp only [Act.put]
              refine region_end (by kernel_rfl) ?_
              go_wp2_with fail
              go_meet
              exact ⟨ga0, ga1, rfl, rfl, hne, hge0, hge1, Ha0.out, Ha1.out, hS⟩
            · intro K hK
              go_simp
              refine hK.out _ _ (hS.alloc hS.size _) ?_
              clear hK K
              try simp only [Act.put, List.setIfInBounds_toArray, List.set_cons_zero, List.set_cons_succ]
              refine cut_any (fun X => Whole X v30.heap.size 108 (byteCells (fun _ => 0) 4).toArray ∧ Below wr.heap.size wr X ∧ Whole X ga0 108 (byteCells (fun _ => 0) 4).toArray) ⟨Whole.new _ _ _, hS.alloc hS.size _, Ha0.out.alloc _⟩ ?_
              rintro v35 ⟨hnew, hS', hold0⟩
              have hlt0 : ga0 < v30.heap.size := Ha0.out.lt
              have hge1 : wr.heap.size ≤ v30.heap.size := hS.size
              clear hS
              have hS := hS'
              clear hS'
              generalize v30.heap.size = ga1 at hnew hge1 hlt0 ⊢
              have Ha1 := Lib.hid hnew
              clear hnew
              replace Ha0 := Lib.hid hold0
              clear hold0
              have hne : ga0 ≠ ga1 := by omega
              refine alone 8 rfl (by kernel_rfl) (by rfl) ?_
              intro K hK
              go_simp
              refine (put32_any z2 hz2 _).mono ?_
              rintro e v36 ⟨rfl, hb⟩
              go_simp
              replace Ha0 := Lib.hid (Ha0.out.below hb Ha0.out.lt)
              replace Ha1 := Lib.hid (Ha1.out.below hb Ha1.out.lt)
              replace hS := below_trans hS hb
              refine hK.out _ _ hS ?_
              clear hK hb K
              try simp only [Act.put, List.setIfInBounds_toArray, List.set_cons_zero, List.set_cons_succ]
              refine alone 11 rfl (by kernel_rfl) (by rfl) ?_
              intro K hK
              refine wp_store_row 108 (.tmp 8) (.tmp 28) rfl ga0 (byteCells (byteAt z1) 4).toArray (by rfl) (by rfl) 108 _ Ha0.out (by kernel_rfl) (by rfl) (bytes_one _ _) ?_
              have hS2 := below_setRow hS hge0 (byteCells (byteAt z1) 4).toArray
              refine hK.out _ _ hS2 ?_
              clear hK K
              refine cut_any (fun X => Whole X ga0 108 (byteCells (byteAt z1) 4).toArray ∧ Whole X ga1 108 (byteCells (fun _ => 0) 4).toArray ∧ Below wr.heap.size wr X) ⟨setRow_heap _ _ _ _ _ _ Ha0.out, Whole.farRow Ha1.out (by omega) _, hS2⟩ ?_
              rintro v37 ⟨hnew, hold, hS3⟩
              clear hS hS2
              have hS := hS3
              clear hS3
              replace Ha0 := Lib.hid hnew
              replace Ha1 := Lib.hid hold
              clear hnew hold
              try simp only [Act.put]
              refine alone 12 rfl (by kernel_rfl) (by rfl) ?_
              intro K hK
              refine wp_store_row 108 (.tmp 9) (.tmp 33) rfl ga1 (byteCells (byteAt z2) 4).toArray (by rfl) (by rfl) 108 _ Ha1.out (by kernel_rfl) (by rfl) (bytes_one _ _) ?_
              have hS2 := below_setRow hS hge1 (byteCells (byteAt z2) 4).toArray
              refine hK.out _ _ hS2 ?_
              clear hK K
              refine cut_any (fun X => Whole X ga1 108 (byteCells (byteAt z2) 4).toArray ∧ Whole X ga0 108 (byteCells (byteAt z1) 4).toArray ∧ Below wr.heap.size wr X) ⟨setRow_heap _ _ _ _ _ _ Ha1.out, Whole.farRow Ha0.out (by omega) _, hS2⟩ ?_
              rintro v38 ⟨hnew, hold, hS3⟩
              clear hS hS2
              have hS := hS3
              clear hS3
              replace Ha1 := Lib.hid hnew
              replace Ha0 := Lib.hid hold
              clear hnew hold
              try simp only [Act.put]
              refine region_end (by kernel_rfl) ?_
              go_wp2_with fail
              go_meet
              exact ⟨ga0, ga1, rfl, rfl, hne, hge0, hge1, Ha0.out, Ha1.out, hS⟩
          · intro K hK
            go_simp
            refine hK.out _ _ (hS.alloc hS.size _) ?_
            clear hK K
            try simp only [Act.put, List.setIfInBounds_toArray, List.set_cons_zero, List.set_cons_succ]
            refine cut_any (fun X => Whole X v29.heap.size 108 (byteCells (fun _ => 0) 4).toArray ∧ Below wr.heap.size wr X ∧ Whole X ga0 108 (byteCells (fun _ => 0) 4).toArray) ⟨Whole.new _ _ _, hS.alloc hS.size _, Ha0.out.alloc _⟩ ?_
            rintro v39 ⟨hnew, hS', hold0⟩
            have hlt0 : ga0 < v29.heap.size := Ha0.out.lt
            have hge1 : wr.heap.size ≤ v29.heap.size := hS.size
            clear hS
            have hS := hS'
            clear hS'
            generalize v29.heap.size = ga1 at hnew hge1 hlt0 ⊢
            have Ha1 := Lib.hid hnew
            clear hnew
            replace Ha0 := Lib.hid hold0
            clear hold0
            have hne : ga0 ≠ ga1 := by omega
            refine alone 3 rfl (by kernel_rfl) (by rfl) ?_
            intro K hK
            go_simp
            refine (put32_any z1 hz1 _).mono ?_
            rintro e v40 ⟨rfl, hb⟩
            go_simp
            replace Ha0 := Lib.hid (Ha0.out.below hb Ha0.out.lt)
            replace Ha1 := Lib.hid (Ha1.out.below hb Ha1.out.lt)
            replace hS := below_trans hS hb
            refine hK.out _ _ hS ?_
            clear hK hb K
            try simp only [Act.put, List.setIfInBounds_toArray, List.set_cons_zero, List.set_cons_succ]
            refine alone 8 rfl (by kernel_rfl) (by rfl) ?_
            intro K hK
            go_simp
            refine (put32_any z2 hz2 _).mono ?_
            rintro e v41 ⟨rfl, hb⟩
            go_simp
            replace Ha0 := Lib.hid (Ha0.out.below hb Ha0.out.lt)
            replace Ha1 := Lib.hid (Ha1.out.below hb Ha1.out.lt)
            replace hS := below_trans hS hb
            refine hK.out _ _ hS ?_
            clear hK hb K
            try simp only [Act.put, List.setIfInBounds_toArray, List.set_cons_zero, List.set_cons_succ]
            refine alone 11 rfl (by kernel_rfl) (by rfl) ?_
            intro K hK
            refine wp_store_row 108 (.tmp 8) (.tmp 28) rfl ga0 (byteCells (byteAt z1) 4).toArray (by rfl) (by rfl) 108 _ Ha0.out (by kernel_rfl) (by rfl) (bytes_one _ _) ?_
            have hS2 := below_setRow hS hge0 (byteCells (byteAt z1) 4).toArray
            refine hK.out _ _ hS2 ?_
            clear hK K
            refine cut_any (fun X => Whole X ga0 108 (byteCells (byteAt z1) 4).toArray ∧ Whole X ga1 108 (byteCells (fun _ => 0) 4).toArray ∧ Below wr.heap.size wr X) ⟨setRow_heap _ _ _ _ _ _ Ha0.out, Whole.farRow Ha1.out (by omega) _, hS2⟩ ?_
            rintro v42 ⟨hnew, hold, hS3⟩
            clear hS hS2
            have hS := hS3
            clear hS3
            replace Ha0 := Lib.hid hnew
            replace Ha1 := Lib.hid hold
            clear hnew hold
            try simp only [Act.put]
            refine alone 12 rfl (by kernel_rfl) (by rfl) ?_
            intro K hK
            refine wp_store_row 108 (.tmp 9) (.tmp 33) rfl ga1 (byteCells (byteAt z2) 4).toArray (by rfl) (by rfl) 108 _ Ha1.out (by kernel_rfl) (by rfl) (bytes_one _ _) ?_
            have hS2 := below_setRow hS hge1 (byteCells (byteAt z2) 4).toArray
            refine hK.out _ _ hS2 ?_
            clear hK K
            refine cut_any (fun X => Whole X ga1 108 (byteCells (byteAt z2) 4).toArray ∧ Whole X ga0 108 (byteCells (byteAt z1) 4).toArray ∧ Below wr.heap.size wr X) ⟨setRow_heap _ _ _ _ _ _ Ha1.out, Whole.farRow Ha0.out (by omega) _, hS2⟩ ?_
            rintro v43 ⟨hnew, hold, hS3⟩
            clear hS hS2
            have hS := hS3
            clear hS3
            replace Ha1 := Lib.hid hnew
            replace Ha0 := Lib.hid hold
            clear hnew hold
            try simp only [Act.put]
            refine region_end (by kernel_rfl) ?_
            go_wp2_with fail
            go_meet
            exact ⟨ga0, ga1, rfl, rfl, hne, hge0, hge1, Ha0.out, Ha1.out, hS⟩
        · intro K hK
          go_simp
          refine hK.out _ _ (hS.alloc hS.size _) ?_
          clear hK K
          try simp only [Act.put, List.setIfInBounds_toArray, List.set_cons_zero, List.set_cons_succ]
          refine cut_any (fun X => Whole X w3.heap.size 108 (byteCells (fun _ => 0) 4).toArray ∧ Below wr.heap.size wr X) ⟨Whole.new _ _ _, hS.alloc hS.size _⟩ ?_
          rintro v44 ⟨hnew, hS'⟩
          have hge1 : wr.heap.size ≤ w3.heap.size := hS.size
          clear hS
          have hS := hS'
          clear hS'
          generalize w3.heap.size = ga1 at hnew hge1 ⊢
          have Ha1 := Lib.hid hnew
          clear hnew
          refine ready_two 3 9 rfl rfl (by kernel_rfl) (by rfl) (by rfl) ?_ ?_
          · intro K hK
            go_simp
            refine (put32_any z1 hz1 _).mono ?_
            rintro e v45 ⟨rfl, hb⟩
            go_simp
            replace Ha1 := Lib.hid (Ha1.out.below hb Ha1.out.lt)
            replace hS := below_trans hS hb
            refine hK.out _ _ hS ?_
            clear hK hb K
            try simp only [Act.put, List.setIfInBounds_toArray, List.set_cons_zero, List.set_cons_succ]
            refine ready_two 8 9 rfl rfl (by kernel_rfl) (by rfl) (by rfl) ?_ ?_
            · intro K hK
              go_simp
              refine (put32_any z2 hz2 _).mono ?_
              rintro e v46 ⟨rfl, hb⟩
              go_simp
              replace Ha1 := Lib.hid (Ha1.out.below hb Ha1.out.lt)
              replace hS := below_trans hS hb
              refine hK.out _ _ hS ?_
              clear hK hb K
              try simp only [Act.put, List.setIfInBounds_toArray, List.set_cons_zero, List.set_cons_succ]
              refine alone 9 rfl (by kernel_rfl) (by rfl) ?_
              intro K hK
              go_simp
              refine hK.out _ _ (hS.alloc hS.size _) ?_
              clear hK K
              try simp only [Act.put, List.setIfInBounds_toArray, List.set_cons_zero, List.set_cons_succ]
              refine cut_any (fun X => Whole X v46.heap.size 108 (byteCells (fun _ => 0) 4).toArray ∧ Below wr.heap.size wr X ∧ Whole X ga1 108 (byteCells (fun _ => 0) 4).toArray) ⟨Whole.new _ _ _, hS.alloc hS.size _, Ha1.out.alloc _⟩ ?_
              rintro v47 ⟨hnew, hS', hold1⟩
              have hlt1 : ga1 < v46.heap.size := Ha1.out.lt
              have hge0 : wr.heap.size ≤ v46.heap.size := hS.size
              clear hS
              have hS := hS'
              clear hS'
              generalize v46.heap.size = ga0 at hnew hge0 hlt1 ⊢
              have Ha0 := Lib.hid hnew
              clear hnew
              replace Ha1 := Lib.hid hold1
              clear hold1
              have hne : ga0 ≠ ga1 := by omega
              refine alone 11 rfl (by kernel_rfl) (by rfl) ?_
              intro K hK
              refine wp_store_row 108 (.tmp 8) (.tmp 28) rfl ga0 (byteCells (byteAt z1) 4).toArray (by rfl) (by rfl) 108 _ Ha0.out (by kernel_rfl) (by rfl) (bytes_one _ _) ?_
              have hS2 := below_setRow hS hge0 (byteCells (byteAt z1) 4).toArray
              refine hK.out _ _ hS2 ?_
              clear hK K
              refine cut_any (fun X => Whole X ga0 108 (byteCells (byteAt z1) 4).toArray ∧ Whole X ga1 108 (byteCells (fun _ => 0) 4).toArray ∧ Below wr.heap.size wr X) ⟨setRow_heap _ _ _ _ _ _ Ha0.out, Whole.farRow Ha1.out (by omega) _, hS2⟩ ?_
              rintro v48 ⟨hnew, hold, hS3⟩
              clear hS hS2
              have hS := hS3
              clear hS3
              replace Ha0 := Lib.hid hnew
              replace Ha1 := Lib.hid hold
              clear hnew hold
              try simp only [Act.put]
              refine alone 12 rfl (by kernel_rfl) (by rfl) ?_
              intro K hK
              refine wp_store_row 108 (.tmp 9) (.tmp 33) rfl ga1 (byteCells (byteAt z2) 4).toArray (by rfl) (by rfl) 108 _ Ha1.out (by kernel_rfl) (by rfl) (bytes_one _ _) ?_
              have hS2 := below_setRow hS hge1 (byteCells (byteAt z2) 4).toArray
              refine hK.out _ _ hS2 ?_
              clear hK K
              refine cut_any (fun X => Whole X ga1 108 (byteCells (byteAt z2) 4).toArray ∧ Whole X ga0 108 (byteCells (byteAt z1) 4).toArray ∧ Below wr.heap.size wr X) ⟨setRow_heap _ _ _ _ _ _ Ha1.out, Whole.farRow Ha0.out (by omega) _, hS2⟩ ?_
              rintro v49 ⟨hnew, hold, hS3⟩
              clear hS hS2
              have hS := hS3
              clear hS3
              replace Ha1 := Lib.hid hnew
              replace Ha0 := Lib.hid hold
              clear hnew hold
              try simp only [Act.put]
              refine region_end (by kernel_rfl) ?_
              go_wp2_with fail
              go_meet
              exact ⟨ga0, ga1, rfl, rfl, hne, hge0, hge1, Ha0.out, Ha1.out, hS⟩
            · intro K hK
              go_simp
              refine hK.out _ _ (hS.alloc hS.size _) ?_
              clear hK K
              try simp only [Act.put, List.setIfInBounds_toArray, List.set_cons_zero, List.set_cons_succ]
              refine cut_any (fun X => Whole X v45.heap.size 108 (byteCells (fun _ => 0) 4).toArray ∧ Below wr.heap.size wr X ∧ Whole X ga1 108 (byteCells (fun _ => 0) 4).toArray) ⟨Whole.new _ _ _, hS.alloc hS.size _, Ha1.out.alloc _⟩ ?_
              rintro v50 ⟨hnew, hS', hold1⟩
              have hlt1 : ga1 < v45.heap.size := Ha1.out.lt
              have hge0 : wr.heap.size ≤ v45.heap.size := hS.size
              clear hS
              have hS := hS'
              clear hS'
              generalize v45.heap.size = ga0 at hnew hge0 hlt1 ⊢
              have Ha0 := Lib.hid hnew
              clear hnew
              replace Ha1 := Lib.hid hold1
              clear hold1
              have hne : ga0 ≠ ga1 := by omega
              refine alone 8 rfl (by kernel_rfl) (by rfl) ?_
              intro K hK
              go_simp
              refine (put32_any z2 hz2 _).mono ?_
              rintro e v51 ⟨rfl, hb⟩
              go_simp
              replace Ha0 := Lib.hid (Ha0.out.below hb Ha0.out.lt)
              replace Ha1 := Lib.hid (Ha1.out.below hb Ha1.out.lt)
              replace hS := below_trans hS hb
              refine hK.out _ _ hS ?_
              clear hK hb K
              try simp only [Act.put, List.setIfInBounds_toArray, List.set_cons_zero, List.set_cons_succ]
              refine alone 11 rfl (by kernel_rfl) (by rfl) ?_
              intro K hK
              refine wp_store_row 108 (.tmp 8) (.tmp 28) rfl ga0 (byteCells (byteAt z1) 4).toArray (by rfl) (by rfl) 108 _ Ha0.out (by kernel_rfl) (by rfl) (bytes_one _ _) ?_
              have hS2 := below_setRow hS hge0 (byteCells (byteAt z1) 4).toArray
              refine hK.out _ _ hS2 ?_
              clear hK K
              refine cut_any (fun X => Whole X ga0 108 (byteCells (byteAt z1) 4).toArray ∧ Whole X ga1 108 (byteCells (fun _ => 0) 4).toArray ∧ Below wr.heap.size wr X) ⟨setRow_heap _ _ _ _ _ _ Ha0.out, Whole.farRow Ha1.out (by omega) _, hS2⟩ ?_
              rintro v52 ⟨hnew, hold, hS3⟩
              clear hS hS2
              have hS := hS3
              clear hS3
              replace Ha0 := Lib.hid hnew
              replace Ha1 := Lib.hid hold
              clear hnew hold
              try simp only [Act.put]
              refine alone 12 rfl (by kernel_rfl) (by rfl) ?_
              intro K hK
              refine wp_store_row 108 (.tmp 9) (.tmp 33) rfl ga1 (byteCells (byteAt z2) 4).toArray (by rfl) (by rfl) 108 _ Ha1.out (by kernel_rfl) (by rfl) (bytes_one _ _) ?_
              have hS2 := below_setRow hS hge1 (byteCells (byteAt z2) 4).toArray
              refine hK.out _ _ hS2 ?_
              clear hK K
              refine cut_any (fun X => Whole X ga1 108 (byteCells (byteAt z2) 4).toArray ∧ Whole X ga0 108 (byteCells (byteAt z1) 4).toArray ∧ Below wr.heap.size wr X) ⟨setRow_heap _ _ _ _ _ _ Ha1.out, Whole.farRow Ha0.out (by omega) _, hS2⟩ ?_
              rintro v53 ⟨hnew, hold, hS3⟩
              clear hS hS2
              have hS := hS3
              clear hS3
              replace Ha1 := Lib.hid hnew
              replace Ha0 := Lib.hid hold
              clear hnew hold
              try simp only [Act.put]
              refine region_end (by kernel_rfl) ?_
              go_wp2_with fail
              go_meet
              exact ⟨ga0, ga1, rfl, rfl, hne, hge0, hge1, Ha0.out, Ha1.out, hS⟩
          · intro K hK
            go_simp
            refine hK.out _ _ (hS.alloc hS.size _) ?_
            clear hK K
            try simp only [Act.put, List.setIfInBounds_toArray, List.set_cons_zero, List.set_cons_succ]
            refine cut_any (fun X => Whole X v44.heap.size 108 (byteCells (fun _ => 0) 4).toArray ∧ Below wr.heap.size wr X ∧ Whole X ga1 108 (byteCells (fun _ => 0) 4).toArray) ⟨Whole.new _ _ _, hS.alloc hS.size _, Ha1.out.alloc _⟩ ?_
            rintro v54 ⟨hnew, hS', hold1⟩
            have hlt1 : ga1 < v44.heap.size := Ha1.out.lt
            have hge0 : wr.heap.size ≤ v44.heap.size := hS.size
            clear hS
            have hS := hS'
            clear hS'
            generalize v44.heap.size = ga0 at hnew hge0 hlt1 ⊢
            have Ha0 := Lib.hid hnew
            clear hnew
            replace Ha1 := Lib.hid hold1
            clear hold1
            have hne : ga0 ≠ ga1 := by omega
            refine alone 3 rfl (by kernel_rfl) (by rfl) ?_
            intro K hK
            go_simp
            refine (put32_any z1 hz1 _).mono ?_
            rintro e v55 ⟨rfl, hb⟩
            go_simp
            replace Ha0 := Lib.hid (Ha0.out.below hb Ha0.out.lt)
            replace Ha1 := Lib.hid (Ha1.out.below hb Ha1.out.lt)
            replace hS := below_trans hS hb
            refine hK.out _ _ hS ?_
            clear hK hb K
            try simp only [Act.put, List.setIfInBounds_toArray, List.set_cons_zero, List.set_cons_succ]
            refine alone 8 rfl (by kernel_rfl) (by rfl) ?_
            intro K hK
            go_simp
            refine (put32_any z2 hz2 _).mono ?_
            rintro e v56 ⟨rfl, hb⟩
            go_simp
            replace Ha0 := Lib.hid (Ha0.out.below hb Ha0.out.lt)
            replace Ha1 := Lib.hid (Ha1.out.below hb Ha1.out.lt)
            replace hS := below_trans hS hb
            refine hK.out _ _ hS ?_
            clear hK hb K
            try simp only [Act.put, List.setIfInBounds_toArray, List.set_cons_zero, List.set_cons_succ]
            refine alone 11 rfl (by kernel_rfl) (by rfl) ?_
            intro K hK
            refine wp_store_row 108 (.tmp 8) (.tmp 28) rfl ga0 (byteCells (byteAt z1) 4).toArray (by rfl) (by rfl) 108 _ Ha0.out (by kernel_rfl) (by rfl) (bytes_one _ _) ?_
            have hS2 := below_setRow hS hge0 (byteCells (byteAt z1) 4).toArray
            refine hK.out _ _ hS2 ?_
            clear hK K
            refine cut_any (fun X => Whole X ga0 108 (byteCells (byteAt z1) 4).toArray ∧ Whole X ga1 108 (byteCells (fun _ => 0) 4).toArray ∧ Below wr.heap.size wr X) ⟨setRow_heap _ _ _ _ _ _ Ha0.out, Whole.farRow Ha1.out (by omega) _, hS2⟩ ?_
            rintro v57 ⟨hnew, hold, hS3⟩
            clear hS hS2
            have hS := hS3
            clear hS3
            replace Ha0 := Lib.hid hnew
            replace Ha1 := Lib.hid hold
            clear hnew hold
            try simp only [Act.put]
            refine alone 12 rfl (by kernel_rfl) (by rfl) ?_
            intro K hK
            refine wp_store_row 108 (.tmp 9) (.tmp 33) rfl ga1 (byteCells (byteAt z2) 4).toArray (by rfl) (by rfl) 108 _ Ha1.out (by kernel_rfl) (by rfl) (bytes_one _ _) ?_
            have hS2 := below_setRow hS hge1 (byteCells (byteAt z2) 4).toArray
            refine hK.out _ _ hS2 ?_
            clear hK K
            refine cut_any (fun X => Whole X ga1 108 (byteCells (byteAt z2) 4).toArray ∧ Whole X ga0 108 (byteCells (byteAt z1) 4).toArray ∧ Below wr.heap.size wr X) ⟨setRow_heap _ _ _ _ _ _ Ha1.out, Whole.farRow Ha0.out (by omega) _, hS2⟩ ?_
            rintro v58 ⟨hnew, hold, hS3⟩
            clear hS hS2
            have hS := hS3
            clear hS3
            replace Ha1 := Lib.hid hnew
            replace Ha0 := Lib.hid hold
            clear hnew hold
            try simp only [Act.put]
            refine region_end (by kernel_rfl) ?_
            go_wp2_with fail
            go_meet
            exact ⟨ga0, ga1, rfl, rfl, hne, hge0, hge1, Ha0.out, Ha1.out, hS⟩

      case rest =>
        obtain ⟨ga0, ga1, rfl, rfl, hne, hge0, hge1, h8, h9, hS⟩ := hcut
        have lwr : g6 < wr.heap.size := Q6.out.lt
        have Q5' := Lib.hid (Q5.out.below hS Q5.out.lt)
        have Q4' := Lib.hid (Q4.out.below hS Q4.out.lt)
        have Q6' := Lib.hid (Q6.out.below hS Q6.out.lt)
        have hs4 : B ≤ wr.heap.size := by omega
        have QB' := Lib.hid (QB.out.trans (hS.mono hs4))
        have S8 := Lib.hid (row_reads h8)
        have H9 := Lib.hid h9
        have m1 := (wraps k (Nat.le_of_lt hlt)).1
        have m2 : (4 * (k : Int)).toNat = 4 * k := by omega
        have m3 : 4 * (k : Int) ≤ 32 := by omega
        have m4 : 0 ≤ 4 * (k : Int) := by omega
        have m5 : ¬ 32 = 4 * k := by omega
        clear h8 h9 hS Q5 Q4 Q6 QB C1 C2
        go_wp2_with fail
        go_region_law (refine step_copy_grown rfl (.tmp 36) (.tmp 37) 23 23 rfl 5 rfl (by kernel_rfl) g6 (4 * k) (32 - 4 * k) (32 - 4 * k) ⟨ga0, 0, none⟩ 4 4 rfl rfl (byteCells (hpart (der key nonce) (4 * k) (4 * k)) 32) 40 Q6'.out (byteCells (byteAt z1) 4) (by rw [byteCells_length]; exact (Nat.min_eq_left (by omega)).symm) S8.out (by rw [byteCells_length, byteCells_length]; omega) (bytes_each _ _) ?_; intro w5 hg5 hb5)
        have hg5' : Whole w5 g6 40 (byteCells (hpart (der key nonce) (4 * (k + 1)) (4 * k)) 32).toArray := by
          have h := hg5.out
          rw [byteCells_splice (hpart (der key nonce) (4 * k) (4 * k)) (byteAt z1) (hpart (der key nonce) (4 * (k + 1)) (4 * k)) 32 (4 * k) 4 (by omega) (fun i hi => by
            unfold hpart
            by_cases c1 : 4 * k ≤ i ∧ i < 4 * k + 4
            · rw [if_pos c1, if_pos (by omega), ← HD1.out (i - 4 * k) (by omega), show 4 * k + (i - 4 * k) = i by omega]
            · rw [if_neg c1]
              by_cases c2 : i < 4 * k ∨ (16 ≤ i ∧ i < 16 + 4 * k)
              · rw [if_pos c2, if_pos (by omega)]
              · rw [if_neg c2, if_neg (by omega)])] at h
          exact h
        have hb5' := grown_trans (grown_drewN wc g6 1) hb5
        have R5 := Lib.hid (whole_grown Q5'.out hb5' (by omega))
        have R4 := Lib.hid (whole_grown Q4'.out hb5' (by omega))
        have S9 := Lib.hid (row_reads (whole_grown H9.out hb5' (by omega)))
        have R6 := Lib.hid hg5'
        have RB := Lib.hid (below_grown QB'.out hb5' (by omega) (by have := QB'.out.size; omega))
        have n1 := (wraps k (Nat.le_of_lt hlt)).2
        have n2 : (16 + 4 * (k : Int)).toNat = 16 + 4 * k := by omega
        have n3 : 16 + 4 * (k : Int) ≤ 32 := by omega
        have n4 : 0 ≤ 16 + 4 * (k : Int) := by omega
        have n5 : ¬ 32 = 16 + 4 * k := by omega
        clear hg5 hg5' hb5 hb5' Q5' Q4' Q6' QB' H9 S8
        go_wp2_with fail
        go_region_law (refine step_copy_grown rfl (.tmp 42) (.tmp 43) 23 23 rfl 5 rfl (by kernel_rfl) g6 (16 + 4 * k) (32 - (16 + 4 * k)) (32 - (16 + 4 * k)) ⟨ga1, 0, none⟩ 4 4 rfl rfl (byteCells (hpart (der key nonce) (4 * (k + 1)) (4 * k)) 32) 40 R6.out (byteCells (byteAt z2) 4) (by rw [byteCells_length]; exact (Nat.min_eq_left (by omega)).symm) S9.out (by rw [byteCells_length, byteCells_length]; omega) (bytes_each _ _) ?_; intro w6 hg6 hb6)
        have hg6' : Whole w6 g6 40 (byteCells (hpart (der key nonce) (4 * (k + 1)) (4 * (k + 1))) 32).toArray := by
          have h := hg6.out
          rw [byteCells_splice (hpart (der key nonce) (4 * (k + 1)) (4 * k)) (byteAt z2) (hpart (der key nonce) (4 * (k + 1)) (4 * (k + 1))) 32 (16 + 4 * k) 4 (by omega) (fun i hi => by
            unfold hpart
            by_cases c1 : 16 + 4 * k ≤ i ∧ i < 16 + 4 * k + 4
            · rw [if_pos c1, if_pos (by omega), ← HD2.out (i - (16 + 4 * k)) (by omega), show 16 + 4 * k + (i - (16 + 4 * k)) = i by omega]
            · rw [if_neg c1]
              by_cases c2 : i < 4 * (k + 1) ∨ (16 ≤ i ∧ i < 16 + 4 * k)
              · rw [if_pos c2, if_pos (by omega)]
              · rw [if_neg c2, if_neg (by omega)])] at h
          exact h
        have hb6' := grown_trans (grown_drewN w5 g6 1) hb6
        have T5 := Lib.hid (whole_grown R5.out hb6' (by omega))
        have T4 := Lib.hid (whole_grown R4.out hb6' (by omega))
        have T6 := Lib.hid hg6'
        have TB := Lib.hid (below_grown RB.out hb6' (by omega) (by have := RB.out.size; omega))
        clear hg6 hg6' hb6 hb6' R5 R4 R6 RB S9
        go_wp2_with fail
        go_roundw
        case rel => exact ⟨k + 1, by omega, by go_num, T5.out, T4.out, T6.out, TB.out⟩
        case measure => simp [intOf]; omega
    · obtain rfl : k = 4 := by omega
      have hG : byteCells (hpart (der key nonce) (4 * 4) (4 * 4)) 32 = byteCells (der key nonce) 32 := byteCells_congr fun i hi => by
        unfold hpart
        rw [if_pos (by omega)]
      rw [hG] at q6
      have hz32 : (byteCells (der key nonce) 32).toArray.size = 32 := by rw [List.size_toArray, byteCells_length]
      have Q4 := Lib.hid q4
      have Q6 := Lib.hid q6
      have QB := Lib.hid (below_setRow qb (show B ≤ B + 1 + 1 by omega) (byteCells (der key nonce) 32).toArray)
      have HZ := Lib.hid hz32
      clear q5 q4 q6 qb hG hz32
      go_wp2_with (first | (refine wpList_load_row rfl 40 (.tmp 6) rfl g6 rfl 40 (byteCells (der key nonce) 32).toArray (0, 0) _ Q6.out rfl rfl (by rw [HZ.out]; kernel_rfl) ?_) | (refine wpList_store_row rfl 40 (.tmp 4) (.tmp 46) rfl (B + 1 + 1) (byteCells (der key nonce) 32).toArray rfl rfl 40 _ Q4.out (by rw [HZ.out]; kernel_rfl) (by rw [HZ.out]; rfl) (bytes_one _ _) ?_))
      have hret : Whole (wr.setRow (B + 1 + 1) (byteCells (der key nonce) 32).toArray) (B + 1 + 1) 40 (byteCells (der key nonce) 32).toArray := setRow_heap wr _ _ _ _ _ Q4.out
      refine bodyPost_ret (results_cell_row rfl _ _ (B + 1 + 1) 40 _ (0, 0) _ rfl hret rfl rfl (by rw [HZ.out]; kernel_rfl)) rfl ?_
      exact ⟨rfl, by rw [hB]; exact QB.out⟩

end Chacha
end Go.Proofs.Ytdffbjlbhjppeaa
