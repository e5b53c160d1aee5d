/- The calls split, Clamp and begin of package poly. -/
import Derived.Test.YtdffbjlbhjppeaaLowest
import Derived.Test.YtdffbjlbhjppeaaCopy
import Derived.Test.YtdffbjlbhjppeaaXor
namespace Go.Proofs.Ytdffbjlbhjppeaa
namespace Poly
open Go.ChangeShapes Go.WideShapes Go.ChangeAt Go.RowKit
open Num Mem Words PolyN Chacha

theorem byteCells_lit17 (f : Nat → Nat) : (byteCells f 17).toArray = #[.int .u8 (f 0 : Nat), .int .u8 (f 1 : Nat), .int .u8 (f 2 : Nat), .int .u8 (f 3 : Nat), .int .u8 (f 4 : Nat), .int .u8 (f 5 : Nat), .int .u8 (f 6 : Nat), .int .u8 (f 7 : Nat), .int .u8 (f 8 : Nat), .int .u8 (f 9 : Nat), .int .u8 (f 10 : Nat), .int .u8 (f 11 : Nat), .int .u8 (f 12 : Nat), .int .u8 (f 13 : Nat), .int .u8 (f 14 : Nat), .int .u8 (f 15 : Nat), .int .u8 (f 16 : Nat)] := rfl

/-- where limb i begins: the byte, and how many digits are left out of it -/
theorem limb_place (i : Nat) (hi : i < 5) : ∃ p s, 26 * i / 8 = p ∧ 26 * i % 8 = s ∧ p + 4 ≤ 17 ∧ s ≤ 6 ∧ 8 * p + s = 26 * i :=
  ⟨26 * i / 8, 26 * i % 8, rfl, rfl, by omega, by omega, by omega⟩

set_option maxRecDepth 100000 in
theorem split_any (f : Nat → Nat) (hf : ∀ i, f i < 256) (w : World) :
    Calls Try.prog 52 #[.agg (byteCells f 17).toArray] w fun e w' => e = .returned (.agg (qcells (sp f) 5).toArray) ∧ Below w.heap.size w w' := by
  have HF := Lib.hid hf
  clear hf
  rw [byteCells_lit17]
  go_enter Try.func52, Try.ntmps52
  go_upto_region 2 with fail
  refine cut_world (fun W => Whole W w.heap.size 79 (byteCells f 17).toArray ∧ Whole W (w.heap.size + 1) 61 (qcells (fun _ => 0) 5).toArray ∧ Whole W (w.heap.size + 1 + 1) 61 (qcells (fun _ => 0) 5).toArray ∧ Below w.heap.size w W) ⟨?_, ?_, ?_, ?_⟩ ?_
  · rw [byteCells_lit17]
    exact ((whole_new _ _ rfl).alloc _).alloc _
  · exact (whole_new _ _ (by simp)).alloc _
  · exact whole_new _ _ (by simp)
  · exact below_alloc (below_alloc (below_alloc (Below.refl _ _) _) _) _
  rintro W ⟨k1, k2, k3, kb⟩
  have K1 := Lib.hid k1
  have K2 := Lib.hid k2
  have K3 := Lib.hid k3
  have KB := Lib.hid kb
  clear k1 k2 k3 kb
  generalize hB : w.heap.size = B at K1 K2 K3 KB ⊢
  go_wp2_with fail
  go_loopw [7] (fun i wr => ∃ k : Nat, k ≤ 5 ∧ i = .int .i64 k ∧ Whole wr B 79 (byteCells f 17).toArray ∧ Whole wr (B + 1) 61 (qcells (fun _ => 0) 5).toArray ∧ Whole wr (B + 1 + 1) 61 (qcells (fun i => if i < k then sp f i else 0) 5).toArray ∧ Below B w wr) (fun i _ => 5 - (intOf i).toNat)
  case atStart => exact ⟨0, by omega, rfl, K1.out, K2.out, K3.out, KB.out⟩
  case round =>
    obtain ⟨k, hk, rfl, q1, q2, q3, qb⟩ := hrel
    by_cases hlt : k < 5
    · have f1 := q3.free k
      have c1 := q3.num k hlt
      have Q1 := Lib.hid q1
      have Q2 := Lib.hid q2
      have Q3 := Lib.hid q3
      have QB := Lib.hid qb
      obtain ⟨p, s, hp, hs, h17, hs6, hps⟩ := limb_place k hlt
      have HL := Lib.hid (sp_load f HF.out k p s h17 hs6 hps)
      have hpI : (26 * (k : Int)) / 8 = (p : Int) := by omega
      have hsI : (26 * (k : Int)) % 8 = (s : Int) := by omega
      have hv : le f p 4 < 4294967296 := le_lt HF.out p 4
      have HV := Lib.hid hv
      have HSK := Lib.hid (show bits .and .u64 (IntKind.u64.wrap ((le f p 4 : Int) / 2 ^ (26 * k % 8))) 67108863 = ((sp f k : Nat) : Int) by rw [← HL.out, hs, show ((le f p 4 : Nat) : Int) / 2 ^ s = ((le f p 4 / 2 ^ s : Nat) : Int) by rw [Int.natCast_ediv, Int.natCast_pow]; rfl, wrap64_nat, Nat.mod_eq_of_lt (Nat.lt_of_le_of_lt (Nat.div_le_self _ _) (by omega)), and26 _ (Nat.lt_of_le_of_lt (Nat.div_le_self _ _) (by omega))])
      have HPI := Lib.hid hpI
      have HSI := Lib.hid hsI
      clear q1 q2 q3 qb hp hs hps hpI hsI hv
      go_wp2_with fail
      rw [HPI.out]
      refine (load32_ok B 0 17 17 f HF.out p h17 (by omega) _ (fun i hi => Q1.out.bytes i hi)).mono ?_
      rintro e w1 ⟨rfl, rfl⟩
      go_wp2_with fail
      rw [HSK.out]
      go_roundw
      case rel =>
        refine ⟨k + 1, by omega, by go_num, Q1.out.far (by simp; omega) _, Q2.out.far (by simp) _, ?_, QB.out.setCell (by simp; omega) _⟩
        have h := Q3.out.put k (.int .u64 (sp f k : Nat))
        rw [qcells_set, qcells_congr (g := fun i => if i < k + 1 then sp f i else 0) (fun i hi => ?_)] at h
        · exact h
        · by_cases e : i = k
          · subst e
            rw [if_pos rfl, if_pos (by omega)]
          · rw [if_neg e]
            by_cases l : i < k
            · rw [if_pos l, if_pos (by omega)]
            · rw [if_neg l, if_neg (by omega)]
      case measure => simp [intOf]; omega
    · obtain rfl : k = 5 := by omega
      rw [qcells_congr (g := sp f) (fun i hi => if_pos hi)] at q3
      have Q2 := Lib.hid q2
      have Q3 := Lib.hid q3
      have QB := Lib.hid qb
      clear q1 q2 q3 qb
      go_wp2_with (first | (refine wpList_load_row rfl 61 (.tmp 3) rfl (B + 1 + 1) rfl 61 (qcells (sp f) 5).toArray (0, 0) _ Q3.out rfl rfl (by rw [qcells_size]; kernel_rfl) ?_) | (refine wpList_store_row rfl 61 (.tmp 2) (.tmp 28) rfl (B + 1) (qcells (sp f) 5).toArray rfl rfl 61 _ Q2.out (by rw [qcells_size]; kernel_rfl) (by rw [qcells_size, qcells_size]) (qcells_one _ _) ?_))
      have hret : Whole (wr.setRow (B + 1) (qcells (sp f) 5).toArray) (B + 1) 61 (qcells (sp f) 5).toArray := setRow_heap wr _ _ _ _ _ Q2.out
      refine bodyPost_ret (results_cell_row rfl _ _ (B + 1) 61 _ (0, 0) _ rfl hret rfl rfl (by rw [qcells_size]; kernel_rfl)) rfl ?_
      exact ⟨rfl, by rw [hB]; exact below_setRow QB.out (by omega) _⟩

/-! ### Clamp -/
def cl (key : Nat → Nat) (i : Nat) : Nat := if i % 4 = 3 then key i % 16 else if i % 4 = 0 ∧ 0 < i then key i - key i % 4 else key i
theorem cl_lt {key : Nat → Nat} (h : ∀ i, key i < 256) (i : Nat) : cl key i < 256 := by
  have := h i
  unfold cl
  split
  · omega
  · split <;> omega

theorem and15 (x : Nat) (h : x < 256) : bits .and .u8 (x : Int) 15 = ((x % 16 : Nat) : Int) := by
  have := u8_and_nat x 15 h (by omega)
  rw [nat_mask4] at this
  exact this
theorem and252 (x : Nat) (h : x < 256) : bits .and .u8 (x : Int) 252 = ((x - x % 4 : Nat) : Int) := by
  have h1 := u8_and_nat x 252 h (by omega)
  have h2 : ∀ y : Fin 256, y.val &&& 252 = y.val - y.val % 4 := by decide +kernel
  rw [h2 ⟨x, h⟩] at h1
  exact h1

def cl1 (key : Nat → Nat) (k i : Nat) : Nat := if i % 4 = 3 ∧ i < 4 * k then key i % 16 else key i
def cl2 (key : Nat → Nat) (k i : Nat) : Nat := if i % 4 = 3 then key i % 16 else if i % 4 = 0 ∧ 0 < i ∧ i ≤ 4 * k then key i - key i % 4 else key i
theorem cl1_set (key : Nat → Nat) (k i : Nat) : (if i = 3 + 4 * k then key (3 + 4 * k) % 16 else cl1 key k i) = cl1 key (k + 1) i := by
  unfold cl1
  by_cases e : i = 3 + 4 * k
  · subst e
    rw [if_pos rfl, if_pos ⟨by omega, by omega⟩]
  · rw [if_neg e]
    by_cases h : i % 4 = 3 ∧ i < 4 * k
    · rw [if_pos h, if_pos ⟨h.1, by omega⟩]
    · rw [if_neg h, if_neg (by omega)]
theorem cl2_set (key : Nat → Nat) (k i : Nat) : (if i = 4 + 4 * k then key (4 + 4 * k) - key (4 + 4 * k) % 4 else cl2 key k i) = cl2 key (k + 1) i := by
  unfold cl2
  by_cases e : i = 4 + 4 * k
  · subst e
    rw [if_pos rfl, if_neg (by omega), if_pos ⟨by omega, by omega, by omega⟩]
  · rw [if_neg e]
    by_cases h3 : i % 4 = 3
    · rw [if_pos h3, if_pos h3]
    · rw [if_neg h3, if_neg h3]
      by_cases h : i % 4 = 0 ∧ 0 < i ∧ i ≤ 4 * k
      · rw [if_pos h, if_pos ⟨h.1, h.2.1, by omega⟩]
      · rw [if_neg h, if_neg (by omega)]
theorem cl1_at (key : Nat → Nat) (k : Nat) : cl1 key k (3 + 4 * k) = key (3 + 4 * k) := by unfold cl1; rw [if_neg (by omega)]
theorem cl2_at (key : Nat → Nat) (k : Nat) : cl2 key k (4 + 4 * k) = key (4 + 4 * k) := by unfold cl2; rw [if_neg (by omega), if_neg (by omega)]
theorem cl12 (key : Nat → Nat) (i : Nat) (h : i < 16) : cl1 key 4 i = cl2 key 0 i := by
  unfold cl1 cl2
  by_cases h3 : i % 4 = 3
  · rw [if_pos ⟨h3, by omega⟩, if_pos h3]
  · rw [if_neg (by omega), if_neg h3, if_neg (by omega)]
theorem cl2_end (key : Nat → Nat) (i : Nat) (h : i < 16) : cl2 key 3 i = cl key i := by
  unfold cl2 cl
  by_cases h3 : i % 4 = 3
  · rw [if_pos h3, if_pos h3]
  · rw [if_neg h3, if_neg h3]
    by_cases h4 : i % 4 = 0 ∧ 0 < i
    · rw [if_pos h4, if_pos ⟨h4.1, h4.2, by omega⟩]
    · rw [if_neg h4, if_neg (by omega)]

set_option maxRecDepth 100000 in
theorem clamp_any (key : Nat → Nat) (hk : ∀ i, key i < 256) (w : World) :
    Calls Try.prog 15 #[.agg (byteCells key 32).toArray] w fun e w' => e = .returned (.agg (byteCells (cl key) 16).toArray) ∧ Below w.heap.size w w' := by
  have HK := Lib.hid hk
  clear hk
  rw [byteCells_lit32]
  go_enter Try.func15, Try.ntmps15
  go_upto_region 2 with fail
  refine cut_world (fun W => Whole W w.heap.size 22 (byteCells key 32).toArray ∧ Whole W (w.heap.size + 1) 25 (byteCells (fun _ => 0) 16).toArray ∧ Whole W (w.heap.size + 1 + 1) 25 (byteCells (fun _ => 0) 16).toArray ∧ Below w.heap.size w W) ⟨?_, ?_, ?_, ?_⟩ ?_
  · rw [byteCells_lit32]
    exact ((whole_new _ _ rfl).alloc _).alloc _
  · exact (whole_new _ _ (by simp)).alloc _
  · exact whole_new _ _ (by simp)
  · exact below_alloc (below_alloc (below_alloc (Below.refl _ _) _) _) _
  rintro W ⟨k1, k2, k3, kb⟩
  have K1 := Lib.hid k1
  have K2 := Lib.hid k2
  have K3 := Lib.hid k3
  have KB := Lib.hid kb
  have HS := Lib.hid (rd_src (w := W.drew) (b := w.heap.size) (off := 0) (n := 16) (f := key) (fun i hi => k1.drew.bytes i (by omega)))
  clear k1 k2 k3 kb
  generalize hB : w.heap.size = B at K1 K2 K3 KB HS ⊢
  have hb0 := below_drewN (B := B + 1 + 1) (Below.refl (B + 1 + 1) W) 1
  go_region_law (refine step_copy_splice rfl (.tmp 6) (.tmp 7) 23 23 rfl 5 rfl (by kernel_rfl) (some ⟨B + 1 + 1, 0, none⟩) (some ⟨B, 0, none⟩) 16 16 32 32 rfl rfl (B + 1 + 1) 0 (byteCells (fun _ => 0) 16) 25 K3.out (byteCells key 16) (by rw [byteCells_length]; rfl) (fun _ => ⟨rfl, _, rfl, HS.out⟩) (by rw [byteCells_length, byteCells_length]; omega) (bytes_each _ _) (B + 1 + 1) W hb0 (Nat.le_refl _) ?_; intro w4 hg4 hb4)
  have K2' := Lib.hid (K2.out.below hb4 (by omega))
  have K3' := Lib.hid (show Whole w4 (B + 1 + 1) 25 (byteCells (cl1 key 0) 16).toArray from by
    have h := hg4.out
    rw [byteCells_splice (fun _ => 0) key (cl1 key 0) 16 0 16 (by omega) (fun i hi => by unfold cl1; rw [if_neg (by omega), if_pos ⟨by omega, by omega⟩, Nat.sub_zero])] at h
    exact h)
  have KB' := Lib.hid (KB.out.trans (hb4.mono (by omega)))
  clear hb0 hg4 hb4 K1 K2 K3 KB HS
  have K2 := K2'
  have K3 := K3'
  have KB := KB'
  clear K2' K3' KB'
  go_wp2_with fail
  go_loopw [9] (fun i wr => ∃ k : Nat, k ≤ 4 ∧ i = .int .i64 k ∧ Whole wr (B + 1) 25 (byteCells (fun _ => 0) 16).toArray ∧ Whole wr (B + 1 + 1) 25 (byteCells (cl1 key k) 16).toArray ∧ Below B w wr) (fun i _ => 4 - (intOf i).toNat)
  case atStart => exact ⟨0, by omega, rfl, K2.out, K3.out, KB.out⟩
  case round =>
    obtain ⟨k, hk, rfl, q2, q3, qb⟩ := hrel
    by_cases hlt : k < 4
    · have f1 := q3.free (3 + 4 * k)
      have c1 := q3.cell (3 + 4 * k)
      rw [List.getElem?_toArray, byteCells_get _ _ _ (by omega), cl1_at] at c1
      have HV := Lib.hid (and15 (key (3 + 4 * k)) (HK.out _))
      have Q2 := Lib.hid q2
      have Q3 := Lib.hid q3
      have QB := Lib.hid qb
      clear q2 q3 qb
      go_wp2_with fail
      rw [HV.out]
      go_roundw
      case rel =>
        refine ⟨k + 1, by omega, by go_num, Q2.out.far (by simp) _, ?_, QB.out.setCell (by simp; omega) _⟩
        have h := Q3.out.put (3 + 4 * k) (.int .u8 (key (3 + 4 * k) % 16 : Nat))
        rw [byteCells_set, byteCells_congr (fun i _ => cl1_set key k i)] at h
        exact h
      case measure => simp [intOf]; omega
    · obtain rfl : k = 4 := by omega
      have K2 := Lib.hid q2
      have K3 := Lib.hid (show Whole wr (B + 1 + 1) 25 (byteCells (cl2 key 0) 16).toArray from by rw [← byteCells_congr (fun i hi => cl12 key i hi)]; exact q3)
      have KB := Lib.hid qb
      clear q2 q3 qb
      go_wp2_with fail
      go_loopw [20] (fun i wr => ∃ k : Nat, k ≤ 3 ∧ i = .int .i64 k ∧ Whole wr (B + 1) 25 (byteCells (fun _ => 0) 16).toArray ∧ Whole wr (B + 1 + 1) 25 (byteCells (cl2 key k) 16).toArray ∧ Below B w wr) (fun i _ => 3 - (intOf i).toNat)
      case atStart => exact ⟨0, by omega, rfl, K2.out, K3.out, KB.out⟩
      case round =>
        obtain ⟨k, hk, rfl, q2, q3, qb⟩ := hrel
        by_cases hlt : k < 3
        · have f1 := q3.free (4 + 4 * k)
          have c1 := q3.cell (4 + 4 * k)
          rw [List.getElem?_toArray, byteCells_get _ _ _ (by omega), cl2_at] at c1
          have HV := Lib.hid (and252 (key (4 + 4 * k)) (HK.out _))
          have Q2 := Lib.hid q2
          have Q3 := Lib.hid q3
          have QB := Lib.hid qb
          clear q2 q3 qb
          go_wp2_with fail
          rw [HV.out]
          go_roundw
          case rel =>
            refine ⟨k + 1, by omega, by go_num, Q2.out.far (by simp) _, ?_, QB.out.setCell (by simp; omega) _⟩
            have h := Q3.out.put (4 + 4 * k) (.int .u8 (key (4 + 4 * k) - key (4 + 4 * k) % 4 : Nat))
            rw [byteCells_set, byteCells_congr (fun i _ => cl2_set key k i)] at h
            exact h
          case measure => simp [intOf]; omega
        · obtain rfl : k = 3 := by omega
          have K2 := Lib.hid q2
          have K3 := Lib.hid (show Whole wr (B + 1 + 1) 25 (byteCells (cl key) 16).toArray from by rw [← byteCells_congr (fun i hi => cl2_end key i hi)]; exact q3)
          have KB := Lib.hid qb
          clear q2 q3 qb
          have HZ16 := Lib.hid (show (byteCells (cl key) 16).toArray.size = 16 by rw [List.size_toArray, byteCells_length])
          go_wp2_with (first | (refine wpList_load_row rfl 25 (.tmp 3) rfl (B + 1 + 1) rfl 25 (byteCells (cl key) 16).toArray (0, 0) _ K3.out rfl rfl (by rw [HZ16.out]; kernel_rfl) ?_) | (refine wpList_store_row rfl 25 (.tmp 2) (.tmp 31) rfl (B + 1) (byteCells (cl key) 16).toArray rfl rfl 25 _ K2.out (by rw [HZ16.out]; kernel_rfl) (by rw [HZ16.out]; rfl) (bytes_one _ _) ?_))
          have hret : Whole (wr.setRow (B + 1) (byteCells (cl key) 16).toArray) (B + 1) 25 (byteCells (cl key) 16).toArray := setRow_heap wr _ _ _ _ _ K2.out
          refine bodyPost_ret (results_cell_row rfl _ _ (B + 1) 25 _ (0, 0) _ rfl hret rfl rfl (by rw [HZ16.out]; kernel_rfl)) rfl ?_
          exact ⟨rfl, by rw [hB]; exact below_setRow KB.out (by omega) _⟩

end Poly
end Go.Proofs.Ytdffbjlbhjppeaa
