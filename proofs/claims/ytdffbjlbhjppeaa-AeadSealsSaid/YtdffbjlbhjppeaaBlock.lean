/- The calls Block and Derive of package chacha. -/
import Derived.Test.YtdffbjlbhjppeaaFirst
import Derived.Test.YtdffbjlbhjppeaaEarly
namespace Go.Proofs.Ytdffbjlbhjppeaa
namespace Chacha
open Go.ChangeShapes Go.WideShapes Go.ChangeAt Go.RowKit
open Num Mem Words State Quiet

/-- the sixteen numbers of a block -/
def sums (key : Nat → Nat) (four : List Nat) (i : Nat) : Nat := ((stir (first key four)).getD i 0 + (first key four).getD i 0) % 4294967296
/-- a block, byte by byte -/
def blk (key nonce : Nat → Nat) (ctr j : Nat) : Nat := byteAt (sums key [ctr, le nonce 0 4, le nonce 4 4, le nonce 8 4] (j / 4)) (j % 4)

theorem fits_mem {s : List Nat} (h : ∀ x ∈ s, x < 4294967296) : Fits s := by
  intro i
  by_cases hi : i < s.length
  · rw [List.getD_eq_getElem?_getD, List.getElem?_eq_getElem hi]
    exact h _ (List.getElem_mem hi)
  · rw [List.getD_eq_getElem?_getD, List.getElem?_eq_none (by omega)]
    exact (by omega : (0 : Nat) < 4294967296)

theorem first_fits (key : Nat → Nat) (hk : ∀ i, key i < 256) (a b c d : Nat) (h1 : a < 4294967296) (h2 : b < 4294967296) (h3 : c < 4294967296) (h4 : d < 4294967296) : Fits (first key [a, b, c, d]) := by
  refine fits_mem fun x hx => ?_
  have hl := le_lt hk
  simp only [first, nums, List.mem_append, List.mem_cons, List.not_mem_nil, or_false, List.mem_map] at hx
  rcases hx with ((rfl | rfl | rfl | rfl) | ⟨i, _, rfl⟩) | rfl | rfl | rfl | rfl
  · omega
  · omega
  · omega
  · omega
  · exact hl _ 4
  all_goals assumption
theorem wcells_size (s : List Nat) (h : s.length = 16) : (wcells s).toArray.size = 16 := by simp [wcells, h]
theorem Whole.farRow {w : World} {h g : Nat} {t : TypeId} {cs : Array Value} (H : Whole w h t cs) (hne : h ≠ g) (xs : Array Value) : Whole (w.setRow g xs) h t cs := (setRow_other w g h xs hne).trans H
theorem below_alloc' {B : Nat} {w w1 : World} (h : Below B w w1) (hB : B ≤ w1.heap.size) (o : Obj) : Below B w (w1.alloc o) := h.alloc hB o

/-- the first n of G, noughts behind -/
def bpart (G : Nat → Nat) (n j : Nat) : Nat := if j < n then G j else 0

theorem bytes_one (f : Nat → Nat) (n : Nat) : (byteCells f n).toArray.all (·.oneCell') = true := by
  simp [byteCells, Value.oneCell']

theorem bytes_each (f : Nat → Nat) (n : Nat) : ∀ v ∈ byteCells f n, v.oneCell' = true := by
  intro v hv
  obtain ⟨i, _, rfl⟩ := List.mem_map.1 hv
  rfl

theorem byteCells_splice (f g h : Nat → Nat) (n p m : Nat) (hpm : p + m ≤ n) (hh : ∀ i, i < n → h i = if p ≤ i ∧ i < p + m then g (i - p) else f i) : splice (byteCells f n) p (byteCells g m) = byteCells h n := by
  apply List.ext_getElem?
  intro i
  unfold splice
  by_cases h1 : i < p
  · rw [List.getElem?_append_left (by rw [List.length_take, byteCells_length]; omega), List.getElem?_take_of_lt h1, byteCells_get _ _ _ (by omega), byteCells_get _ _ _ (by omega), hh i (by omega), if_neg (by omega)]
  · rw [List.getElem?_append_right (by rw [List.length_take, byteCells_length]; omega), List.length_take, byteCells_length f n, Nat.min_eq_left (by omega)]
    by_cases h2 : i < p + m
    · rw [List.getElem?_append_left (by rw [byteCells_length]; omega), byteCells_get _ _ _ (by omega), byteCells_get _ _ _ (by omega), hh i (by omega), if_pos (by omega)]
    · rw [List.getElem?_append_right (by rw [byteCells_length]; omega), byteCells_length, List.getElem?_drop, show p + m + (i - p - m) = i by omega]
      by_cases h3 : i < n
      · rw [byteCells_get _ _ _ h3, byteCells_get _ _ _ h3, hh i h3, if_neg (by omega)]
      · rw [List.getElem?_eq_none (by rw [byteCells_length]; omega), List.getElem?_eq_none (by rw [byteCells_length]; omega)]

set_option maxRecDepth 100000 in
theorem block_any (key nonce : Nat → Nat) (hk : ∀ i, key i < 256) (hn : ∀ i, nonce i < 256) (ctr : Nat) (hc : ctr < 4294967296) (w : World) :
    Calls Try.prog 59 #[.agg (byteCells key 32).toArray, .agg (byteCells nonce 12).toArray, .int .u32 ctr] w fun e w' => e = .returned (.agg (byteCells (blk key nonce ctr) 64).toArray) ∧ Below w.heap.size w w' := by
  have HKF := Lib.hid hk
  have HNF := Lib.hid hn
  clear hk hn
  rw [byteCells_lit32, byteCells_lit12]
  go_enter Try.func59, Try.ntmps59
  go_wp2_with fail
  refine cut_world (fun W => Whole W w.heap.size 40 (byteCells key 32).toArray ∧ Whole W (w.heap.size + 1) 41 (byteCells nonce 12).toArray ∧ Whole W (w.heap.size + 1 + 1) 90 (byteCells (fun _ => 0) 64).toArray ∧ Below w.heap.size w W) ⟨?_, ?_, ?_, ?_⟩ ?_
  · rw [byteCells_lit32]
    exact ((whole_new _ _ rfl).alloc _).alloc _
  · rw [byteCells_lit12]
    exact (whole_new _ _ (by simp)).alloc _
  · rw [byteCells_lit64]
    exact whole_new _ _ (by simp)
  · exact below_alloc (below_alloc (below_alloc (Below.refl _ _) _) _) _
  rintro W ⟨k1, k2, k3, kb⟩
  have HK := Lib.hid k1
  have HN := Lib.hid k2
  have HR := Lib.hid k3
  have HB := Lib.hid kb
  clear k1 k2 k3 kb
  generalize hB : w.heap.size = B at HK HN HR HB ⊢
  refine region_start (fun w' => Below W.heap.size W w') (by kernel_rfl) (below_drewN (Below.refl _ _) 1) ?_
  intro w0 hS
  refine take 0 _ rfl (by kernel_rfl) (by kernel_rfl) (by kernel_rfl) (fun _ _ _ h => h) (by rfl) hS (fun w hw => run_load_op 40 (.tmp 3) rfl (B) rfl (HK.out.below hw HK.out.lt) rfl rfl (by kernel_rfl)) ?_
  try simp only [Act.put, List.setIfInBounds_toArray, List.set_cons_zero, List.set_cons_succ]
  refine take 1 _ rfl (by kernel_rfl) (by kernel_rfl) (by kernel_rfl) (fun _ _ _ h => h) (by rfl) hS (by intro w _; go_simp; with_reducible rfl) ?_
  try simp only [Act.put, List.setIfInBounds_toArray, List.set_cons_zero, List.set_cons_succ]
  refine take 2 _ rfl (by kernel_rfl) (by kernel_rfl) (by kernel_rfl) (fun _ _ _ h => h) (by rfl) hS (by intro w _; go_simp; with_reducible rfl) ?_
  try simp only [Act.put, List.setIfInBounds_toArray, List.set_cons_zero, List.set_cons_succ]
  refine take_call 3 (.int .u32 (le nonce 0 4 : Nat)) 70 (#[.slice (some ⟨B + 1, 0, none⟩) 12 12, .int .i64 0]) rfl (by kernel_rfl) (by kernel_rfl) (by kernel_rfl) (fun _ _ _ h => h) (by rfl) hS (by intro w; go_simp; try with_reducible rfl) (fun w hw => number_any (B + 1) 0 12 12 nonce HNF.out 0 (by omega) (by omega) _ (fun i hi => (HN.out.below hw HN.out.lt).bytes i hi)) ?_
  try simp only [Act.put, List.setIfInBounds_toArray, List.set_cons_zero, List.set_cons_succ]
  refine take 4 _ rfl (by kernel_rfl) (by kernel_rfl) (by kernel_rfl) (fun _ _ _ h => h) (by rfl) hS (by intro w _; go_simp; with_reducible rfl) ?_
  try simp only [Act.put, List.setIfInBounds_toArray, List.set_cons_zero, List.set_cons_succ]
  refine take_call 5 (.int .u32 (le nonce 4 4 : Nat)) 70 (#[.slice (some ⟨B + 1, 0, none⟩) 12 12, .int .i64 1]) rfl (by kernel_rfl) (by kernel_rfl) (by kernel_rfl) (fun _ _ _ h => h) (by rfl) hS (by intro w; go_simp; try with_reducible rfl) (fun w hw => number_any (B + 1) 0 12 12 nonce HNF.out 1 (by omega) (by omega) _ (fun i hi => (HN.out.below hw HN.out.lt).bytes i hi)) ?_
  try simp only [Act.put, List.setIfInBounds_toArray, List.set_cons_zero, List.set_cons_succ]
  refine take 6 _ rfl (by kernel_rfl) (by kernel_rfl) (by kernel_rfl) (fun _ _ _ h => h) (by rfl) hS (by intro w _; go_simp; with_reducible rfl) ?_
  try simp only [Act.put, List.setIfInBounds_toArray, List.set_cons_zero, List.set_cons_succ]
  refine take_call 7 (.int .u32 (le nonce 8 4 : Nat)) 70 (#[.slice (some ⟨B + 1, 0, none⟩) 12 12, .int .i64 2]) rfl (by kernel_rfl) (by kernel_rfl) (by kernel_rfl) (fun _ _ _ h => h) (by rfl) hS (by intro w; go_simp; try with_reducible rfl) (fun w hw => number_any (B + 1) 0 12 12 nonce HNF.out 2 (by omega) (by omega) _ (fun i hi => (HN.out.below hw HN.out.lt).bytes i hi)) ?_
  try simp only [Act.put, List.setIfInBounds_toArray, List.set_cons_zero, List.set_cons_succ]
  refine take 8 _ rfl (by kernel_rfl) (by kernel_rfl) (by kernel_rfl) (fun _ _ _ h => h) (by rfl) hS (by intro w _; go_simp; with_reducible rfl) ?_
  try simp only [Act.put, List.setIfInBounds_toArray, List.set_cons_zero, List.set_cons_succ]
  refine call_alloc_store 9 10 11 69 _ 104 21 7 (wcells (List.replicate 16 0)).toArray (wcells (first key [ctr, le nonce 0 4, le nonce 4 4, le nonce 8 4])).toArray rfl rfl rfl (by kernel_rfl) (by kernel_rfl) (by kernel_rfl) (by kernel_rfl) (by kernel_rfl) (by decide) rfl rfl rfl rfl rfl rfl (by decide) (by simp) (by simp) rfl (by intro a w; go_simp; rfl) (by rw [first_size]; kernel_rfl) (by rw [first_size]; rfl) (wcells_one _) (by intro w; go_simp) (by intro p w; go_simp) (fun w hw => first_any key HKF.out ctr _ _ _ w) hS ?_
  intro g7 w1 hg7 h7 hb1
  simp only [Act.put, List.setIfInBounds_toArray, List.set_cons_zero, List.set_cons_succ]
  have l6 := HR.out.lt
  have l7 := h7.lt
  have H7 := Lib.hid h7
  have HR1 := Lib.hid (HR.out.below hb1 HR.out.lt)
  have HB1 := Lib.hid (HB.out.trans (hb1.mono (by have := HB.out.size; omega)))
  have hs1 : B ≤ w1.heap.size := by have := HB1.out.size; omega
  have hlen : (first key [ctr, le nonce 0 4, le nonce 4 4, le nonce 8 4]).length = 16 := by simp [first, nums]
  have hfits : Fits (first key [ctr, le nonce 0 4, le nonce 4 4, le nonce 8 4]) := first_fits key HKF.out ctr _ _ _ hc (le_lt HNF.out 0 4) (le_lt HNF.out 4 4) (le_lt HNF.out 8 4)
  have hsum : ∀ j, blk key nonce ctr j = byteAt (((stir (first key [ctr, le nonce 0 4, le nonce 4 4, le nonce 8 4])).getD (j / 4) 0 + (first key [ctr, le nonce 0 4, le nonce 4 4, le nonce 8 4]).getD (j / 4) 0) % 4294967296) (j % 4) := fun _ => rfl
  generalize first key [ctr, le nonce 0 4, le nonce 4 4, le nonce 8 4] = F at H7 hlen hfits hsum ⊢
  have HL := Lib.hid hlen
  have HF := Lib.hid hfits
  have HS := Lib.hid hsum
  have hsz := Lib.hid (wcells_size F HL.out)
  clear h7 hb1 hlen hfits hsum hS HK HN HR HB
  go_wp2_with (first | (refine wpList_load_row rfl 104 (.tmp 7) rfl g7 rfl 104 (wcells F).toArray (0, 0) _ H7.out rfl rfl (by rw [hsz.out]; kernel_rfl) ?_) | (refine wpList_store_row rfl 104 (.tmp 8) (.tmp 22) rfl w1.heap.size (wcells F).toArray rfl rfl 104 _ (Whole.new _ _ _) (by rw [hsz.out]; kernel_rfl) (by rw [hsz.out]; rfl) (wcells_one _) ?_))
  refine (stir_any w1.heap.size F HL.out HF.out _ (setRow_heap _ _ _ _ _ _ (Whole.new _ _ _))).mono ?_
  rintro e w2 ⟨rfl, h8, hg⟩
  have h7' := whole_grown (Whole.farRow (H7.out.alloc _) (Nat.ne_of_lt l7) _) hg (Nat.ne_of_gt l7)
  have hr' := whole_grown (Whole.farRow (HR1.out.alloc _) (Nat.ne_of_lt HR1.out.lt) _) hg (Nat.ne_of_gt HR1.out.lt)
  have hb' := below_grown (below_setRow (below_alloc' HB1.out hs1 _) hs1 _) hg hs1 (by simp [World.setRow]; omega)
  generalize w1.heap.size = g8 at h8 h7' hr' hb' l7 ⊢
  have l8 := h8.lt
  have H8 := Lib.hid h8
  have H7' := Lib.hid h7'
  have HR' := Lib.hid hr'
  have HB' := Lib.hid hb'
  clear h8 h7' hr' hb' hg H7 HR1 HB1
  go_wp2_with fail
  refine cut_world (fun X => Whole X g7 104 (wcells F).toArray ∧ Whole X g8 104 (wcells (stir F)).toArray ∧ Whole X (B + 1 + 1) 90 (byteCells (fun _ => 0) 64).toArray ∧ Whole X w2.heap.size 90 (byteCells (fun _ => 0) 64).toArray ∧ Below B w X) ⟨H7'.out.alloc _, H8.out.alloc _, HR'.out.alloc _, ?_, below_alloc' HB'.out (by have := HB'.out.size; omega) _⟩ ?_
  · rw [byteCells_lit64]
    exact Whole.new _ _ _
  rintro X ⟨x7, x8, x6, x9, xb⟩
  generalize w2.heap.size = g9 at x9 l8 ⊢
  have X7 := Lib.hid x7
  have X8 := Lib.hid x8
  have X6 := Lib.hid x6
  have X9 := Lib.hid x9
  have XB := Lib.hid xb
  clear x7 x8 x6 x9 xb H7' H8 HR' HB'
  go_loopw [24] (fun i wr => ∃ k : Nat, k ≤ 16 ∧ i = .int .i64 k ∧ Whole wr g7 104 (wcells F).toArray ∧ Whole wr g8 104 (wcells (stir F)).toArray ∧ Whole wr (B + 1 + 1) 90 (byteCells (fun _ => 0) 64).toArray ∧ Whole wr g9 90 (byteCells (bpart (blk key nonce ctr) (4 * k)) 64).toArray ∧ Below B w wr) (fun i _ => 16 - (intOf i).toNat)
  case atStart => exact ⟨0, by omega, rfl, X7.out, X8.out, X6.out, X9.out, XB.out⟩
  case round =>
    obtain ⟨k, hk, rfl, q7, q8, q6, q9, qb⟩ := hrel
    by_cases hlt : k < 16
    · have c7 : ∀ x, Below wr.heap.size wr x → x.cell? ⟨g7, k, none⟩ = some (.int .u32 (F.getD k 0 : Nat)) := fun x hx => by
        rw [(q7.below hx q7.lt).cell, List.getElem?_toArray, wcells_get _ _ (by rw [HL.out]; omega)]
      have c8 : ∀ x, Below wr.heap.size wr x → x.cell? ⟨g8, k, none⟩ = some (.int .u32 ((stir F).getD k 0 : Nat)) := fun x hx => by
        rw [(q8.below hx q8.lt).cell, List.getElem?_toArray, wcells_get _ _ (by rw [stir, rounds_length, HL.out]; omega)]
      have hsum : ∀ i, i < 4 → blk key nonce ctr (4 * k + i) = byteAt (((stir F).getD k 0 + F.getD k 0) % 4294967296) i := fun i hi => by
        rw [HS.out, show (4 * k + i) / 4 = k by omega, show (4 * k + i) % 4 = i by omega]
      have b7 : F.getD k 0 < 4294967296 := HF.out k
      have b8 : (stir F).getD k 0 < 4294967296 := rounds_fits 10 HF.out k
      generalize F.getD k 0 = y at c7 hsum b7
      generalize (stir F).getD k 0 = x at c8 hsum b8
      have hz : IntKind.u32.wrap ((x : Int) + (y : Int)) = (((x + y) % 4294967296 : Nat) : Int) := by rw [IntKind.wrap_u32]; omega
      have HZ := Lib.hid hz
      have hz32 : (x + y) % 4294967296 < 4294967296 := Nat.mod_lt _ (by omega)
      generalize (x + y) % 4294967296 = z at HZ hsum hz32
      have C7 := Lib.hid c7
      have C8 := Lib.hid c8
      have Q7 := Lib.hid q7
      have Q8 := Lib.hid q8
      have Q6 := Lib.hid q6
      have Q9 := Lib.hid q9
      have QB := Lib.hid qb
      have HSUM := Lib.hid hsum
      clear c7 c8 q7 q8 q6 q9 qb hsum hz
      go_wp2_with fail
      have hk16 : (k : Int) < 16 := by omega
      refine region_start (fun w' => Below wr.heap.size wr w') (by kernel_rfl) (below_drewN (Below.refl _ _) 1) ?_
      intro w3 hS
      refine take 0 _ rfl (by kernel_rfl) (by kernel_rfl) (by kernel_rfl) (fun _ _ _ h => h) (by rfl) hS (by intro w _; go_simp; with_reducible rfl) ?_
      try simp only [Act.put, List.setIfInBounds_toArray, List.set_cons_zero, List.set_cons_succ]
      refine take 1 _ rfl (by kernel_rfl) (by kernel_rfl) (by kernel_rfl) (fun _ _ _ h => h) (by rfl) hS (by intro w _; go_simp; with_reducible rfl) ?_
      try simp only [Act.put, List.setIfInBounds_toArray, List.set_cons_zero, List.set_cons_succ]
      refine take 2 _ rfl (by kernel_rfl) (by kernel_rfl) (by kernel_rfl) (fun _ _ _ h => h) (by rfl) hS (by intro w hw; have hcl := C8.out w hw; go_simp; with_reducible rfl) ?_
      try simp only [Act.put, List.setIfInBounds_toArray, List.set_cons_zero, List.set_cons_succ]
      refine take 3 _ rfl (by kernel_rfl) (by kernel_rfl) (by kernel_rfl) (fun _ _ _ h => h) (by rfl) hS (by intro w _; go_simp; with_reducible rfl) ?_
      try simp only [Act.put, List.setIfInBounds_toArray, List.set_cons_zero, List.set_cons_succ]
      refine take 4 _ rfl (by kernel_rfl) (by kernel_rfl) (by kernel_rfl) (fun _ _ _ h => h) (by rfl) hS (by intro w _; go_simp; with_reducible rfl) ?_
      try simp only [Act.put, List.setIfInBounds_toArray, List.set_cons_zero, List.set_cons_succ]
      refine take 5 _ rfl (by kernel_rfl) (by kernel_rfl) (by kernel_rfl) (fun _ _ _ h => h) (by rfl) hS (by intro w hw; have hcl := C7.out w hw; go_simp; with_reducible rfl) ?_
      try simp only [Act.put, List.setIfInBounds_toArray, List.set_cons_zero, List.set_cons_succ]
      refine take 6 _ rfl (by kernel_rfl) (by kernel_rfl) (by kernel_rfl) (fun _ _ _ h => h) (by rfl) hS (by intro w _; go_simp; with_reducible rfl) ?_
      try simp only [Act.put, List.setIfInBounds_toArray, List.set_cons_zero, List.set_cons_succ]
      rw [HZ.out]
      refine call_alloc_store 7 8 9 72 _ 108 34 11 (byteCells (fun _ => 0) 4).toArray (byteCells (byteAt z) 4).toArray rfl rfl rfl (by kernel_rfl) (by kernel_rfl) (by kernel_rfl) (by kernel_rfl) (by kernel_rfl) (by decide) rfl rfl rfl rfl rfl rfl (by decide) (by simp) (by simp) rfl (by intro a w; go_simp; rfl) (by kernel_rfl) rfl (bytes_one _ _) (by intro w; go_simp) (by intro p w; go_simp) (fun w hw => put32_any z hz32 w) hS ?_
      intro g11 w4 hg11 h11 hb4
      simp only [Act.put, List.setIfInBounds_toArray, List.set_cons_zero, List.set_cons_succ]
      have l11 : g9 < g11 := Nat.lt_of_lt_of_le Q9.out.lt hg11
      have Q7' := Lib.hid (Q7.out.below hb4 Q7.out.lt)
      have Q8' := Lib.hid (Q8.out.below hb4 Q8.out.lt)
      have Q6' := Lib.hid (Q6.out.below hb4 Q6.out.lt)
      have Q9' := Lib.hid (Q9.out.below hb4 Q9.out.lt)
      have H11 := Lib.hid (row_reads h11)
      have hs4 : B ≤ wr.heap.size := by have := Q9.out.lt; omega
      have QB' := Lib.hid (QB.out.trans (hb4.mono hs4))
      have hb0 := below_drewN (B := g9) (Below.refl g9 w4) 1
      have m1 : IntKind.i64.wrap (4 * (k : Int)) = 4 * (k : Int) := by rw [IntKind.wrap_i64]; omega
      have m2 : (4 * (k : Int)).toNat = 4 * k := by omega
      have m3 : 4 * (k : Int) ≤ 64 := by omega
      have m4 : 0 ≤ 4 * (k : Int) := by omega
      have m5 : ¬ 64 = 4 * k := by omega
      clear h11 hb4 hS Q7 Q8 Q6 Q9 C7 C8 QB
      go_wp2_with fail
      go_region_law (refine step_copy_splice rfl (.tmp 37) (.tmp 38) 23 23 rfl 5 rfl (by kernel_rfl) (some ⟨g9, 4 * k, none⟩) (some ⟨g11, 0, none⟩) (64 - 4 * k) (64 - 4 * k) 4 4 rfl rfl g9 (4 * k) (byteCells (bpart (blk key nonce ctr) (4 * k)) 64) 90 Q9'.out (byteCells (byteAt z) 4) (by rw [byteCells_length]; exact (Nat.min_eq_left (by omega)).symm) (fun _ => ⟨rfl, _, rfl, H11.out⟩) (by rw [byteCells_length, byteCells_length]; omega) (bytes_each _ _) g9 w4 hb0 (Nat.le_refl _) ?_; intro w5 hg5 hb5)
      have hg5' : Whole w5 g9 90 (byteCells (bpart (blk key nonce ctr) (4 * (k + 1))) 64).toArray := by
        have h := hg5.out
        rw [byteCells_splice (bpart (blk key nonce ctr) (4 * k)) (byteAt z) (bpart (blk key nonce ctr) (4 * (k + 1))) 64 (4 * k) 4 (by omega) (fun i hi => by
          unfold bpart
          by_cases c1 : 4 * k ≤ i ∧ i < 4 * k + 4
          · rw [if_pos c1, if_pos (by omega), ← HSUM.out (i - 4 * k) (by omega), show 4 * k + (i - 4 * k) = i by omega]
          · rw [if_neg c1]
            by_cases c2 : i < 4 * k
            · rw [if_pos c2, if_pos (by omega)]
            · rw [if_neg c2, if_neg (by omega)])] at h
        exact h
      have R7 := Lib.hid (Q7'.out.below hb5 (by omega))
      have R8 := Lib.hid (Q8'.out.below hb5 (by omega))
      have R6 := Lib.hid (Q6'.out.below hb5 (by omega))
      have R9 := Lib.hid hg5'
      have RB := Lib.hid (QB'.out.trans (hb5.mono (by omega)))
      clear hg5 hg5' hb5 hb0
      go_wp2_with fail
      go_roundw
      case rel => exact ⟨k + 1, by omega, by go_num, R7.out, R8.out, R6.out, R9.out, RB.out⟩
      case measure => simp [intOf]; omega
    · obtain rfl : k = 16 := by omega
      have hG : byteCells (bpart (blk key nonce ctr) (4 * 16)) 64 = byteCells (blk key nonce ctr) 64 := byteCells_congr fun i hi => by
        unfold bpart
        rw [if_pos hi]
      rw [hG] at q9
      have hz64 : (byteCells (blk key nonce ctr) 64).toArray.size = 64 := by simp [byteCells_length]
      have Q6 := Lib.hid q6
      have Q9 := Lib.hid q9
      have QB := Lib.hid (below_setRow qb (show B ≤ B + 1 + 1 by omega) (byteCells (blk key nonce ctr) 64).toArray)
      have HZ := Lib.hid hz64
      clear q7 q8 q6 q9 qb hG hz64
      go_wp2_with (first | (refine wpList_load_row rfl 90 (.tmp 9) rfl g9 rfl 90 (byteCells (blk key nonce ctr) 64).toArray (0, 0) _ Q9.out rfl rfl (by rw [HZ.out]; kernel_rfl) ?_) | (refine wpList_store_row rfl 90 (.tmp 6) (.tmp 41) rfl (B + 1 + 1) (byteCells (blk key nonce ctr) 64).toArray rfl rfl 90 _ Q6.out (by rw [HZ.out]; kernel_rfl) (by rw [HZ.out]; rfl) (bytes_one _ _) ?_))
      have hret : Whole (wr.setRow (B + 1 + 1) (byteCells (blk key nonce ctr) 64).toArray) (B + 1 + 1) 90 (byteCells (blk key nonce ctr) 64).toArray := setRow_heap wr _ _ _ _ _ Q6.out
      refine bodyPost_ret (results_cell_row rfl _ _ (B + 1 + 1) 90 _ (0, 0) _ rfl hret rfl rfl (by rw [HZ.out]; kernel_rfl)) rfl ?_
      exact ⟨rfl, by rw [hB]; exact QB.out⟩

end Chacha
end Go.Proofs.Ytdffbjlbhjppeaa
