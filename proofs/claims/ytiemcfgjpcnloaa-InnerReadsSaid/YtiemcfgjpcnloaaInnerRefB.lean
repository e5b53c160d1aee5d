/- The document's own answers of layer 12 (package aditref12): addr and Read. -/
import Derived.Test.YtiemcfgjpcnloaaInnerRefA
namespace Go.Proofs.Ytiemcfgjpcnloaa
namespace Inner
open Go.ChangeShapes Go.WideShapes Go.ChangeAt Go.RowKit
open Num Mem Words Chacha Aead Poly Quiet

/-- the first k of n bytes -/
def upK (f : Nat → Nat) (k i : Nat) : Nat := if i < k then f i else 0
theorem addr_put (s : Bool) (f : Nat → Nat) (k : Nat) (h : k < 16) : (addrL s (upK f k)).toArray.setIfInBounds (1 + k) (.int .u8 (f k : Nat)) = (addrL s (upK f (k + 1))).toArray := by
  have e := congrArg Array.toList (byteCells_set (upK f k) 16 k (f k))
  rw [List.setIfInBounds_toArray] at e
  dsimp only at e
  unfold addrL
  rw [List.setIfInBounds_toArray, Nat.add_comm 1 k, List.set_cons_succ, e, byteCells_congr (g := upK f (k + 1)) fun i _ => by
    unfold upK
    by_cases e : i = k
    · subst e
      rw [if_pos rfl, if_pos (by omega)]
    · rw [if_neg e]
      by_cases l : i < k
      · rw [if_pos l, if_pos (by omega)]
      · rw [if_neg l, if_neg (by omega)]]
theorem addr_at (s : Bool) (f : Nat → Nat) (k : Nat) (h : k < 16) : (addrL s f).toArray[1 + k]? = some (.int .u8 (f k : Nat)) := by
  rw [List.getElem?_toArray]
  unfold addrL
  rw [Nat.add_comm 1 k, List.getElem?_cons_succ, byteCells_get _ _ _ h]

set_option maxRecDepth 100000 in
set_option maxHeartbeats 4000000 in
theorem addr_any (s : Bool) (n : Nat) (hn : n = if s then 16 else 4) (b off c : Nat) (f : Nat → Nat) (w : World) (hb : b < w.heap.size) (hc : ∀ i, i < n → w.cell? ⟨b, off + i, none⟩ = some (.int .u8 (f i : Nat))) :
    Calls Try.prog 19 #[.slice (some ⟨b, off, none⟩) n c] w fun e w' => e = .returned (.agg (addrL s (upK f n)).toArray) ∧ Below w.heap.size w w' := by
  obtain ⟨zs, hz, hzs⟩ : ∃ zs : Array Value, (∀ w, (zeroValue 26).run Try.prog w = .ok (.agg zs) w) ∧ zs.size = 17 := ⟨_, zero_addr, addr_size _ _⟩
  have HZS := Lib.hid hzs
  have HC := Lib.hid hc
  have hn16 : n ≤ 16 := by rw [hn]; split <;> omega
  have HN := Lib.hid (show ((n : Int) == 16) = s from by
    rcases s with _ | _
    · rw [beq_eq_false_iff_ne, hn]; decide
    · rw [beq_iff_eq, hn]; decide)
  have HB1 := Lib.hid (addr_built1 s)
  rw [show addrL s nought = addrL s (upK f 0) from addr_congr fun i _ => by unfold upK nought; rw [if_neg (by omega)]] at HB1
  have HO := Lib.hid (fun k => addr_one s (upK f k))
  have HLS := Lib.hid (fun k => addr_size s (upK f k))
  have eN := HN.out
  clear hzs hc hn
  go_enter Try.func19, Try.ntmps19
  go_upto_region 2 with (first | (refine wpList_built1 rfl 26 0 (.tmp 7) rfl (.bool s) rfl (addrL s (upK f 0)).toArray HB1.out ?_) | (refine wpList_store_row rfl 26 (.tmp 3) (.tmp 8) rfl (w.heap.size + 1) (addrL s (upK f 0)).toArray rfl rfl 26 _ (whole_new _ zs (by simp)) (by rw [HLS.out]; kernel_rfl) (by rw [HLS.out, HZS.out]) (HO.out 0) ?_))
  try simp only [Act.put]
  refine cut_world (fun X => Whole X w.heap.size 26 zs ∧ Whole X (w.heap.size + 1) 26 (addrL s (upK f 0)).toArray ∧ Below w.heap.size w X) ⟨(setRow_other _ _ _ _ (by omega)).trans ((Whole.new _ _ _).alloc _), setRow_heap _ _ _ _ _ _ (whole_new _ zs (by simp)), below_setRow (below_alloc (below_alloc (Below.refl _ _) _) _) (by omega) _⟩ ?_
  clear hz HB1 eN
  generalize hB : w.heap.size = B at hb ⊢
  rintro W ⟨q1, q2, qb⟩
  have Q1 := Lib.hid q1
  have Q2 := Lib.hid q2
  have QB := Lib.hid qb
  clear q1 q2 qb
  go_wp2_with fail
  go_loopw [4] (fun i wr => ∃ k : Nat, k ≤ n ∧ i = .int .i64 k ∧ Whole wr B 26 zs ∧ Whole wr (B + 1) 26 (addrL s (upK f k)).toArray ∧ Below B w wr) (fun i _ => n - (intOf i).toNat)
  case atStart => exact ⟨0, Nat.zero_le _, rfl, Q1.out, Q2.out, QB.out⟩
  case round =>
    obtain ⟨k, hk, rfl, q1, q2, qb⟩ := hrel
    clear Q1 Q2 QB
    by_cases hlt : k < n
    · have c1 := (qb.cell (p := ⟨b, off + k, none⟩) hb).trans (HC.out k hlt)
      have c2 : wr.cell? ⟨B + 1, 1 + k, none⟩ = some (.int .u8 (upK f k k : Nat)) := by rw [q2.cell, addr_at s _ k (by omega)]
      have f2 := q2.free (1 + k)
      have k16 : (k : Int) < 16 := by omega
      have R1 := Lib.hid (q1.far (p := ⟨B + 1, 1 + k, none⟩) (by show B ≠ B + 1; omega) (.int .u8 (f k : Nat)))
      have R2 := Lib.hid (q2.put (1 + k) (.int .u8 (f k : Nat)))
      rw [addr_put s f k (by omega)] at R2
      have RB := Lib.hid (qb.setCell (p := ⟨B + 1, 1 + k, none⟩) (by show B ≤ B + 1; omega) (.int .u8 (f k : Nat)))
      clear q1 q2 qb
      generalize upK f k k = u at c2
      generalize f k = v at c1 R1 R2 RB
      go_wp2_with fail
      exact ⟨⟨k + 1, by omega, by simp, R1.out, R2.out, RB.out⟩, by simp [intOf]; omega⟩
    · obtain rfl : k = n := by omega
      have R1 := Lib.hid q1
      have R2 := Lib.hid q2
      have RB := Lib.hid qb
      clear q1 q2 qb hlt
      have hL := Lib.hid (HLS.out k)
      have hO := Lib.hid (HO.out k)
      obtain ⟨L, hLL⟩ : ∃ L, (addrL s (upK f k)).toArray = L := ⟨_, rfl⟩
      rw [hLL] at R2 hL hO
      have HLL := Lib.hid hLL
      clear hLL HLS HO
      go_wp2_with (first | (refine wpList_load_row rfl 26 (.tmp 3) rfl (B + 1) rfl 26 L (0, 0) _ R2.out rfl rfl (by rw [hL.out]; kernel_rfl) ?_) | (refine wpList_store_row rfl 26 (.tmp 2) (.tmp 22) rfl B L rfl rfl 26 _ R1.out (by rw [hL.out]; kernel_rfl) (by rw [hL.out, HZS.out]) hO.out ?_))
      have hret : Whole (wr.setRow B L) B 26 L := setRow_heap _ _ _ _ _ _ R1.out
      refine bodyPost_ret (results_cell_row rfl _ _ B 26 _ (0, 0) _ rfl hret rfl rfl (by rw [hL.out]; kernel_rfl)) rfl ?_
      exact ⟨by rw [HLL.out], by rw [hB]; exact below_setRow RB.out (Nat.le_refl _) _⟩

end Inner
end Go.Proofs.Ytiemcfgjpcnloaa
