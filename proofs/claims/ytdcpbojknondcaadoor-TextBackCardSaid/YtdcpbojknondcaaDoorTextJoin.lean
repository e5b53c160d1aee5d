/- join of package text: the key of its signs' numbers. -/
import Derived.Test.YtdcpbojknondcaaDoorTextKey
namespace Go.Proofs.YtdcpbojknondcaaDoor
namespace Text
open Go.ChangeShapes Go.WideShapes Go.ChangeAt Go.RowKit
open Num Mem Words Chacha Aead

/-- the number of m signs of group k -/
def gTo (N : Nat → Nat) (k : Nat) : Nat → Nat
  | 0 => 0
  | m + 1 => gTo N k m * 64 + N (4 * k + m)
theorem gTo_lt {N : Nat → Nat} (hN : ∀ i, N i < 64) (k : Nat) : ∀ m, m ≤ 4 → gTo N k m < 16777216 := by
  have h0 := hN (4 * k + 0)
  have h1 := hN (4 * k + 1)
  have h2 := hN (4 * k + 2)
  have h3 := hN (4 * k + 3)
  intro m hm
  rcases (show m = 0 ∨ m = 1 ∨ m = 2 ∨ m = 3 ∨ m = 4 by omega) with rfl | rfl | rfl | rfl | rfl <;> simp only [gTo] <;> omega
/-- byte i of the key, and of a nought behind it -/
def jB (N : Nat → Nat) (i : Nat) : Nat := byteAt (gTo N (i / 3) 4) (2 - i % 3)
def jTo (N : Nat → Nat) (n i : Nat) : Nat := if i < n then jB N i else 0
theorem or_six (v n : Nat) (hv : v < 16777216) (hn : n < 64) : bits .or .u64 ((v : Int) * 64) (n : Int) = ((v * 64 + n : Nat) : Int) := by
  have h := u64_or_nat (v * 64) n (by omega) (by omega)
  rw [show v * 64 ||| n = v * 64 + n from by
    have := Nat.two_pow_add_eq_or_of_lt (i := 6) (by omega : n < 2 ^ 6) v
    rw [Nat.mul_comm v 64]
    exact this.symm] at h
  have e : (((v * 64 : Nat) : Int)) = (v : Int) * 64 := by omega
  rw [e] at h
  exact h

set_option maxRecDepth 100000 in
set_option maxHeartbeats 4000000 in
theorem join_any (N : Nat → Nat) (hN : ∀ i, N i < 64) (w : World) : Calls Tryd.prog 20 #[.agg (byteCells N 44).toArray] w fun e w' => e = .returned (.agg (byteCells (jB N) 32).toArray) ∧ Below w.heap.size w w' := by
  have HN := Lib.hid hN
  obtain ⟨L, hL⟩ : ∃ L, (byteCells N 44).toArray = L := ⟨_, rfl⟩
  have HLL := Lib.hid hL
  rw [hL]
  clear hL hN
  go_enter Tryd.func20, Tryd.ntmps20
  go_upto_region 2 with fail
  refine cut_world (fun W => Whole W w.heap.size 43 L ∧ Whole W (w.heap.size + 1) 31 (byteCells (fun _ => 0) 32).toArray ∧ Whole W (w.heap.size + 2) 47 (byteCells (fun _ => 0) 33).toArray ∧ Below w.heap.size w W) ⟨?_, ?_, ?_, ?_⟩ ?_
  · exact ((whole_new _ _ rfl).alloc _).alloc _
  · exact (whole_new _ _ (by simp)).alloc _
  · exact whole_new _ _ (by simp)
  · exact below_alloc (below_alloc (below_alloc (Below.refl _ _) _) _) _
  rintro W ⟨k1, k2, k3, kb⟩
  rw [← HLL.out] at k1
  have K1 := Lib.hid k1
  have K2 := Lib.hid k2
  have K3 := Lib.hid (show Whole W (w.heap.size + 2) 47 (byteCells (jTo N (3 * 0)) 33).toArray from by
    rw [byteCells_congr (g := fun _ => 0) (fun i _ => by unfold jTo; rw [if_neg (by omega)])]
    exact k3)
  have KB := Lib.hid kb
  clear k1 k2 k3 kb
  generalize hB : w.heap.size = B at K1 K2 K3 KB ⊢
  go_wp2
  go_loopw [10] (fun i wr => ∃ k : Nat, k ≤ 11 ∧ i = .int .i64 k ∧ Whole wr B 43 (byteCells N 44).toArray ∧ Whole wr (B + 1) 31 (byteCells (fun _ => 0) 32).toArray ∧ Whole wr (B + 2) 47 (byteCells (jTo N (3 * k)) 33).toArray ∧ Below B w wr)
    (fun i _ => 11 - (intOf i).toNat)
  case atStart => exact ⟨0, Nat.zero_le _, rfl, K1.out, K2.out, K3.out, KB.out⟩
  case round =>
    clear K1 K2 K3 KB
    obtain ⟨k, hk, rfl, q1, q2, q3, qb⟩ := hrel
    have Q1 := Lib.hid q1
    have Q2 := Lib.hid q2
    have Q3 := Lib.hid q3
    have QB := Lib.hid qb
    clear q1 q2 q3 qb
    by_cases hlt : k < 11
    · have hT : (decide ((k : Int) < 11)) = true := decide_eq_true (by omega)
      obtain ⟨G, hG0, hGs, hGl, hG4⟩ : ∃ G : Nat → Nat, G 0 = 0 ∧ (∀ m, G (m + 1) = G m * 64 + N (4 * k + m)) ∧ (∀ m, m ≤ 4 → G m < 16777216) ∧ G 4 = gTo N k 4 := ⟨gTo N k, rfl, fun _ => rfl, gTo_lt HN.out k, rfl⟩
      have HG0 := Lib.hid hG0
      have HGS := Lib.hid hGs
      have HGL := Lib.hid hGl
      have HG4 := Lib.hid hG4
      clear hG0 hGs hGl hG4
      go_wp2_with fail
      go_loopw [5, 13] (fun v i wr2 => ∃ m : Nat, m ≤ 4 ∧ i = .int .i64 m ∧ v = .int .u64 (G m : Nat) ∧ wr2 = wr)
        (fun _ i _ => 4 - (intOf i).toNat)
      case atStart => exact ⟨0, Nat.zero_le _, rfl, by rw [HG0.out]; rfl, rfl⟩
      case round =>
        obtain ⟨m, hm, rfl, rfl, hw⟩ := hrel
        have hw' := hw.symm
        subst hw'
        clear hw
        by_cases hmt : m < 4
        · have hcell := Q1.out.cell (4 * k + m)
          rw [List.getElem?_toArray, byteCells_get _ _ _ (by omega)] at hcell
          have hT2 : (decide ((m : Int) < 4)) = true := decide_eq_true (by omega)
          have hv := HGL.out m (by omega)
          have hn := HN.out (4 * k + m)
          have hor := or_six (G m) (N (4 * k + m)) hv hn
          go_wp2
          refine ⟨⟨m + 1, by omega, rfl, ?_, trivial⟩, ?_⟩
          · rw [HGS.out m]
            simp
          · show 4 - ((m : Int) + 1).toNat < 4 - (m : Int).toNat
            omega
        · obtain rfl : m = 4 := by omega
          have hv := HGL.out 4 (by omega)
          have C := Lib.hid (putBig_ok (G 4) 3 (by omega) (by omega) (Nat.div_eq_of_lt hv) wr)
          clear hv
          go_wp2_with fail
          refine C.out.mono ?_
          rintro e w1 ⟨rfl, hz, hb⟩
          have HS := Lib.hid (rd_src (w := w1) (b := wr.heap.size) (off := 0) (n := 3) (f := fun i => byteAt (G 4) (3 - 1 - i)) (fun i hi => hz.bytes i hi))
          have P1 := Lib.hid (Q1.out.below hb Q1.out.lt)
          have P2 := Lib.hid (Q2.out.below hb Q2.out.lt)
          have P3 := Lib.hid (Q3.out.below hb Q3.out.lt)
          have PB := Lib.hid (QB.out.trans (hb.mono (Nat.le_of_lt (Nat.lt_trans (by omega : B < B + 1) Q2.out.lt))))
          have hsz : wr.heap.size ≤ w1.heap.size := hb.size
          have hlt2 : B + 2 < wr.heap.size := Q3.out.lt
          clear hz hb
          have hc0 : (0 : Int) ≤ 3 * (k : Int) := by omega
          have hc1 : 3 * (k : Int) ≤ 33 := by omega
          go_wp2_with (refine wpList_copy rfl (.tmp 34) (.tmp 35) 41 41 rfl 5 rfl (by kernel_rfl) (B + 2) (3 * k) (33 - 3 * k) (33 - 3 * k) ⟨wr.heap.size, 0, none⟩ 3 3 rfl rfl (byteCells (jTo N (3 * k)) 33) 47 P3.out (byteCells (fun i => byteAt (G 4) (3 - 1 - i)) 3) (by rw [byteCells_length]; exact (Nat.min_eq_left (by omega)).symm) HS.out (by rw [byteCells_length, byteCells_length]; omega) (bytes_each _ _) ?_; intro w8 hg8 hb8)
          have e := whole_grown P1.out hb8 (by omega)
          have e2 := whole_grown P2.out hb8 (by omega)
          have e3 : Whole w8 (B + 2) 47 (byteCells (jTo N (3 * (k + 1))) 33).toArray := by
            have h := hg8.out
            rw [byteCells_splice (jTo N (3 * k)) _ (jTo N (3 * (k + 1))) 33 (3 * k) 3 (by omega) (fun i hi => ?_)] at h
            · exact h
            · unfold jTo
              by_cases c1 : i < 3 * k
              · rw [if_pos (by omega), if_neg (by omega), if_pos c1]
              · by_cases c2 : i < 3 * k + 3
                · rw [if_pos (by omega), if_pos (by omega), HG4.out]
                  unfold jB
                  rw [show i / 3 = k by omega, show 3 - 1 - (i - 3 * k) = 2 - i % 3 by omega]
                · rw [if_neg (by omega), if_neg (by omega), if_neg c1]
          have e4 := below_grown PB.out hb8 (by omega) (by omega)
          clear hg8 hb8
          refine ⟨⟨k + 1, by omega, by simp, e, e2, e3, e4⟩, ?_⟩
          show 11 - ((k : Int) + 1).toNat < 11 - (k : Int).toNat
          omega
    · obtain rfl : k = 11 := by omega
      go_upto_region 15 with fail
      have hlt2 : B + 2 < wr.heap.size := Q3.out.lt
      refine cut_world (fun X => Whole X (B + 1) 31 (byteCells (fun _ => 0) 32).toArray ∧ Whole X (B + 2) 47 (byteCells (jTo N 33) 33).toArray ∧ Whole X wr.heap.size 31 (byteCells (fun _ => 0) 32).toArray ∧ Below B w X) ⟨Q2.out.alloc _, Q3.out.alloc _, whole_new _ _ rfl, below_alloc' QB.out (by omega) _⟩ ?_
      rintro X ⟨k1, k2, k3, kb⟩
      generalize wr.heap.size = g at k3 hlt2 ⊢
      have K1 := Lib.hid k1
      have HS := Lib.hid (rd_src (w := X.drew) (b := B + 2) (off := 0) (n := 32) (f := jTo N 33) (fun i hi => k2.drew.bytes i (by omega)))
      have K3 := Lib.hid (show Whole X.drew g 31 (byteCells (fun _ => 0) 32).toArray from k3.drew)
      have KB := Lib.hid kb
      have hgx : g < X.heap.size := k3.lt
      clear k1 k2 k3 kb Q1 Q2 Q3 QB
      go_region_law (refine step_copy_grown rfl (.tmp 38) (.tmp 39) 41 41 rfl 5 rfl (by kernel_rfl) g 0 32 32 ⟨B + 2, 0, none⟩ 33 33 rfl rfl (byteCells (fun _ => 0) 32) 31 K3.out (byteCells (jTo N 33) 32) (by rw [byteCells_length]; rfl) HS.out (by rw [byteCells_length, byteCells_length]; omega) (bytes_each _ _) ?_; intro w8 hg8 hb8)
      have L3 := Lib.hid (show Whole w8 g 31 (byteCells (jB N) 32).toArray from by
        have h := hg8.out
        rw [byteCells_splice (fun _ => 0) (jTo N 33) (jB N) 32 0 32 (by omega) (fun i hi => by
          rw [if_pos (by omega), Nat.sub_zero]
          unfold jTo
          rw [if_pos (by omega)])] at h
        exact h)
      have L1 := Lib.hid (whole_grown (show Whole X.drew (B + 1) 31 (byteCells (fun _ => 0) 32).toArray from K1.out.drew) hb8 (by omega))
      have LB := Lib.hid (below_grown (below_drewN KB.out 1) hb8 (by omega) (by show B ≤ X.heap.size; omega))
      clear hg8 hb8 KB K1 K3 HS
      have HZ := Lib.hid (show (byteCells (jB N) 32).toArray.size = 32 by rw [List.size_toArray, byteCells_length])
      have HZ0 := Lib.hid (show (byteCells (fun _ => 0) 32).toArray.size = 32 by rw [List.size_toArray, byteCells_length])
      have HB1 := Lib.hid bytes_one
      obtain ⟨R, hR⟩ : ∃ R, (byteCells (jB N) 32).toArray = R := ⟨_, rfl⟩
      have HR1 := Lib.hid (show R.all (·.oneCell') = true by rw [← hR]; exact bytes_one _ _)
      obtain ⟨Z, hZ⟩ : ∃ Z, (byteCells (fun _ => 0) 32).toArray = Z := ⟨_, rfl⟩
      rw [hR] at HZ L3
      have HRE := Lib.hid hR
      rw [hZ] at HZ0 L1
      clear hR hZ HB1
      have hgl : B + 1 < w8.heap.size := L1.out.lt
      go_wp2_with (first | (refine wpList_load_row rfl 31 (.tmp 9) rfl g rfl 31 R (0, 0) _ L3.out rfl rfl (by rw [HZ.out]; kernel_rfl) ?_) | (refine wpList_store_row rfl 31 (.tmp 2) (.tmp 41) rfl (B + 1) R rfl rfl 31 _ L1.out (by rw [HZ.out]; kernel_rfl) (by rw [HZ.out, HZ0.out]) HR1.out ?_))
      have hret : Whole (w8.setRow (B + 1) R) (B + 1) 31 R := setRow_heap w8 _ _ _ _ _ L1.out
      refine bodyPost_ret (results_cell_row rfl _ _ (B + 1) 31 _ (0, 0) _ rfl hret rfl rfl (by rw [HZ.out]; kernel_rfl)) rfl ?_
      exact ⟨by rw [HRE.out], by rw [hB]; exact below_setRow LB.out (by omega) R⟩

end Text
end Go.Proofs.YtdcpbojknondcaaDoor
