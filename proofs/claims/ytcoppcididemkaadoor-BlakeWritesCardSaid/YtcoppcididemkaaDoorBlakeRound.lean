/- The call round of package blake. -/
import Derived.Test.YtcoppcididemkaaDoorBlakeMix
namespace Go.Proofs.YtcoppcididemkaaDoor
namespace Blake
open Go.ChangeShapes Go.WideShapes Go.ChangeAt Go.RowKit
open Num Mem Words State Chacha Quiet

structure RoundW (w : World) (g B : Nat) (m s : List Nat) (X : World) : Prop where
  mem : Whole X g 53 (wcells s).toArray
  nums : Whole X B 53 (wcells m).toArray
  laid : Laid X
  grown : w.grownBy X (some g)

theorem laid_of {w w' : World} {g : Nat} (h : Laid w) (hg : 2 ≤ g) (k : w.grownBy w' (some g)) : Laid w' := by
  have e : ∀ b, b < 2 → w'.heap[b]? = w.heap[b]? := fun b hb => k.block b (by have := h.size; omega) (by simp; omega)
  exact ⟨fun i hi => by rw [← h.eight i hi]; simp only [World.cell?, e 0 (by omega)], fun i hi => by rw [← h.orders i hi]; simp only [World.cell?, e 1 (by omega)], Nat.le_trans h.size k.size⟩

theorem laid_alloc {w : World} (h : Laid w) (o : Obj) : Laid (w.alloc o) := by
  have e : ∀ b, b < 2 → (w.alloc o).heap[b]? = w.heap[b]? := fun b hb => Below.heap_alloc w o b (by have := h.size; omega)
  exact ⟨fun i hi => by rw [← h.eight i hi]; simp only [World.cell?, e 0 (by omega)], fun i hi => by rw [← h.orders i hi]; simp only [World.cell?, e 1 (by omega)], Nat.le_trans h.size (Below.alloc (Below.refl w.heap.size w) (Nat.le_refl _) o).size⟩
theorem grown_alloc (w : World) (g : Nat) (o : Obj) : w.grownBy (w.alloc o) (some g) := grown_below (Below.alloc (Below.refl w.heap.size w) (Nat.le_refl _) o)
theorem whole_grown {w w' : World} {g B : Nat} {t : TypeId} {cs : Array Value} (h : Whole w B t cs) (k : w.grownBy w' (some g)) (hne : B ≠ g) : Whole w' B t cs := (k.block B h.lt (by simpa using hne)).trans h
theorem wrap_small (z : Int) (e : Nat) (h : z = (e : Int)) (h2 : (e : Int) < 9223372036854775808) : IntKind.i64.wrap z = (e : Int) := by
  subst h
  rw [IntKind.wrap_i64]
  omega

theorem slant_fact1 (k e : Nat) (hk : k < 4) (he : e = 4 + (k + 1) % 4) : ∃ p r : Nat, IntKind.i64.wrap ((k : Int) + 1) = (p : Int) ∧ (p : Int).tmod 4 = (r : Int) ∧ IntKind.i64.wrap (r : Int) = (r : Int) ∧ IntKind.i64.wrap (4 + (r : Int)) = (e : Int) ∧ e < 16 := by
  refine ⟨k + 1, (k + 1) % 4, wrap_small _ _ (by omega) (by omega), ?_, wrap_small _ _ rfl (by omega), wrap_small _ _ (by omega) (by omega), by omega⟩
  rw [Int.tmod_eq_emod_of_nonneg (by omega)]
  omega
theorem slant_fact2 (k e : Nat) (hk : k < 4) (he : e = 8 + (k + 2) % 4) : ∃ p r : Nat, IntKind.i64.wrap ((k : Int) + 2) = (p : Int) ∧ (p : Int).tmod 4 = (r : Int) ∧ IntKind.i64.wrap (r : Int) = (r : Int) ∧ IntKind.i64.wrap (8 + (r : Int)) = (e : Int) ∧ e < 16 := by
  refine ⟨k + 2, (k + 2) % 4, wrap_small _ _ (by omega) (by omega), ?_, wrap_small _ _ rfl (by omega), wrap_small _ _ (by omega) (by omega), by omega⟩
  rw [Int.tmod_eq_emod_of_nonneg (by omega)]
  omega
theorem slant_fact3 (k e : Nat) (hk : k < 4) (he : e = 12 + (k + 3) % 4) : ∃ p r : Nat, IntKind.i64.wrap ((k : Int) + 3) = (p : Int) ∧ (p : Int).tmod 4 = (r : Int) ∧ IntKind.i64.wrap (r : Int) = (r : Int) ∧ IntKind.i64.wrap (12 + (r : Int)) = (e : Int) ∧ e < 16 := by
  refine ⟨k + 3, (k + 3) % 4, wrap_small _ _ (by omega) (by omega), ?_, wrap_small _ _ rfl (by omega), wrap_small _ _ (by omega) (by omega), by omega⟩
  rw [Int.tmod_eq_emod_of_nonneg (by omega)]
  omega

set_option maxRecDepth 100000 in
set_option maxHeartbeats 4000000 in
theorem round_any (g n : Nat) (s m : List Nat) (hl : s.length = 16) (hf : Fits s) (hm : m.length = 16) (hn : n < 10) (hg : 2 ≤ g) (w : World) (hL : Laid w) (hw : Whole w g 53 (wcells s).toArray) :
    Calls Tryd.prog 23 #[.pointer (some ⟨g, 0, none⟩), .int .i64 n, .agg (wcells m).toArray] w fun e w' => e = .returned (.tuple #[]) ∧ Whole w' g 53 (wcells (roundL n m s)).toArray ∧ w.grownBy w' (some g) := by
  have i10 : (n : Int) < 10 := by omega
  have hgl := hw.lt
  have HW := Lib.hid hw
  have HL := Lib.hid hl
  have HM := Lib.hid hm
  have HF := Lib.hid hf
  have HA := Lib.hid hL
  clear hw hl hf hL hm
  go_enter Tryd.func23, Tryd.ntmps23
  go_wp2_with fail
  refine cut_world (fun W => RoundW w g w.heap.size m s W) ⟨HW.out.alloc _, Whole.new _ _ _, laid_alloc HA.out _, grown_alloc w g _⟩ ?_
  rintro W hr
  have HR := Lib.hid hr
  clear hr
  generalize w.heap.size = B at HR hgl ⊢
  have HB := Lib.hid (show B ≠ g by omega)
  clear hgl HW HA
  go_loopw [8] (fun i wr => ∃ k : Nat, k ≤ 4 ∧ i = .int .i64 k ∧ RoundW w g B m (upto (colL n m) s k) wr) (fun i _ => 4 - (intOf i).toNat)
  case atStart => exact ⟨0, by omega, rfl, HR.out⟩
  case round =>
    obtain ⟨k, hk, rfl, hr⟩ := hrel
    by_cases hlt : k < 4
    · have hlt4 : (k : Int) < 4 := by omega
      have HR2 := Lib.hid hr
      obtain ⟨e1, he1⟩ : ∃ e, e = 2 * k := ⟨_, rfl⟩
      obtain ⟨e2, he2⟩ : ∃ e, e = 2 * k + 1 := ⟨_, rfl⟩
      obtain ⟨k4, hk4⟩ : ∃ e, e = 4 + k := ⟨_, rfl⟩
      obtain ⟨k8, hk8⟩ : ∃ e, e = 8 + k := ⟨_, rfl⟩
      obtain ⟨k12, hk12⟩ : ∃ e, e = 12 + k := ⟨_, rfl⟩
      have l1 : (e1 : Int) < 16 := by omega
      have l2 : (e2 : Int) < 16 := by omega
      have b1 : n * 16 + e1 < 160 := by omega
      have b2 : n * 16 + e2 < 160 := by omega
      have HC := Lib.hid (show colL n m (upto (colL n m) s k) k = mixL (upto (colL n m) s k) k (4 + k) (8 + k) (12 + k) (m.getD (orders.getD (n * 16 + 2 * k) 0) 0) (m.getD (orders.getD (n * 16 + (2 * k + 1)) 0) 0) from rfl)
      rw [← he2, ← he1, ← hk4, ← hk8, ← hk12] at HC
      have w1 := wrap_small (2 * (k : Int)) e1 (by omega) (by omega)
      have w2 := wrap_small ((e1 : Int) + 1) e2 (by omega) (by omega)
      have w4 := wrap_small (4 + (k : Int)) k4 (by omega) (by omega)
      have w8 := wrap_small (8 + (k : Int)) k8 (by omega) (by omega)
      have w12 := wrap_small (12 + (k : Int)) k12 (by omega) (by omega)
      have a1 := hr.laid.orders (n * 16 + e1) b1
      have o1 := orders_lt (n * 16 + e1) b1
      have c1 := hr.nums.cell (orders.getD (n * 16 + e1) 0)
      have a2 := hr.laid.orders (n * 16 + e2) b2
      have o2 := orders_lt (n * 16 + e2) b2
      have c2 := hr.nums.cell (orders.getD (n * 16 + e2) 0)
      rw [List.getElem?_toArray, wcells_get _ _ (by rw [HM.out]; omega)] at c1 c2
      have HK := Lib.hid (show k4 < 16 ∧ k8 < 16 ∧ k12 < 16 from by omega)
      clear he1 he2 hk4 hk8 hk12 hr
      generalize orders.getD (n * 16 + e1) 0 = p at *
      generalize orders.getD (n * 16 + e2) 0 = q at *
      generalize m.getD p 0 = x at *
      generalize m.getD q 0 = y at *
      have op : (p : Int) < 16 := by omega
      have oq : (q : Int) < 16 := by omega
      go_wp2_with fail
      refine wp_region_still_tail 25 (by kernel_rfl) (by kernel_rfl) ?_
      simp only [List.take_succ_cons, List.take_zero, List.drop_succ_cons, List.drop_zero]
      repeat still_step
      refine wpStill_nil ?_
      change wpList _ _ _ _ _ wr.drew
      go_wp2_with fail
      refine (mix_any g k k4 k8 k12 x y _ (by rw [upto_col_length]; exact HL.out) (upto_col_fits n m HF.out k) (Nat.lt_of_lt_of_le hlt (by decide)) HK.out.1 HK.out.2.1 HK.out.2.2 _ HR2.out.mem.drew).mono ?_
      rintro e w1 ⟨rfl, q1, g1⟩
      rw [← HC.out] at q1
      have g2 : wr.grownBy w1 (some g) := grown_trans (grown_drewN wr g 1) g1
      have HN := Lib.hid (show RoundW w g B m (upto (colL n m) s (k + 1)) w1 from ⟨q1, whole_grown HR2.out.nums g2 HB.out, laid_of HR2.out.laid hg g2, grown_trans HR2.out.grown g2⟩)
      have wk := wrap_small ((k : Int) + 1) (k + 1) (by omega) (by omega)
      clear b1 b2
      clear q1 g1 g2 HR2 HC a1 a2 c1 c2
      go_wp2_with fail
      exact ⟨⟨k + 1, by omega, by simp, HN.out⟩, by simp [intOf]; omega⟩
    · have hnl : ¬ (k : Int) < 4 := by omega
      obtain rfl : k = 4 := by omega
      clear HR
      have HR := Lib.hid hr
      have HL2 := Lib.hid (show (upto (colL n m) s 4).length = 16 by rw [upto_col_length]; exact HL.out)
      have HF2 := Lib.hid (upto_col_fits n m HF.out 4)
      have HS := Lib.hid (show roundL n m s = upto (slantL n m) (upto (colL n m) s 4) 4 from rfl)
      clear hr hlt hnl hk
      rw [show ((4 : Nat) : Int) = (4 : Int) from rfl]
      generalize upto (colL n m) s 4 = s2 at HR HL2 HF2 HS
      go_wp2_with fail
      go_loopw [38] (fun i wr => ∃ k : Nat, k ≤ 4 ∧ i = .int .i64 k ∧ RoundW w g B m (upto (slantL n m) s2 k) wr) (fun i _ => 4 - (intOf i).toNat)
      case atStart => exact ⟨0, by omega, rfl, HR.out⟩
      case round =>
        obtain ⟨k, hk, rfl, hr⟩ := hrel
        by_cases hlt : k < 4
        · have hlt4 : (k : Int) < 4 := by omega
          have HR2 := Lib.hid hr
          obtain ⟨e1, he1⟩ : ∃ e, e = 8 + 2 * k := ⟨_, rfl⟩
          obtain ⟨e2, he2⟩ : ∃ e, e = 9 + 2 * k := ⟨_, rfl⟩
          obtain ⟨k4, hk4⟩ : ∃ e, e = 4 + (k + 1) % 4 := ⟨_, rfl⟩
          obtain ⟨k8, hk8⟩ : ∃ e, e = 8 + (k + 2) % 4 := ⟨_, rfl⟩
          obtain ⟨k12, hk12⟩ : ∃ e, e = 12 + (k + 3) % 4 := ⟨_, rfl⟩
          have l1 : (e1 : Int) < 16 := by omega
          have l2 : (e2 : Int) < 16 := by omega
          have b1 : n * 16 + e1 < 160 := by omega
          have b2 : n * 16 + e2 < 160 := by omega
          have HC := Lib.hid (show slantL n m (upto (slantL n m) s2 k) k = mixL (upto (slantL n m) s2 k) k (4 + (k + 1) % 4) (8 + (k + 2) % 4) (12 + (k + 3) % 4) (m.getD (orders.getD (n * 16 + (8 + 2 * k)) 0) 0) (m.getD (orders.getD (n * 16 + (9 + 2 * k)) 0) 0) from rfl)
          rw [← he2, ← he1, ← hk4, ← hk8, ← hk12] at HC
          obtain ⟨d, hd⟩ : ∃ e, e = 2 * k := ⟨_, rfl⟩
          have w0 := wrap_small (2 * (k : Int)) d (by omega) (by omega)
          have w1 := wrap_small (8 + (d : Int)) e1 (by omega) (by omega)
          have w2 := wrap_small (9 + (d : Int)) e2 (by omega) (by omega)
          obtain ⟨p1, r1, wp1, wr1, wv1, w4, wb1⟩ := slant_fact1 k k4 hlt hk4
          obtain ⟨p2, r2, wp2, wr2, wv2, w8, wb2⟩ := slant_fact2 k k8 hlt hk8
          obtain ⟨p3, r3, wp3, wr3, wv3, w12, wb3⟩ := slant_fact3 k k12 hlt hk12
          have a1 := hr.laid.orders (n * 16 + e1) b1
          have o1 := orders_lt (n * 16 + e1) b1
          have c1 := hr.nums.cell (orders.getD (n * 16 + e1) 0)
          have a2 := hr.laid.orders (n * 16 + e2) b2
          have o2 := orders_lt (n * 16 + e2) b2
          have c2 := hr.nums.cell (orders.getD (n * 16 + e2) 0)
          rw [List.getElem?_toArray, wcells_get _ _ (by rw [HM.out]; omega)] at c1 c2
          have HK := Lib.hid (show k4 < 16 ∧ k8 < 16 ∧ k12 < 16 from ⟨wb1, wb2, wb3⟩)
          clear he1 he2 hk4 hk8 hk12 hr hd wb1 wb2 wb3
          generalize orders.getD (n * 16 + e1) 0 = p at *
          generalize orders.getD (n * 16 + e2) 0 = q at *
          generalize m.getD p 0 = x at *
          generalize m.getD q 0 = y at *
          have op : (p : Int) < 16 := by omega
          have oq : (q : Int) < 16 := by omega
          go_wp2_with fail
          refine wp_region_still_tail 32 (by kernel_rfl) (by kernel_rfl) ?_
          simp only [List.take_succ_cons, List.take_zero, List.drop_succ_cons, List.drop_zero]
          repeat still_step
          refine wpStill_nil ?_
          change wpList _ _ _ _ _ wr.drew
          go_wp2_with fail
          refine (mix_any g k k4 k8 k12 x y _ (by rw [upto_slant_length]; exact HL2.out) (upto_slant_fits n m HF2.out k) (Nat.lt_of_lt_of_le hlt (by decide)) HK.out.1 HK.out.2.1 HK.out.2.2 _ HR2.out.mem.drew).mono ?_
          rintro e w1 ⟨rfl, q1, g1⟩
          rw [← HC.out] at q1
          have g2 : wr.grownBy w1 (some g) := grown_trans (grown_drewN wr g 1) g1
          have HN := Lib.hid (show RoundW w g B m (upto (slantL n m) s2 (k + 1)) w1 from ⟨q1, whole_grown HR2.out.nums g2 HB.out, laid_of HR2.out.laid hg g2, grown_trans HR2.out.grown g2⟩)
          clear wp1
          have wk := wrap_small ((k : Int) + 1) (k + 1) (by omega) (by omega)
          clear b1 b2
          clear q1 g1 g2 HR2 HC a1 a2 c1 c2
          go_wp2_with fail
          exact ⟨⟨k + 1, by omega, by simp, HN.out⟩, by simp [intOf]; omega⟩
        · have hnl : ¬ (k : Int) < 4 := by omega
          obtain rfl : k = 4 := by omega
          clear hlt hnl hk
          go_wp2_with fail
          go_end0
          exact ⟨rfl, by rw [HS.out]; exact hr.mem, hr.grown⟩

end Blake
end Go.Proofs.YtcoppcididemkaaDoor
