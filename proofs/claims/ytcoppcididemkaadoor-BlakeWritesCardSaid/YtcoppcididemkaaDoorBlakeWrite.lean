/- The call Write of package blake. -/
import Derived.Test.YtcoppcididemkaaDoorBlakeNew
namespace Go.Proofs.YtcoppcididemkaaDoor
namespace Blake
open Go.ChangeShapes Go.WideShapes Go.ChangeAt Go.RowKit
open Num Mem Words State Chacha Quiet

theorem HashOf.congr {w : World} {g size : Nat} {S0 : List Nat} {t t' : Nat → Nat} {N : Nat} (h : HashOf w g size S0 t N) (e : ∀ i, i < N → t i = t' i) : HashOf w g size S0 t' N := by
  unfold HashOf at h ⊢
  rw [← blocks_congr (S := S0) (f := t) (g := t') (ahead N) (fun i hi => e i (by unfold ahead at hi; omega))]
  refine HashAt.congr h fun i _ => ?_
  by_cases l : i < N - 64 * ahead N
  · rw [if_pos l, if_pos l, e _ (by omega)]
  · rw [if_neg l, if_neg l]

/-- a hash that has room -/
def OpenAt (w : World) (g size : Nat) (S0 : List Nat) (t : Nat → Nat) (M : Nat) : Prop :=
  HashAt w g size (blocks S0 t (M / 64)) (fun i => if i < M % 64 then t (64 * (M / 64) + i) else 0) (M % 64) M

theorem open_of {w : World} {g size : Nat} {S0 : List Nat} {t : Nat → Nat} {M : Nat} (h : HashOf w g size S0 t M) (hF : M - 64 * ahead M ≠ 64) : OpenAt w g size S0 t M := by
  unfold HashOf at h
  unfold OpenAt
  have e : ahead M = M / 64 := by unfold ahead at hF ⊢; omega
  have e2 : M - 64 * (M / 64) = M % 64 := by omega
  rw [e, e2] at h
  exact h
theorem full_block {S0 : List Nat} {t : Nat → Nat} {M : Nat} (hF : M - 64 * ahead M = 64) : takeL (blocks S0 t (ahead M)) (numsOf (fun i => if i < M - 64 * ahead M then t (64 * ahead M + i) else 0) 0) M false = blocks S0 t (M / 64) ∧ M % 64 = 0 := by
  have e : M / 64 = ahead M + 1 := by unfold ahead at hF ⊢; omega
  refine ⟨?_, by unfold ahead at hF; omega⟩
  rw [e, show blocks S0 t (ahead M + 1) = takeL (blocks S0 t (ahead M)) (numsOf t (64 * ahead M)) (64 * (ahead M + 1)) false from rfl, show 64 * (ahead M + 1) = M by unfold ahead at hF ⊢; omega]
  rw [numsOf_congr (f := fun i => if i < M - 64 * ahead M then t (64 * ahead M + i) else 0) (g := t) (p := 0) (q := 64 * ahead M) (fun i hi => by
    rw [Nat.zero_add, if_pos (by omega)])]
theorem hash_of_open {w : World} {g size : Nat} {S0 : List Nat} {t : Nat → Nat} {M n : Nat} (hn : 1 ≤ n) (hr : M % 64 + n ≤ 64) (h : HashAt w g size (blocks S0 t (M / 64)) (fun i => if i < M % 64 + n then t (64 * (M / 64) + i) else 0) (M % 64 + n) (M + n)) : HashOf w g size S0 t (M + n) := by
  unfold HashOf
  have e : ahead (M + n) = M / 64 := by unfold ahead; omega
  rw [e, show M + n - 64 * (M / 64) = M % 64 + n by omega]
  exact h

/-- where the rest of a text lies -/
def p0 (A : Option Addr) (ab ao m p : Nat) : Prop := p < m → A = some ⟨ab, ao + p, none⟩

def lenOf : Value → Nat
  | .slice _ n _ => n
  | _ => 0

/-- the world while a hash is written -/
structure WriteW (w : World) (g size : Nat) (S0 : List Nat) (t : Nat → Nat) (M : Nat) (X : World) : Prop where
  hash : HashOf X g size S0 t M
  laid : Laid X
  grown : w.grownBy X (some g)
structure OpenW (w : World) (g size : Nat) (S0 : List Nat) (t : Nat → Nat) (M : Nat) (X : World) : Prop where
  hash : OpenAt X g size S0 t M
  laid : Laid X
  grown : w.grownBy X (some g)
theorem grown_cell {w w' : World} {g : Nat} (h : w.grownBy w' (some g)) (b o : Nat) (hb : b < w.heap.size) (hg : b ≠ g) : w'.cell? ⟨b, o, none⟩ = w.cell? ⟨b, o, none⟩ := by
  simp only [World.cell?, h.block b hb (by simpa using hg)]

set_option maxRecDepth 100000 in
set_option maxHeartbeats 4000000 in
theorem write_any (g size N : Nat) (S0 : List Nat) (t f : Nat → Nat) (A : Option Addr) (m c : Nat) (hS : S0.length = 8) (hF0 : Fits S0) (ht : ∀ i, t i < 256) (hf : ∀ i, f i < 256) (hN : N + m ≤ 1000000000) (hmc : m ≤ c) (hg : 2 ≤ g) (hsz : size ≠ 0) (w : World) (hL : Laid w) (hw : HashOf w g size S0 t N) (hA : Rd w A m f) (hAg : 0 < m → ∀ b o, A = some ⟨b, o, none⟩ → b ≠ g) :
    Calls Tryd.prog 7 #[.pointer (some ⟨g, 0, none⟩), .slice A m c] w fun e w' => e = .returned (.int .i64 0) ∧ HashOf w' g size S0 (fun i => if i < N then t i else f (i - N)) (N + m) ∧ w.grownBy w' (some g) := by
  obtain ⟨T, hT⟩ : ∃ T : Nat → Nat, T = fun i => if i < N then t i else f (i - N) := ⟨_, rfl⟩
  have HT1 := Lib.hid (show HashOf w g size S0 T N from hw.congr fun i hi => by rw [hT]; exact (if_pos hi).symm)
  have HT2 := Lib.hid (show ∀ i, T (N + i) = f i from fun i => by rw [hT]; show (if N + i < N then t (N + i) else f (N + i - N)) = f i; rw [if_neg (by omega), Nat.add_sub_cancel_left])
  have HT3 := Lib.hid (show ∀ i, T i < 256 from fun i => by
    rw [hT]
    show (if i < N then t i else f (i - N)) < 256
    split
    · exact ht i
    · exact hf _)
  rw [← hT]
  obtain ⟨ab, ao, hAe, hab, hne, hcc⟩ : ∃ b o, (0 < m → A = some ⟨b, o, none⟩) ∧ (0 < m → b < w.heap.size) ∧ b ≠ g ∧ ∀ i, i < m → w.cell? ⟨b, o + i, none⟩ = some (.int .u8 (f i : Nat)) := by
    rcases Nat.eq_zero_or_pos m with h | h0
    · exact ⟨0, 0, fun k => by omega, fun k => by omega, by omega, fun i hi => by omega⟩
    · rcases hA with h | ⟨b, o, h1, h2, h3⟩
      · omega
      · exact ⟨b, o, fun _ => h1, fun _ => h2, hAg h0 b o h1, h3⟩
  have HCC := Lib.hid hcc
  have HAB := Lib.hid (And.intro hab hne)
  have HS := Lib.hid hS
  have HF := Lib.hid hF0
  have HC := Lib.hid (show HashAt w g size (blocks S0 T (ahead N)) (fun i => if i < N - 64 * ahead N then T (64 * ahead N + i) else 0) (N - 64 * ahead N) N from HT1.out)
  have hc0 := HC.out.cell_size
  have HW0 := Lib.hid (show WriteW w g size S0 T N w from ⟨HT1.out, hL, World.grownBy.refl _ _⟩)
  have HA0 := Lib.hid (show p0 A ab ao m 0 from fun h => by rw [Nat.add_zero]; exact hAe h)
  have HM := Lib.hid hmc
  clear hcc hab hne hS hF0 hL hw hA hAg hT HT1 HC hAe hmc ht hf
  go_enter Tryd.func7, Tryd.ntmps7
  go_wp2_with fail
  refine (none_any g size w hc0 false ⟨fun e => (by cases e), fun e => absurd e hsz⟩).mono ?_
  rintro e w1 ⟨rfl, rfl⟩
  clear hc0
  go_wp2_with fail
  go_loopw [1] (fun s wr => ∃ (p : Nat) (A' : Option Addr) (c' : Nat), s = .slice A' (m - p) c' ∧ p ≤ m ∧ m - p ≤ c' ∧ p0 A' ab ao m p ∧ WriteW w g size S0 T (N + p) wr) (fun s _ => lenOf s)
  case atStart => exact ⟨0, A, c, rfl, Nat.zero_le _, HM.out, HA0.out, HW0.out⟩
  case round =>
    obtain ⟨p, A', c', rfl, hpm, hpc, hA', hr⟩ := hrel
    by_cases hlt : p < m
    · obtain rfl := hA' hlt
      have hl0 : (0 : Int) < ((m - p : Nat) : Int) := by omega
      have HR := Lib.hid hr
      have HC := Lib.hid (show HashAt wr g size (blocks S0 T (ahead (N + p))) (fun i => if i < N + p - 64 * ahead (N + p) then T (64 * ahead (N + p) + i) else 0) (N + p - 64 * ahead (N + p)) (N + p) from hr.hash)
      have hbl : (blocks S0 T (ahead (N + p))).length = 8 := blocks_length HS.out T _
      have c73 := HC.out.cell_filled hbl
      have HBL := Lib.hid hbl
      have hah : ahead (N + p) = (N + p - 1) / 64 := rfl
      have HMp := Lib.hid (show N + p < 1000000000 by omega)
      clear hr hbl HW0
      by_cases h64 : N + p - 64 * ahead (N + p) = 64
      · have HFB := Lib.hid (full_block (S0 := S0) (t := T) h64)
        have HFT := Lib.hid (blocks_fits HF.out T (ahead (N + p)) (by omega))
        have HBT := Lib.hid (show ∀ i, (fun i => if i < N + p - 64 * ahead (N + p) then T (64 * ahead (N + p) + i) else 0) i < 256 from fun i => by
          show (if i < N + p - 64 * ahead (N + p) then T (64 * ahead (N + p) + i) else 0) < 256
          split
          · exact HT3.out _
          · omega)
        rw [h64] at c73
        have HH := Lib.hid h64
        clear h64 hah
        go_wp2_with fail
        refine (take_any g size (N + p - 64 * ahead (N + p)) (N + p) (blocks S0 T (ahead (N + p))) _ false HBL.out HFT.out HBT.out (by omega) hg _ HR.out.laid HC.out).mono ?_
        rintro e w3 ⟨rfl, h3, g3⟩
        have HO := Lib.hid (show OpenW w g size S0 T (N + p) w3 from by
          refine ⟨?_, laid_of HR.out.laid hg g3, grown_trans HR.out.grown g3⟩
          unfold OpenAt
          rw [HFB.out.1] at h3
          rw [HFB.out.2]
          refine HashAt.congr h3 fun i _ => ?_
          rw [if_neg (by omega)])
        clear h3 g3 HFB HFT HBT HC HR HBL c73 HH
        go_upto_region 6 with fail
        refine cut_world (fun X => OpenW w g size S0 T (N + p) X) HO.out ?_
        clear HO
        rintro W2 hr
        obtain ⟨r, q, hr64, hMrq, hO, hNX⟩ : ∃ r q : Nat, r < 64 ∧ N + p = 64 * q + r ∧ HashAt W2 g size (blocks S0 T q) (fun i => if i < r then T (64 * q + i) else 0) r (N + p) ∧ ∀ n X, 1 ≤ n → r + n ≤ 64 → HashAt X g size (blocks S0 T q) (fun i => if i < r + n then T (64 * q + i) else 0) (r + n) (N + p + n) → HashOf X g size S0 T (N + p + n) :=
          ⟨(N + p) % 64, (N + p) / 64, Nat.mod_lt _ (by omega), by omega, hr.hash, fun n X h1 h2 h3 => hash_of_open h1 h2 h3⟩
        have HTM := Lib.hid (show ∀ i, r ≤ i → T (64 * q + i) = f (p + (i - r)) from fun i hi => by
          rw [← HT2.out (p + (i - r))]
          congr 1
          omega)
        have hbl : (blocks S0 T q).length = 8 := blocks_length HS.out T _
        generalize blocks S0 T q = S at hO hNX hbl
        obtain ⟨n, hn, hn1, hn2, hn3⟩ : ∃ n, n = Nat.min (m - p) (64 - r) ∧ 1 ≤ n ∧ n ≤ m - p ∧ r + n ≤ 64 := ⟨_, rfl, by show 1 ≤ min (m - p) (64 - r); omega, Nat.min_le_left _ _, by have : Nat.min (m - p) (64 - r) ≤ 64 - r := Nat.min_le_right _ _; omega⟩
        have HSRC := Lib.hid (rd_src (w := W2) (b := ab) (off := ao + p) (n := n) (f := fun i => f (p + i)) (fun i hi => by
          rw [grown_cell hr.grown ab _ (HAB.out.1 (by omega)) HAB.out.2, Nat.add_assoc]
          exact HCC.out (p + i) (by omega)))
        have HO := Lib.hid hO
        have HNX := Lib.hid hNX
        have HLD := Lib.hid hr.laid
        have HGR := Lib.hid hr.grown
        have HBL := Lib.hid hbl
        have HN := Lib.hid hn
        have c73 := hO.cell_filled hbl
        have hsp := hash_splice hbl size (fun i => if i < r then T (64 * q + i) else 0) r (N + p) r n (fun i => f (p + i)) (by omega)
        have HSP := Lib.hid hsp
        have ri : (r : Int) ≤ 64 := by omega
        have r64 : ¬ 64 = r := by omega
        have hMq := Lib.hid hMrq
        have hnI : 0 ≤ (n : Int) := by omega
        clear hr hO hNX hbl hn hMrq hsp
        go_wp2_with fail
        refine wp_region_still_tail 9 (by kernel_rfl) (by kernel_rfl) ?_
        simp only [List.take_succ_cons, List.take_zero, List.drop_succ_cons, List.drop_zero]
        repeat still_step
        refine wpStill_nil ?_
        change wpList _ _ _ _ _ W2.drew
        refine wpList_copy rfl (.tmp 25) (.tmp 26) 22 22 rfl 5 rfl (by kernel_rfl) g (9 + r) (64 - r) (64 - r) ⟨ab, ao + p, none⟩ (m - p) c' rfl rfl (hashCells size S (fun i => if i < r then T (64 * q + i) else 0) r (N + p)) 41 HO.out.drew (byteCells (fun i => f (p + i)) n) (by rw [byteCells_length]; exact HN.out) HSRC.out (by rw [byteCells_length, hashCells_length HBL.out]; omega) (bytes_each _ _) ?_
        intro w8 hg8 hb8
        rw [byteCells_length]
        have q8 := hg8.out
        rw [HSP.out] at q8
        have Q8 := Lib.hid (show HashAt w8 g size S (fun i => if i < r + n then T (64 * q + i) else 0) r (N + p) from HashAt.congr (b := fun i => if r ≤ i ∧ i < r + n then f (p + (i - r)) else if i < r then T (64 * q + i) else 0) q8 fun i hi => by
          by_cases l : r ≤ i ∧ i < r + n
          · rw [if_pos l, if_pos l.2, HTM.out i l.1]
          · rw [if_neg l]
            by_cases l2 : i < r
            · rw [if_pos l2, if_pos (by omega)]
            · rw [if_neg l2, if_neg (by omega)])
        have hd2 : W2.grownBy w8 (some g) := grown_trans (grown_drewN W2 g 1) hb8
        have HLD8 := Lib.hid (laid_of HLD.out hg hd2)
        have HGR8 := Lib.hid (grown_trans HGR.out hd2)
        have c73 := Q8.out.cell_filled HBL.out
        have f73 := Q8.out.free 73
        have c74 := Q8.out.cell_count HBL.out
        have f74 := Q8.out.free 74
        have Q9 := Lib.hid (Q8.out.set_filled HBL.out (r + n))
        have Q10 := Lib.hid (HNX.out n _ hn1 hn3 (Q9.out.set_count HBL.out (N + p + n)))
        have g10 : w8.grownBy ((w8.setCell ⟨g, 73, none⟩ (.int .i64 (r + n : Nat))).setCell ⟨g, 74, none⟩ (.int .u64 (N + p + n : Nat))) (some g) := grown_trans (grown_set w8 g 73 _) (grown_set _ g 74 _)
        have HW := Lib.hid (show WriteW w g size S0 T (N + p + n) ((w8.setCell ⟨g, 73, none⟩ (.int .i64 (r + n : Nat))).setCell ⟨g, 74, none⟩ (.int .u64 (N + p + n : Nat))) from ⟨Q10.out, laid_of HLD8.out hg g10, grown_trans HGR8.out g10⟩)
        clear hg8 hb8 q8 hd2 Q8 Q9 Q10 g10 HLD HGR HLD8 HGR8 HNX HSP HSRC HO HTM
        have nw : IntKind.u64.wrap (n : Int) = (n : Int) := by
          rw [IntKind.wrap_u64]
          omega
        have e1 : (r : Int) + (n : Int) = ((r + n : Nat) : Int) := by omega
        have e2 : ((N + p : Nat) : Int) + (n : Int) = ((N + p + n : Nat) : Int) := by omega
        have E1 := Lib.hid e1
        have E2 := Lib.hid e2
        have b1 : (r : Int) + (n : Int) ≤ 64 := by omega
        have b2 : ((N + p : Nat) : Int) + (n : Int) ≤ 1000000000 := by omega
        clear e1 e2 ri r64
        go_upto_region 9 with fail
        refine cut_world (fun X => WriteW w g size S0 T (N + p + n) X) HW.out ?_
        clear HW c73 f73 c74 f74 nw b1 b2 E1 E2 hnI
        rintro W9 hr
        have HR := Lib.hid hr
        clear hr
        have hle : n ≤ c' := by omega
        by_cases hcap : c' = n
        · obtain rfl : n = m - p := by omega
          subst hcap
          go_wp2_with fail
          go_roundw
          case rel => exact ⟨m, _, 0, by rw [Nat.sub_self], Nat.le_refl _, by omega, fun h => absurd h (Nat.lt_irrefl _), by rw [show N + m = N + p + (m - p) by omega]; exact HR.out⟩
          case measure => simp [lenOf]; omega
        · have hcap2 : ¬ n = c' := fun h => hcap h.symm
          go_wp2_with fail
          go_roundw
          case rel => exact ⟨p + n, _, c' - n, by rw [Nat.sub_add_eq], by omega, by omega, fun _ => by rw [Nat.add_assoc], by rw [← Nat.add_assoc]; exact HR.out⟩
          case measure => simp [lenOf]; omega
      · have HO := Lib.hid (show OpenW w g size S0 T (N + p) wr from ⟨open_of HR.out.hash h64, HR.out.laid, HR.out.grown⟩)
        have hd : (((N + p - 64 * ahead (N + p) : Nat) : Int) == 64) = false := by
          rw [beq_eq_false_iff_ne]
          omega
        clear HC HR HBL
        generalize N + p - 64 * ahead (N + p) = fl at c73 h64 hd
        clear h64 hah
        go_upto_region 6 with fail
        clear c73 hd
        refine cut_world (fun X => OpenW w g size S0 T (N + p) X) HO.out ?_
        clear HO
        rintro W2 hr
        obtain ⟨r, q, hr64, hMrq, hO, hNX⟩ : ∃ r q : Nat, r < 64 ∧ N + p = 64 * q + r ∧ HashAt W2 g size (blocks S0 T q) (fun i => if i < r then T (64 * q + i) else 0) r (N + p) ∧ ∀ n X, 1 ≤ n → r + n ≤ 64 → HashAt X g size (blocks S0 T q) (fun i => if i < r + n then T (64 * q + i) else 0) (r + n) (N + p + n) → HashOf X g size S0 T (N + p + n) :=
          ⟨(N + p) % 64, (N + p) / 64, Nat.mod_lt _ (by omega), by omega, hr.hash, fun n X h1 h2 h3 => hash_of_open h1 h2 h3⟩
        have HTM := Lib.hid (show ∀ i, r ≤ i → T (64 * q + i) = f (p + (i - r)) from fun i hi => by
          rw [← HT2.out (p + (i - r))]
          congr 1
          omega)
        have hbl : (blocks S0 T q).length = 8 := blocks_length HS.out T _
        generalize blocks S0 T q = S at hO hNX hbl
        obtain ⟨n, hn, hn1, hn2, hn3⟩ : ∃ n, n = Nat.min (m - p) (64 - r) ∧ 1 ≤ n ∧ n ≤ m - p ∧ r + n ≤ 64 := ⟨_, rfl, by show 1 ≤ min (m - p) (64 - r); omega, Nat.min_le_left _ _, by have : Nat.min (m - p) (64 - r) ≤ 64 - r := Nat.min_le_right _ _; omega⟩
        have HSRC := Lib.hid (rd_src (w := W2) (b := ab) (off := ao + p) (n := n) (f := fun i => f (p + i)) (fun i hi => by
          rw [grown_cell hr.grown ab _ (HAB.out.1 (by omega)) HAB.out.2, Nat.add_assoc]
          exact HCC.out (p + i) (by omega)))
        have HO := Lib.hid hO
        have HNX := Lib.hid hNX
        have HLD := Lib.hid hr.laid
        have HGR := Lib.hid hr.grown
        have HBL := Lib.hid hbl
        have HN := Lib.hid hn
        have c73 := hO.cell_filled hbl
        have hsp := hash_splice hbl size (fun i => if i < r then T (64 * q + i) else 0) r (N + p) r n (fun i => f (p + i)) (by omega)
        have HSP := Lib.hid hsp
        have ri : (r : Int) ≤ 64 := by omega
        have r64 : ¬ 64 = r := by omega
        have hMq := Lib.hid hMrq
        have hnI : 0 ≤ (n : Int) := by omega
        clear hr hO hNX hbl hn hMrq hsp
        go_wp2_with fail
        refine wp_region_still_tail 9 (by kernel_rfl) (by kernel_rfl) ?_
        simp only [List.take_succ_cons, List.take_zero, List.drop_succ_cons, List.drop_zero]
        repeat still_step
        refine wpStill_nil ?_
        change wpList _ _ _ _ _ W2.drew
        refine wpList_copy rfl (.tmp 25) (.tmp 26) 22 22 rfl 5 rfl (by kernel_rfl) g (9 + r) (64 - r) (64 - r) ⟨ab, ao + p, none⟩ (m - p) c' rfl rfl (hashCells size S (fun i => if i < r then T (64 * q + i) else 0) r (N + p)) 41 HO.out.drew (byteCells (fun i => f (p + i)) n) (by rw [byteCells_length]; exact HN.out) HSRC.out (by rw [byteCells_length, hashCells_length HBL.out]; omega) (bytes_each _ _) ?_
        intro w8 hg8 hb8
        rw [byteCells_length]
        have q8 := hg8.out
        rw [HSP.out] at q8
        have Q8 := Lib.hid (show HashAt w8 g size S (fun i => if i < r + n then T (64 * q + i) else 0) r (N + p) from HashAt.congr (b := fun i => if r ≤ i ∧ i < r + n then f (p + (i - r)) else if i < r then T (64 * q + i) else 0) q8 fun i hi => by
          by_cases l : r ≤ i ∧ i < r + n
          · rw [if_pos l, if_pos l.2, HTM.out i l.1]
          · rw [if_neg l]
            by_cases l2 : i < r
            · rw [if_pos l2, if_pos (by omega)]
            · rw [if_neg l2, if_neg (by omega)])
        have hd2 : W2.grownBy w8 (some g) := grown_trans (grown_drewN W2 g 1) hb8
        have HLD8 := Lib.hid (laid_of HLD.out hg hd2)
        have HGR8 := Lib.hid (grown_trans HGR.out hd2)
        have c73 := Q8.out.cell_filled HBL.out
        have f73 := Q8.out.free 73
        have c74 := Q8.out.cell_count HBL.out
        have f74 := Q8.out.free 74
        have Q9 := Lib.hid (Q8.out.set_filled HBL.out (r + n))
        have Q10 := Lib.hid (HNX.out n _ hn1 hn3 (Q9.out.set_count HBL.out (N + p + n)))
        have g10 : w8.grownBy ((w8.setCell ⟨g, 73, none⟩ (.int .i64 (r + n : Nat))).setCell ⟨g, 74, none⟩ (.int .u64 (N + p + n : Nat))) (some g) := grown_trans (grown_set w8 g 73 _) (grown_set _ g 74 _)
        have HW := Lib.hid (show WriteW w g size S0 T (N + p + n) ((w8.setCell ⟨g, 73, none⟩ (.int .i64 (r + n : Nat))).setCell ⟨g, 74, none⟩ (.int .u64 (N + p + n : Nat))) from ⟨Q10.out, laid_of HLD8.out hg g10, grown_trans HGR8.out g10⟩)
        clear hg8 hb8 q8 hd2 Q8 Q9 Q10 g10 HLD HGR HLD8 HGR8 HNX HSP HSRC HO HTM
        have nw : IntKind.u64.wrap (n : Int) = (n : Int) := by
          rw [IntKind.wrap_u64]
          omega
        have e1 : (r : Int) + (n : Int) = ((r + n : Nat) : Int) := by omega
        have e2 : ((N + p : Nat) : Int) + (n : Int) = ((N + p + n : Nat) : Int) := by omega
        have E1 := Lib.hid e1
        have E2 := Lib.hid e2
        have b1 : (r : Int) + (n : Int) ≤ 64 := by omega
        have b2 : ((N + p : Nat) : Int) + (n : Int) ≤ 1000000000 := by omega
        clear e1 e2 ri r64
        go_upto_region 9 with fail
        refine cut_world (fun X => WriteW w g size S0 T (N + p + n) X) HW.out ?_
        clear HW c73 f73 c74 f74 nw b1 b2 E1 E2 hnI
        rintro W9 hr
        have HR := Lib.hid hr
        clear hr
        have hle : n ≤ c' := by omega
        by_cases hcap : c' = n
        · obtain rfl : n = m - p := by omega
          subst hcap
          go_wp2_with fail
          go_roundw
          case rel => exact ⟨m, _, 0, by rw [Nat.sub_self], Nat.le_refl _, by omega, fun h => absurd h (Nat.lt_irrefl _), by rw [show N + m = N + p + (m - p) by omega]; exact HR.out⟩
          case measure => simp [lenOf]; omega
        · have hcap2 : ¬ n = c' := fun h => hcap h.symm
          go_wp2_with fail
          go_roundw
          case rel => exact ⟨p + n, _, c' - n, by rw [Nat.sub_add_eq], by omega, by omega, fun _ => by rw [Nat.add_assoc], by rw [← Nat.add_assoc]; exact HR.out⟩
          case measure => simp [lenOf]; omega
    · obtain rfl : p = m := by omega
      have HR := Lib.hid hr
      rw [Nat.sub_self]
      clear hr hA' HW0
      go_wp2_with fail
      go_ret
      exact ⟨rfl, HR.out.hash, HR.out.grown⟩

end Blake
end Go.Proofs.YtcoppcididemkaaDoor
