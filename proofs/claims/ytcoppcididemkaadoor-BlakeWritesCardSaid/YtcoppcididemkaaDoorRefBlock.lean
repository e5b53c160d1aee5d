/- The document's own answers of layer 7 (package aditref07): eight, take. -/
import Derived.Test.YtcoppcididemkaaDoorRefRound
import Derived.Test.YtcoppcididemkaaDoorBlakeTake
import Derived.Test.YtcoppcididemkaaDoorCatB
import Derived.Test.YtcoppcididemkaaDoorQuietB
namespace Go.Proofs.YtcoppcididemkaaDoor
namespace RefB
open Go.ChangeShapes Go.WideShapes Go.ChangeAt Go.RowKit
open Num Mem Words State Blake Ref Chacha Quiet

theorem cells_add {w : World} {g : Nat} {S : List Nat} (h : ∀ i, i < S.length → w.cell? ⟨g, i, none⟩ = some (.int .u32 (S.getD i 0 : Nat))) : ∀ j u, (wcells S)[j]? = some u → w.cell? ((⟨g, 0, none⟩ : Addr).add j) = some u := by
  intro j u hj
  have hjl : j < S.length := by
    have := (List.getElem?_eq_some_iff.1 hj).1
    rwa [wcells_length] at this
  rw [wcells_get S j hjl] at hj
  cases hj
  have e : (⟨g, 0, none⟩ : Addr).add j = ⟨g, j, none⟩ := by unfold Addr.add; split <;> simp_all
  rw [e]
  exact h j hjl
theorem get13' {S : List Nat} (hS : S.length = 8) : (S ++ eight).getD 13 0 = 2600822924 := behind_get hS 5
theorem get14' {S : List Nat} (hS : S.length = 8) : (S ++ eight).getD 14 0 = 528734635 := behind_get hS 6
theorem xor12 (n : Nat) : bits .xor .u32 ((1359893119 : Nat) : Int) ((n : Int) % 4294967296) = ((1359893119 ^^^ (n % 4294967296) : Nat) : Int) := by
  rw [show (n : Int) % 4294967296 = ((n % 4294967296 : Nat) : Int) by omega]
  exact u32_xor_nat _ _ (by omega) (by omega)
theorem xor13 (n : Nat) (hn : n < 18446744073709551616) : bits .xor .u32 ((2600822924 : Nat) : Int) ((n : Int) / 4294967296) = ((2600822924 ^^^ (n / 4294967296) : Nat) : Int) := by
  rw [show (n : Int) / 4294967296 = ((n / 4294967296 : Nat) : Int) by omega]
  exact u32_xor_nat _ _ (by omega) (by omega)
theorem le_from (f : Nat → Nat) (p k : Nat) : le (fun i => f (p + i)) 0 k = le f p k := le_congr k fun i _ => by show f _ = f _; rw [Nat.zero_add]
theorem below_grown {B : Nat} {w x y : World} {g : Nat} (h : Below B w x) (k : x.grownBy y (some g)) (hg : B ≤ g) (hx : B ≤ x.heap.size) : Below B w y :=
  h.trans ⟨k.os, k.tape, k.output, k.size, fun i hi => k.block i (Nat.lt_of_lt_of_le hi hx) (by simp; omega)⟩
theorem OwnW.lower {w : World} {B B' g c : Nat} {s : List Nat} (h : OwnW w B g c s) (hB : B' ≤ B) : OwnW w B' g c s := by
  refine ⟨h.1, ?_⟩
  rcases h.2 with k | ⟨b, cap, cur, e, hg, r⟩
  · exact .inl k
  · exact .inr ⟨b, cap, cur, e, Nat.le_trans hB hg, r⟩
/-- the sum behind a block, as far as k -/
def foldTo (S V : List Nat) (k : Nat) : List Nat := (List.range k).map fun i => S.getD i 0 ^^^ (V.getD i 0 ^^^ V.getD (8 + i) 0)
theorem foldTo_snoc (S V : List Nat) (k : Nat) : wcells (foldTo S V k) ++ [.int .u32 ((S.getD k 0 ^^^ V.getD k 0 ^^^ V.getD (k + 8) 0 : Nat) : Int)] = wcells (foldTo S V (k + 1)) := by
  unfold foldTo
  rw [List.range_succ, List.map_append, wcells_append, Nat.xor_assoc, Nat.add_comm k 8]
  rfl
theorem foldTo_own {w : World} {B gl c : Nat} {S V : List Nat} (h : w.ownsRow B 36 1 (.slice (some ⟨gl, 0, none⟩) 8 c) 8 (wcells (foldTo S V 8))) : OwnW w B gl c (foldL S V) := by
  have e : (foldL S V).length = 8 := by simp [foldL]
  unfold OwnW
  rw [e]
  exact h
theorem xor_fold {S V : List Nat} (hS : Fits S) (hV : Fits V) (k : Nat) : bits .xor .u32 ((S.getD k 0 : Nat) : Int) ((V.getD k 0 : Nat) : Int) = ((S.getD k 0 ^^^ V.getD k 0 : Nat) : Int) ∧
    bits .xor .u32 ((S.getD k 0 ^^^ V.getD k 0 : Nat) : Int) ((V.getD (k + 8) 0 : Nat) : Int) = ((S.getD k 0 ^^^ V.getD k 0 ^^^ V.getD (k + 8) 0 : Nat) : Int) :=
  ⟨u32_xor_nat _ _ (hS k) (hV k), u32_xor_nat _ _ (Nat.xor_lt_two_pow (n := 32) (hS k) (hV k)) (hV (k + 8))⟩
/-- the numbers of a block, as far as k -/
def numsTo (f : Nat → Nat) (k : Nat) : List Nat := (List.range k).map fun i => le f (0 + 4 * i) 4
theorem numsTo_all (f : Nat → Nat) : numsTo f 16 = numsOf f 0 := rfl
theorem numsTo_snoc (f : Nat → Nat) (k : Nat) : wcells (numsTo f k) ++ [.int .u32 ((le f (4 * k) 4 : Nat) : Int)] = wcells (numsTo f (k + 1)) := by
  unfold numsTo
  rw [List.range_succ, List.map_append, wcells_append]
  simp [wcells]
theorem numsTo_length (f : Nat → Nat) (k : Nat) : (numsTo f k).length = k := by simp [numsTo]
theorem numsTo_fits {f : Nat → Nat} (h : ∀ i, f i < 256) (k : Nat) : Fits (numsTo f k) := by
  refine fits_of fun x hx => ?_
  obtain ⟨i, _, rfl⟩ := List.mem_map.1 hx
  exact le_lt h _ 4
set_option maxRecDepth 100000 in
theorem eight_ref (w : World) :
    Calls Tryd.prog 11 #[] w fun e w' => ∃ g, e = .returned (.slice (some ⟨g, 0, none⟩) 8 8) ∧ OwnW w' w.heap.size g 8 eight ∧ Below w.heap.size w w' := by
  have ho := World.ownsRow_lit w (e := 36) (size := 1) #[.int .u32 1779033703, .int .u32 3144134277, .int .u32 1013904242, .int .u32 2773480762, .int .u32 1359893119, .int .u32 2600822924, .int .u32 528734635, .int .u32 1541459225] 8 (Nat.le_refl _) (by simp [maxLen]) rfl
  have HO := Lib.hid ho
  clear ho
  go_enter Tryd.func11, Tryd.ntmps11
  go_wp2_with fail
  go_ret
  exact ⟨_, rfl, HO.out, below_alloc (Below.refl _ _) _⟩

set_option maxRecDepth 100000 in
set_option maxHeartbeats 4000000 in
theorem take_true (gh ch A off cb n : Nat) (S : List Nat) (f : Nat → Nat) (hS : S.length = 8) (hF : Fits S) (hf : ∀ i, f i < 256) (hn : n < 18446744073709551616) (hcb : 64 ≤ cb) (w : World)
    (hgh : gh < w.heap.size) (hA : A < w.heap.size) (hc : ∀ i, i < 8 → w.cell? ⟨gh, i, none⟩ = some (.int .u32 (S.getD i 0 : Nat))) (hb : ∀ i, i < 64 → w.cell? ⟨A, off + i, none⟩ = some (.int .u8 (f i : Nat))) :
    Calls Tryd.prog 14 #[.slice (some ⟨gh, 0, none⟩) 8 ch, .slice (some ⟨A, off, none⟩) 64 cb, .int .u64 n, .bool true] w fun e w' => ∃ g c, e = .returned (.slice (some ⟨g, 0, none⟩) 8 c) ∧ OwnW w' w.heap.size g c (takeL S (numsOf f 0) n true) ∧ Below w.heap.size w w' := by
  have HC := Lib.hid hc
  have HB := Lib.hid hb
  have HF := Lib.hid hF
  have HL := Lib.hid hS
  have Hf := Lib.hid hf
  clear hc hb hF hf hS
  go_enter Tryd.func14, Tryd.ntmps14
  have hlw : (wcells S).length = 8 := by rw [wcells_length, HL.out]
  have h16 : (S ++ eight).length = 16 := by rw [List.length_append, HL.out]; rfl
  go_wp2_with (first
    | (at_builtin; refine wpList_cat rfl _ _ 42 36 (.int .u32 0) 4 Tryd.underlying42 info_u32 rfl rfl rfl (World.ownsRow_lit w (e := 36) (size := 1) #[] 0 (Nat.le_refl _) (by simp [maxLen]) rfl) (below_alloc (Below.refl _ _) _) (by simp) _ 8 ch rfl (wcells S) hlw (cells_add fun i hi => ((below_alloc (Below.refl w.heap.size w) _).cell (p := ⟨gh, i, none⟩) hgh).trans (HC.out i (by rw [← HL.out]; exact hi))) (wcells_each _) (by omega) (by omega) ?_; intro A1 c1 w1 ho1 hb1 hsz1 _; rw [List.nil_append] at ho1; have HO1 := Lib.hid ho1; have HL1 := Lib.hid hb1; clear ho1 hb1))
  refine (eight_ref _).mono ?_
  rintro e w2 ⟨g2, rfl, ho2, hb2⟩
  have hsz2 : w.heap.size ≤ w2.heap.size := Nat.le_trans hsz1 hb2.size
  have HO2 := Lib.hid (owns_below HO1.out hb2 (Nat.le_refl _))
  have HL2 := Lib.hid (HL1.out.trans (hb2.mono hsz1))
  have HS2 := Lib.hid (cells_add (fun i hi => ho2.cellW i hi))
  clear ho2 hb2
  go_wp2_with (first
    | (at_builtin; refine wpList_cat rfl _ _ 42 36 (.int .u32 0) 4 Tryd.underlying42 info_u32 rfl rfl rfl HO2.out HL2.out hsz2 _ 8 8 rfl (wcells eight) rfl HS2.out (wcells_each _) (by omega) (by omega) ?_; intro A3 c3 w3 ho3 hb3 hsz3 _; obtain ⟨g3, rfl, hg3, hg3'⟩ := owns_some ho3 (by omega); have HO3 := Lib.hid (show OwnW w3 w.heap.size g3 c3 (S ++ eight) by unfold OwnW; rw [h16, wcells_append]; exact ho3); have HL3 := Lib.hid hb3; clear ho3 hb3; have c12 := HO3.out.cellW 12 (by omega); have f12 := HO3.out.freeW 12; have c13 := HO3.out.cellW 13 (by omega); have f13 := HO3.out.freeW 13; have c14 := HO3.out.cellW 14 (by omega); have f14 := HO3.out.freeW 14; rw [get12 HL.out] at c12; rw [get13' HL.out] at c13; rw [get14' HL.out] at c14; have e12 := xor12 n; have e13 := xor13 n hn; generalize ((1359893119 : Nat) : Int) = x12 at c12 e12; generalize ((2600822924 : Nat) : Int) = x13 at c13 e13))
  have h1 := (((HO3.out.put0 12 (by omega) (1359893119 ^^^ (n % 4294967296))).put0 13 (by rw [List.length_set]; omega) (2600822924 ^^^ (n / 4294967296))).put0 14 (by rw [List.length_set, List.length_set]; omega) 3766232660)
  rw [step12 HL.out, step13 HL.out, step14 HL.out] at h1
  refine cut_world (fun X => OwnW X w.heap.size g3 c3 (startL S n true) ∧ Below w.heap.size w X) ⟨h1, (((HL3.out.setCell hg3 _).setCell hg3 _).setCell hg3 _)⟩ ?_
  clear h1 e12 e13 c12 c13 c14 f12 f13 f14 HO3 HL3 h16 hlw
  rintro w4 ⟨ho, hb⟩
  have hlt3 := ho.lt
  have hsz4 := hb.size
  have hl0 : (startL S n true).length = 16 := startL_length HL.out n true
  have hf0 : Fits (startL S n true) := startL_fits HF.out n hn true
  generalize hS0 : startL S n true = S0 at ho hl0 hf0
  have HS0 := Lib.hid hS0
  have HO4 := Lib.hid ho
  have HL4 := Lib.hid hb
  have H0L := Lib.hid hl0
  have H0F := Lib.hid hf0
  clear ho hb hl0 hf0 hS0
  go_loopw [10, 11] (fun o i wr => ∃ (k : Nat) (R : Option Addr) (c' : Nat), k ≤ 16 ∧ i = .int .i64 k ∧ o = .slice R k c' ∧ wr.ownsRow w4.heap.size 36 1 (.slice R k c') k (wcells (numsTo f k)) ∧ Below w4.heap.size w4 wr) (fun _ i _ => 16 - (intOf i).toNat)
  case atStart => exact ⟨0, none, 0, Nat.zero_le _, rfl, rfl, World.ownsRow_nil _ _ _ _, Below.refl _ _⟩
  case round =>
    obtain ⟨k, R, c', hk, rfl, rfl, hown, hbel⟩ := hrel
    have HR := Lib.hid hown
    have HB5 := Lib.hid hbel
    have hsz := hbel.size
    clear hown hbel
    by_cases hlt : k < 16
    · obtain ⟨j, hj⟩ : ∃ j, j = 4 * k := ⟨_, rfl⟩
      have hjz : (4 : Int) * (k : Int) = (j : Int) := by omega
      have i1 : (j : Int) + 4 ≤ 64 := by omega
      have i2 : j + 4 ≤ 64 := by omega
      have i3 : ¬ cb = j := by omega
      have i4 : (j : Int) + 4 ≤ (cb : Int) := by omega
      have i5 : ((j : Int) + 4).toNat - j = 4 := by omega
      have HJ := Lib.hid hj
      clear hj
      go_wp2_with fail
      refine (least_any _ 4 (cb - j) (fun i => f (j + i)) (fun i => Hf.out _) (by omega) _ (.inr ⟨A, off + j, rfl, by omega, fun i hi => by rw [Nat.add_assoc]; exact ((HL4.out.trans (HB5.out.mono hsz4)).cell (p := ⟨A, off + (j + i), none⟩) hA).trans (HB.out (j + i) (by omega))⟩)).mono ?_
      rintro e w5 ⟨rfl, rfl⟩
      rw [le_from]
      have hle : le f j 4 < 4294967296 := le_lt Hf.out j 4
      have HE := Lib.hid (numsTo_snoc f k)
      rw [← HJ.out] at HE
      have hle2 : ((le f j 4 : Nat) : Int) < 4294967296 := by omega
      generalize le f j 4 = v at hle HE hle2 ⊢
      clear i5
      go_wp2_with (first
        | (at_builtin; refine wpList_cat rfl _ _ 42 36 (.int .u32 0) 4 Tryd.underlying42 info_u32 rfl rfl rfl (World.ownsRow.alloc HR.out _) (HB5.out.alloc hsz _) (by simp; omega) _ 1 1 rfl [.int .u32 (v : Nat)] rfl (one_at _ _ _) (by intro u hu; simp at hu; subst hu; rfl) (by omega) (by omega) ?_; intro A' c'' w6 hown2 hbel2 hsz2' _; rw [HE.out] at hown2; have HO6 := Lib.hid hown2; have HL6 := Lib.hid hbel2; clear hown2 hbel2))
      go_roundw
      case rel => exact ⟨k + 1, A', c'', by omega, by go_num, rfl, HO6.out, HL6.out⟩
      case measure => simp [intOf]; omega
    · obtain rfl : k = 16 := by omega
      rw [show ((16 : Nat) : Int) = 16 from rfl]
      obtain ⟨gm, rfl, hgm, hgm'⟩ := owns_some HR.out (by omega)
      have hne : gm ≠ g3 := by omega
      have HM := Lib.hid (show ∀ i, i < 16 → wr.cell? ⟨gm, i, none⟩ = some (.int .u32 ((numsTo f 16).getD i 0 : Nat)) from fun i hi => by
        rw [World.ownsRow.cellAt HR.out i (by omega), wcells_get _ i (by rw [numsTo_length]; exact hi)])
      have HMF := Lib.hid (numsTo_fits (f := f) Hf.out 16)
      have HL5 := Lib.hid (HL4.out.trans (HB5.out.mono hsz4))
      have hsz5 : w.heap.size ≤ wr.heap.size := HL5.out.size
      have hlt5 : g3 < wr.heap.size := by omega
      have HO5 := Lib.hid (HO4.out.below HB5.out hlt3)
      clear HR HB5 HO4 HL4
      go_wp2_with fail
      generalize hmm : numsTo f 16 = m at HM HMF
      have HMM := Lib.hid hmm
      clear hmm
      obtain ⟨F, hF0, hFs, hFl, hFf, hFa⟩ : ∃ F : Nat → List Nat, F 0 = S0 ∧ (∀ k, F (k + 1) = roundL k m (F k)) ∧ (∀ k, (F k).length = 16) ∧ (∀ k, Fits (F k)) ∧ F 10 = roundsL m S0 10 :=
        ⟨roundsL m S0, roundsL_zero m S0, roundsL_succ m S0, fun k => by rw [roundsL_length]; exact H0L.out, roundsL_fits m H0F.out, rfl⟩
      have HF0 := Lib.hid hF0
      have HFS := Lib.hid hFs
      have HFL := Lib.hid hFl
      have HFF := Lib.hid hFf
      have HFA := Lib.hid hFa
      clear hF0 hFs hFl hFf hFa
      go_loopw [12] (fun i wq => ∃ k : Nat, k ≤ 10 ∧ i = .int .i64 k ∧ OwnW wq w.heap.size g3 c3 (F k) ∧ wr.grownBy wq (some g3)) (fun i _ => 10 - (intOf i).toNat)
      case atStart => exact ⟨0, Nat.zero_le _, rfl, by rw [HF0.out]; exact HO5.out, World.grownBy.refl _ _⟩
      case round =>
        obtain ⟨k, hk, rfl, hown, hgr⟩ := hrel
        have HO7 := Lib.hid hown
        have HG7 := Lib.hid hgr
        have hsz7 := hgr.size
        clear hown hgr
        by_cases hlt : k < 10
        · have HE := Lib.hid (HFS.out k)
          have HF7 := Lib.hid (HFF.out k)
          have HL7 := Lib.hid (HFL.out k)
          generalize F k = s7 at HO7 HE HF7 HL7
          go_wp2_with fail
          refine (order_ref k hlt _).mono ?_
          rintro e w7 ⟨rfl, rfl⟩
          generalize hok : ordS k = ok
          go_wp2_with fail
          subst hok
          refine (round_ref g3 c3 gm _ k w.heap.size s7 m HL7.out HF7.out hlt _ HO7.out (fun i hi => grown_cell HG7.out hgm' hne (HM.out i hi)) HMF.out (by omega)).mono ?_
          rintro e w8 ⟨rfl, ho, hg⟩
          have HO8 := Lib.hid ho
          have HG8 := Lib.hid (grown_trans HG7.out hg)
          clear ho hg
          go_wp2_with fail
          go_roundw
          case rel => exact ⟨k + 1, by omega, by go_num, by rw [HE.out]; exact HO8.out, HG8.out⟩
          case measure => simp [intOf]; omega
        · obtain rfl : k = 10 := by omega
          rw [show ((10 : Nat) : Int) = 10 from rfl]
          have hb7 := below_grown HL5.out HG7.out hg3 hsz5
          have ho7 := HO7.out
          have hl7 := HFL.out 10
          have hf7 := HFF.out 10
          have HFE := Lib.hid (show takeL S (numsOf f 0) n true = foldL S (F 10) by unfold takeL; rw [HS0.out, HFA.out, ← HMM.out, numsTo_all])
          generalize F 10 = V at ho7 hl7 hf7 HFE
          go_wp2_with fail
          refine cut_world (fun X => OwnW X w.heap.size g3 c3 V ∧ Below w.heap.size w X) ⟨ho7, hb7⟩ ?_
          clear ho7 hb7 HO7 HG7 hsz7 HO5 HL5 HM HMF HMM HF0 HFS HFL HFF HFA HS0 H0L H0F hk
          rintro w7 ⟨ho7, hb7⟩
          have HO7 := Lib.hid ho7
          have HB7 := Lib.hid hb7
          have HVL := Lib.hid hl7
          have hlt7 := ho7.lt
          have hsz7 := hb7.size
          have HXO := Lib.hid (fun i => xor_fold HF.out hf7 i)
          clear ho7 hb7 hl7 hf7
          go_loopw [13, 14] (fun o i wz => ∃ (k : Nat) (R : Option Addr) (c' : Nat), k ≤ 8 ∧ i = .int .i64 k ∧ o = .slice R k c' ∧ wz.ownsRow w7.heap.size 36 1 (.slice R k c') k (wcells (foldTo S V k)) ∧ Below w7.heap.size w7 wz) (fun _ i _ => 8 - (intOf i).toNat)
          case atStart => exact ⟨0, none, 0, Nat.zero_le _, rfl, rfl, World.ownsRow_nil _ _ _ _, Below.refl _ _⟩
          case round =>
            rename_i wz _ _
            obtain ⟨k, R, c', hk, rfl, rfl, hown, hbel⟩ := hrel
            have HRZ := Lib.hid hown
            have HBZ := Lib.hid hbel
            have hszz := hbel.size
            clear hown hbel
            by_cases hlt : k < 8
            · obtain ⟨j8, hj8⟩ : ∃ j, k + 8 = j := ⟨_, rfl⟩
              have hE := foldTo_snoc S V k
              have hx12 := HXO.out k
              rw [hj8] at hE hx12
              have d1 := (HB7.out.cell (p := ⟨gh, k, none⟩) hgh).trans (HC.out k hlt)
              have d2 := HO7.out.cellW k (by rw [HVL.out]; omega)
              have d3 := HO7.out.cellW j8 (by rw [HVL.out]; omega)
              generalize S.getD k 0 = p at d1 hE hx12
              generalize V.getD k 0 = q at d2 hE hx12
              generalize V.getD j8 0 = r at d3 hE hx12
              have HE := Lib.hid hE
              have DD1 := Lib.hid d1
              have DD2 := Lib.hid d2
              have DD3 := Lib.hid d3
              have HX1 := Lib.hid hx12.1
              have HX2 := Lib.hid hx12.2
              have hltz : gh < w7.heap.size := by omega
              have hlt9 : g3 < w7.heap.size := by omega
              clear d1 d2 d3 hx12 hE
              have i1 : (k : Int) < 8 := by omega
              have i2 : (k : Int) < 16 := by omega
              have i3 : (j8 : Int) < 16 := by omega
              have HW8 := Lib.hid (show IntKind.i64.wrap ((k : Int) + 8) = (j8 : Int) by rw [IntKind.wrap_i64]; omega)
              have HJ8 := Lib.hid hj8
              clear hj8
              go_wp2_with fail
              refine region_drew (fun X => Below w7.heap.size w7 X) (by kernel_rfl) (below_drewN HBZ.out 1) ?_
              intro hS
              refine take 0 _ rfl (by kernel_rfl) (by kernel_rfl) (by kernel_rfl) (fun _ _ _ h => h) (by rfl) hS (by intro w _; go_simp; try with_reducible rfl) ?_
              try simp only [Act.put, List.setIfInBounds_toArray, List.set_cons_zero, List.set_cons_succ]
              refine take 1 _ rfl (by kernel_rfl) (by kernel_rfl) (by kernel_rfl) (fun _ _ _ h => h) (by rfl) hS (by intro w _; go_simp; try with_reducible rfl) ?_
              try simp only [Act.put, List.setIfInBounds_toArray, List.set_cons_zero, List.set_cons_succ]
              refine take 2 _ rfl (by kernel_rfl) (by kernel_rfl) (by kernel_rfl) (fun _ _ _ h => h) (by rfl) hS (by intro w _; go_simp; try with_reducible rfl) ?_
              try simp only [Act.put, List.setIfInBounds_toArray, List.set_cons_zero, List.set_cons_succ]
              refine take 3 _ rfl (by kernel_rfl) (by kernel_rfl) (by kernel_rfl) (fun _ _ _ h => h) (by rfl) hS (by intro w _; go_simp; try with_reducible rfl) ?_
              try simp only [Act.put, List.setIfInBounds_toArray, List.set_cons_zero, List.set_cons_succ]
              refine take 4 _ rfl (by kernel_rfl) (by kernel_rfl) (by kernel_rfl) (fun _ _ _ h => h) (by rfl) hS (by intro w hw; have hcl := (hw.cell (p := ⟨gh, k, none⟩) hltz).trans DD1.out; go_simp; with_reducible rfl) ?_
              try simp only [Act.put, List.setIfInBounds_toArray, List.set_cons_zero, List.set_cons_succ]
              refine take 5 _ rfl (by kernel_rfl) (by kernel_rfl) (by kernel_rfl) (fun _ _ _ h => h) (by rfl) hS (by intro w _; go_simp; try with_reducible rfl) ?_
              try simp only [Act.put, List.setIfInBounds_toArray, List.set_cons_zero, List.set_cons_succ]
              refine take 6 _ rfl (by kernel_rfl) (by kernel_rfl) (by kernel_rfl) (fun _ _ _ h => h) (by rfl) hS (by intro w _; go_simp; try with_reducible rfl) ?_
              try simp only [Act.put, List.setIfInBounds_toArray, List.set_cons_zero, List.set_cons_succ]
              refine take 7 _ rfl (by kernel_rfl) (by kernel_rfl) (by kernel_rfl) (fun _ _ _ h => h) (by rfl) hS (by intro w _; go_simp; try with_reducible rfl) ?_
              try simp only [Act.put, List.setIfInBounds_toArray, List.set_cons_zero, List.set_cons_succ]
              refine take 8 _ rfl (by kernel_rfl) (by kernel_rfl) (by kernel_rfl) (fun _ _ _ h => h) (by rfl) hS (by intro w hw; have hcl := (hw.cell (p := ⟨g3, k, none⟩) hlt9).trans DD2.out; go_simp; with_reducible rfl) ?_
              try simp only [Act.put, List.setIfInBounds_toArray, List.set_cons_zero, List.set_cons_succ]
              refine take 9 _ rfl (by kernel_rfl) (by kernel_rfl) (by kernel_rfl) (fun _ _ _ h => h) (by rfl) hS (by intro w _; go_simp; try simp only [HX1.out]; try with_reducible rfl) ?_
              try simp only [Act.put, List.setIfInBounds_toArray, List.set_cons_zero, List.set_cons_succ]
              refine take 10 _ rfl (by kernel_rfl) (by kernel_rfl) (by kernel_rfl) (fun _ _ _ h => h) (by rfl) hS (by intro w _; go_simp; try with_reducible rfl) ?_
              try simp only [Act.put, List.setIfInBounds_toArray, List.set_cons_zero, List.set_cons_succ]
              refine take 11 _ rfl (by kernel_rfl) (by kernel_rfl) (by kernel_rfl) (fun _ _ _ h => h) (by rfl) hS (by intro w _; go_simp; try with_reducible rfl) ?_
              try simp only [Act.put, List.setIfInBounds_toArray, List.set_cons_zero, List.set_cons_succ]
              refine take 12 _ rfl (by kernel_rfl) (by kernel_rfl) (by kernel_rfl) (fun _ _ _ h => h) (by rfl) hS (by intro w _; go_simp; try simp only [HW8.out]; try with_reducible rfl) ?_
              try simp only [Act.put, List.setIfInBounds_toArray, List.set_cons_zero, List.set_cons_succ]
              refine take 13 _ rfl (by kernel_rfl) (by kernel_rfl) (by kernel_rfl) (fun _ _ _ h => h) (by rfl) hS (by intro w _; go_simp; try with_reducible rfl) ?_
              try simp only [Act.put, List.setIfInBounds_toArray, List.set_cons_zero, List.set_cons_succ]
              refine take 14 _ rfl (by kernel_rfl) (by kernel_rfl) (by kernel_rfl) (fun _ _ _ h => h) (by rfl) hS (by intro w hw; have hcl := (hw.cell (p := ⟨g3, j8, none⟩) hlt9).trans DD3.out; go_simp; with_reducible rfl) ?_
              try simp only [Act.put, List.setIfInBounds_toArray, List.set_cons_zero, List.set_cons_succ]
              refine take 15 _ rfl (by kernel_rfl) (by kernel_rfl) (by kernel_rfl) (fun _ _ _ h => h) (by rfl) hS (by intro w _; go_simp; try simp only [HX2.out]; try with_reducible rfl) ?_
              try simp only [Act.put, List.setIfInBounds_toArray, List.set_cons_zero, List.set_cons_succ]
              refine alone 16 rfl (by kernel_rfl) (by rfl) ?_
              intro K hK
              go_simp
              have hO := World.ownsRow.alloc (w := wr.drew) HRZ.out (.cells #[.int .u32 ((p ^^^ q ^^^ r : Nat) : Int)] 36)
              have HOR := Lib.hid hO
              have hszd : w7.heap.size ≤ wr.drew.heap.size := hszz
              replace hS := hS.alloc hszd (.cells #[.int .u32 ((p ^^^ q ^^^ r : Nat) : Int)] 36)
              clear hO
              refine hK.out _ _ hS ?_
              clear hK K
              try simp only [Act.put, List.setIfInBounds_toArray, List.set_cons_zero, List.set_cons_succ]
              refine alone 17 rfl (by kernel_rfl) (by rfl) ?_
              intro K hK
              refine wp_cat (W := w7) (.tmp 74) (.tmp 90) 42 36 (.int .u32 0) 4 Tryd.underlying42 info_u32 rfl rfl rfl HOR.out hS (by simp; omega) ⟨wr.drew.heap.size, 0, none⟩ 1 1 rfl [.int .u32 ((p ^^^ q ^^^ r : Nat) : Int)] rfl (one_at _ _ _) (by intro u hu; simp at hu; subst hu; rfl) (by omega) (by omega) ?_
              intro A' c'' w9 hown9 hbel9 hsz9 _ _
              rw [HE.out] at hown9
              have HO9 := Lib.hid hown9
              replace hS := hbel9
              refine hK.out _ _ hS ?_
              clear hK K hbel9 hown9
              try simp only [Act.put, List.setIfInBounds_toArray, List.set_cons_zero, List.set_cons_succ]
              refine take 18 _ rfl (by kernel_rfl) (by kernel_rfl) (by kernel_rfl) (fun _ _ _ h => h) (by rfl) hS (by intro w _; go_simp; try with_reducible rfl) ?_
              try simp only [Act.put, List.setIfInBounds_toArray, List.set_cons_zero, List.set_cons_succ]
              refine region_end (by kernel_rfl) ?_
              have HB9 := Lib.hid hS
              clear hS
              go_wp2_with fail
              go_roundw
              case rel => exact ⟨k + 1, A', c'', by omega, by go_num, rfl, HO9.out, HB9.out⟩
              case measure => simp [intOf]; omega
            · obtain rfl : k = 8 := by omega
              rw [show ((8 : Nat) : Int) = 8 from rfl]
              obtain ⟨gl, rfl, hgl, hgl'⟩ := owns_some HRZ.out (by omega)
              go_wp2_with fail
              go_ret
              rw [HFE.out]
              exact ⟨gl, c', rfl, OwnW.lower (foldTo_own HRZ.out) hsz7, HB7.out.trans (HBZ.out.mono hsz7)⟩

set_option maxRecDepth 100000 in
set_option maxHeartbeats 4000000 in
theorem take_false (gh ch A off cb n : Nat) (S : List Nat) (f : Nat → Nat) (hS : S.length = 8) (hF : Fits S) (hf : ∀ i, f i < 256) (hn : n < 18446744073709551616) (hcb : 64 ≤ cb) (w : World)
    (hgh : gh < w.heap.size) (hA : A < w.heap.size) (hc : ∀ i, i < 8 → w.cell? ⟨gh, i, none⟩ = some (.int .u32 (S.getD i 0 : Nat))) (hb : ∀ i, i < 64 → w.cell? ⟨A, off + i, none⟩ = some (.int .u8 (f i : Nat))) :
    Calls Tryd.prog 14 #[.slice (some ⟨gh, 0, none⟩) 8 ch, .slice (some ⟨A, off, none⟩) 64 cb, .int .u64 n, .bool false] w fun e w' => ∃ g c, e = .returned (.slice (some ⟨g, 0, none⟩) 8 c) ∧ OwnW w' w.heap.size g c (takeL S (numsOf f 0) n false) ∧ Below w.heap.size w w' := by
  have HC := Lib.hid hc
  have HB := Lib.hid hb
  have HF := Lib.hid hF
  have HL := Lib.hid hS
  have Hf := Lib.hid hf
  clear hc hb hF hf hS
  go_enter Tryd.func14, Tryd.ntmps14
  have hlw : (wcells S).length = 8 := by rw [wcells_length, HL.out]
  have h16 : (S ++ eight).length = 16 := by rw [List.length_append, HL.out]; rfl
  go_wp2_with (first
    | (at_builtin; refine wpList_cat rfl _ _ 42 36 (.int .u32 0) 4 Tryd.underlying42 info_u32 rfl rfl rfl (World.ownsRow_lit w (e := 36) (size := 1) #[] 0 (Nat.le_refl _) (by simp [maxLen]) rfl) (below_alloc (Below.refl _ _) _) (by simp) _ 8 ch rfl (wcells S) hlw (cells_add fun i hi => ((below_alloc (Below.refl w.heap.size w) _).cell (p := ⟨gh, i, none⟩) hgh).trans (HC.out i (by rw [← HL.out]; exact hi))) (wcells_each _) (by omega) (by omega) ?_; intro A1 c1 w1 ho1 hb1 hsz1 _; rw [List.nil_append] at ho1; have HO1 := Lib.hid ho1; have HL1 := Lib.hid hb1; clear ho1 hb1))
  refine (eight_ref _).mono ?_
  rintro e w2 ⟨g2, rfl, ho2, hb2⟩
  have hsz2 : w.heap.size ≤ w2.heap.size := Nat.le_trans hsz1 hb2.size
  have HO2 := Lib.hid (owns_below HO1.out hb2 (Nat.le_refl _))
  have HL2 := Lib.hid (HL1.out.trans (hb2.mono hsz1))
  have HS2 := Lib.hid (cells_add (fun i hi => ho2.cellW i hi))
  clear ho2 hb2
  go_wp2_with (first
    | (at_builtin; refine wpList_cat rfl _ _ 42 36 (.int .u32 0) 4 Tryd.underlying42 info_u32 rfl rfl rfl HO2.out HL2.out hsz2 _ 8 8 rfl (wcells eight) rfl HS2.out (wcells_each _) (by omega) (by omega) ?_; intro A3 c3 w3 ho3 hb3 hsz3 _; obtain ⟨g3, rfl, hg3, hg3'⟩ := owns_some ho3 (by omega); have HO3 := Lib.hid (show OwnW w3 w.heap.size g3 c3 (S ++ eight) by unfold OwnW; rw [h16, wcells_append]; exact ho3); have HL3 := Lib.hid hb3; clear ho3 hb3; have c12 := HO3.out.cellW 12 (by omega); have f12 := HO3.out.freeW 12; have c13 := HO3.out.cellW 13 (by omega); have f13 := HO3.out.freeW 13; have c14 := HO3.out.cellW 14 (by omega); have f14 := HO3.out.freeW 14; rw [get12 HL.out] at c12; rw [get13' HL.out] at c13; rw [get14' HL.out] at c14; have e12 := xor12 n; have e13 := xor13 n hn; generalize ((1359893119 : Nat) : Int) = x12 at c12 e12; generalize ((2600822924 : Nat) : Int) = x13 at c13 e13))
  have h1 := ((HO3.out.put0 12 (by omega) (1359893119 ^^^ (n % 4294967296))).put0 13 (by rw [List.length_set]; omega) (2600822924 ^^^ (n / 4294967296)))
  rw [step12 HL.out, step13 HL.out] at h1
  refine cut_world (fun X => OwnW X w.heap.size g3 c3 (startL S n false) ∧ Below w.heap.size w X) ⟨h1, ((HL3.out.setCell hg3 _).setCell hg3 _)⟩ ?_
  clear h1 e12 e13 c12 c13 c14 f12 f13 f14 HO3 HL3 h16 hlw
  rintro w4 ⟨ho, hb⟩
  have hlt3 := ho.lt
  have hsz4 := hb.size
  have hl0 : (startL S n false).length = 16 := startL_length HL.out n false
  have hf0 : Fits (startL S n false) := startL_fits HF.out n hn false
  generalize hS0 : startL S n false = S0 at ho hl0 hf0
  have HS0 := Lib.hid hS0
  have HO4 := Lib.hid ho
  have HL4 := Lib.hid hb
  have H0L := Lib.hid hl0
  have H0F := Lib.hid hf0
  clear ho hb hl0 hf0 hS0
  go_loopw [10, 11] (fun o i wr => ∃ (k : Nat) (R : Option Addr) (c' : Nat), k ≤ 16 ∧ i = .int .i64 k ∧ o = .slice R k c' ∧ wr.ownsRow w4.heap.size 36 1 (.slice R k c') k (wcells (numsTo f k)) ∧ Below w4.heap.size w4 wr) (fun _ i _ => 16 - (intOf i).toNat)
  case atStart => exact ⟨0, none, 0, Nat.zero_le _, rfl, rfl, World.ownsRow_nil _ _ _ _, Below.refl _ _⟩
  case round =>
    obtain ⟨k, R, c', hk, rfl, rfl, hown, hbel⟩ := hrel
    have HR := Lib.hid hown
    have HB5 := Lib.hid hbel
    have hsz := hbel.size
    clear hown hbel
    by_cases hlt : k < 16
    · obtain ⟨j, hj⟩ : ∃ j, j = 4 * k := ⟨_, rfl⟩
      have hjz : (4 : Int) * (k : Int) = (j : Int) := by omega
      have i1 : (j : Int) + 4 ≤ 64 := by omega
      have i2 : j + 4 ≤ 64 := by omega
      have i3 : ¬ cb = j := by omega
      have i4 : (j : Int) + 4 ≤ (cb : Int) := by omega
      have i5 : ((j : Int) + 4).toNat - j = 4 := by omega
      have HJ := Lib.hid hj
      clear hj
      go_wp2_with fail
      refine (least_any _ 4 (cb - j) (fun i => f (j + i)) (fun i => Hf.out _) (by omega) _ (.inr ⟨A, off + j, rfl, by omega, fun i hi => by rw [Nat.add_assoc]; exact ((HL4.out.trans (HB5.out.mono hsz4)).cell (p := ⟨A, off + (j + i), none⟩) hA).trans (HB.out (j + i) (by omega))⟩)).mono ?_
      rintro e w5 ⟨rfl, rfl⟩
      rw [le_from]
      have hle : le f j 4 < 4294967296 := le_lt Hf.out j 4
      have HE := Lib.hid (numsTo_snoc f k)
      rw [← HJ.out] at HE
      have hle2 : ((le f j 4 : Nat) : Int) < 4294967296 := by omega
      generalize le f j 4 = v at hle HE hle2 ⊢
      clear i5
      go_wp2_with (first
        | (at_builtin; refine wpList_cat rfl _ _ 42 36 (.int .u32 0) 4 Tryd.underlying42 info_u32 rfl rfl rfl (World.ownsRow.alloc HR.out _) (HB5.out.alloc hsz _) (by simp; omega) _ 1 1 rfl [.int .u32 (v : Nat)] rfl (one_at _ _ _) (by intro u hu; simp at hu; subst hu; rfl) (by omega) (by omega) ?_; intro A' c'' w6 hown2 hbel2 hsz2' _; rw [HE.out] at hown2; have HO6 := Lib.hid hown2; have HL6 := Lib.hid hbel2; clear hown2 hbel2))
      go_roundw
      case rel => exact ⟨k + 1, A', c'', by omega, by go_num, rfl, HO6.out, HL6.out⟩
      case measure => simp [intOf]; omega
    · obtain rfl : k = 16 := by omega
      rw [show ((16 : Nat) : Int) = 16 from rfl]
      obtain ⟨gm, rfl, hgm, hgm'⟩ := owns_some HR.out (by omega)
      have hne : gm ≠ g3 := by omega
      have HM := Lib.hid (show ∀ i, i < 16 → wr.cell? ⟨gm, i, none⟩ = some (.int .u32 ((numsTo f 16).getD i 0 : Nat)) from fun i hi => by
        rw [World.ownsRow.cellAt HR.out i (by omega), wcells_get _ i (by rw [numsTo_length]; exact hi)])
      have HMF := Lib.hid (numsTo_fits (f := f) Hf.out 16)
      have HL5 := Lib.hid (HL4.out.trans (HB5.out.mono hsz4))
      have hsz5 : w.heap.size ≤ wr.heap.size := HL5.out.size
      have hlt5 : g3 < wr.heap.size := by omega
      have HO5 := Lib.hid (HO4.out.below HB5.out hlt3)
      clear HR HB5 HO4 HL4
      go_wp2_with fail
      generalize hmm : numsTo f 16 = m at HM HMF
      have HMM := Lib.hid hmm
      clear hmm
      obtain ⟨F, hF0, hFs, hFl, hFf, hFa⟩ : ∃ F : Nat → List Nat, F 0 = S0 ∧ (∀ k, F (k + 1) = roundL k m (F k)) ∧ (∀ k, (F k).length = 16) ∧ (∀ k, Fits (F k)) ∧ F 10 = roundsL m S0 10 :=
        ⟨roundsL m S0, roundsL_zero m S0, roundsL_succ m S0, fun k => by rw [roundsL_length]; exact H0L.out, roundsL_fits m H0F.out, rfl⟩
      have HF0 := Lib.hid hF0
      have HFS := Lib.hid hFs
      have HFL := Lib.hid hFl
      have HFF := Lib.hid hFf
      have HFA := Lib.hid hFa
      clear hF0 hFs hFl hFf hFa
      go_loopw [12] (fun i wq => ∃ k : Nat, k ≤ 10 ∧ i = .int .i64 k ∧ OwnW wq w.heap.size g3 c3 (F k) ∧ wr.grownBy wq (some g3)) (fun i _ => 10 - (intOf i).toNat)
      case atStart => exact ⟨0, Nat.zero_le _, rfl, by rw [HF0.out]; exact HO5.out, World.grownBy.refl _ _⟩
      case round =>
        obtain ⟨k, hk, rfl, hown, hgr⟩ := hrel
        have HO7 := Lib.hid hown
        have HG7 := Lib.hid hgr
        have hsz7 := hgr.size
        clear hown hgr
        by_cases hlt : k < 10
        · have HE := Lib.hid (HFS.out k)
          have HF7 := Lib.hid (HFF.out k)
          have HL7 := Lib.hid (HFL.out k)
          generalize F k = s7 at HO7 HE HF7 HL7
          go_wp2_with fail
          refine (order_ref k hlt _).mono ?_
          rintro e w7 ⟨rfl, rfl⟩
          generalize hok : ordS k = ok
          go_wp2_with fail
          subst hok
          refine (round_ref g3 c3 gm _ k w.heap.size s7 m HL7.out HF7.out hlt _ HO7.out (fun i hi => grown_cell HG7.out hgm' hne (HM.out i hi)) HMF.out (by omega)).mono ?_
          rintro e w8 ⟨rfl, ho, hg⟩
          have HO8 := Lib.hid ho
          have HG8 := Lib.hid (grown_trans HG7.out hg)
          clear ho hg
          go_wp2_with fail
          go_roundw
          case rel => exact ⟨k + 1, by omega, by go_num, by rw [HE.out]; exact HO8.out, HG8.out⟩
          case measure => simp [intOf]; omega
        · obtain rfl : k = 10 := by omega
          rw [show ((10 : Nat) : Int) = 10 from rfl]
          have hb7 := below_grown HL5.out HG7.out hg3 hsz5
          have ho7 := HO7.out
          have hl7 := HFL.out 10
          have hf7 := HFF.out 10
          have HFE := Lib.hid (show takeL S (numsOf f 0) n false = foldL S (F 10) by unfold takeL; rw [HS0.out, HFA.out, ← HMM.out, numsTo_all])
          generalize F 10 = V at ho7 hl7 hf7 HFE
          go_wp2_with fail
          refine cut_world (fun X => OwnW X w.heap.size g3 c3 V ∧ Below w.heap.size w X) ⟨ho7, hb7⟩ ?_
          clear ho7 hb7 HO7 HG7 hsz7 HO5 HL5 HM HMF HMM HF0 HFS HFL HFF HFA HS0 H0L H0F hk
          rintro w7 ⟨ho7, hb7⟩
          have HO7 := Lib.hid ho7
          have HB7 := Lib.hid hb7
          have HVL := Lib.hid hl7
          have hlt7 := ho7.lt
          have hsz7 := hb7.size
          have HXO := Lib.hid (fun i => xor_fold HF.out hf7 i)
          clear ho7 hb7 hl7 hf7
          go_loopw [13, 14] (fun o i wz => ∃ (k : Nat) (R : Option Addr) (c' : Nat), k ≤ 8 ∧ i = .int .i64 k ∧ o = .slice R k c' ∧ wz.ownsRow w7.heap.size 36 1 (.slice R k c') k (wcells (foldTo S V k)) ∧ Below w7.heap.size w7 wz) (fun _ i _ => 8 - (intOf i).toNat)
          case atStart => exact ⟨0, none, 0, Nat.zero_le _, rfl, rfl, World.ownsRow_nil _ _ _ _, Below.refl _ _⟩
          case round =>
            rename_i wz _ _
            obtain ⟨k, R, c', hk, rfl, rfl, hown, hbel⟩ := hrel
            have HRZ := Lib.hid hown
            have HBZ := Lib.hid hbel
            have hszz := hbel.size
            clear hown hbel
            by_cases hlt : k < 8
            · obtain ⟨j8, hj8⟩ : ∃ j, k + 8 = j := ⟨_, rfl⟩
              have hE := foldTo_snoc S V k
              have hx12 := HXO.out k
              rw [hj8] at hE hx12
              have d1 := (HB7.out.cell (p := ⟨gh, k, none⟩) hgh).trans (HC.out k hlt)
              have d2 := HO7.out.cellW k (by rw [HVL.out]; omega)
              have d3 := HO7.out.cellW j8 (by rw [HVL.out]; omega)
              generalize S.getD k 0 = p at d1 hE hx12
              generalize V.getD k 0 = q at d2 hE hx12
              generalize V.getD j8 0 = r at d3 hE hx12
              have HE := Lib.hid hE
              have DD1 := Lib.hid d1
              have DD2 := Lib.hid d2
              have DD3 := Lib.hid d3
              have HX1 := Lib.hid hx12.1
              have HX2 := Lib.hid hx12.2
              have hltz : gh < w7.heap.size := by omega
              have hlt9 : g3 < w7.heap.size := by omega
              clear d1 d2 d3 hx12 hE
              have i1 : (k : Int) < 8 := by omega
              have i2 : (k : Int) < 16 := by omega
              have i3 : (j8 : Int) < 16 := by omega
              have HW8 := Lib.hid (show IntKind.i64.wrap ((k : Int) + 8) = (j8 : Int) by rw [IntKind.wrap_i64]; omega)
              have HJ8 := Lib.hid hj8
              clear hj8
              go_wp2_with fail
              refine region_drew (fun X => Below w7.heap.size w7 X) (by kernel_rfl) (below_drewN HBZ.out 1) ?_
              intro hS
              refine take 0 _ rfl (by kernel_rfl) (by kernel_rfl) (by kernel_rfl) (fun _ _ _ h => h) (by rfl) hS (by intro w _; go_simp; try with_reducible rfl) ?_
              try simp only [Act.put, List.setIfInBounds_toArray, List.set_cons_zero, List.set_cons_succ]
              refine take 1 _ rfl (by kernel_rfl) (by kernel_rfl) (by kernel_rfl) (fun _ _ _ h => h) (by rfl) hS (by intro w _; go_simp; try with_reducible rfl) ?_
              try simp only [Act.put, List.setIfInBounds_toArray, List.set_cons_zero, List.set_cons_succ]
              refine take 2 _ rfl (by kernel_rfl) (by kernel_rfl) (by kernel_rfl) (fun _ _ _ h => h) (by rfl) hS (by intro w _; go_simp; try with_reducible rfl) ?_
              try simp only [Act.put, List.setIfInBounds_toArray, List.set_cons_zero, List.set_cons_succ]
              refine take 3 _ rfl (by kernel_rfl) (by kernel_rfl) (by kernel_rfl) (fun _ _ _ h => h) (by rfl) hS (by intro w _; go_simp; try with_reducible rfl) ?_
              try simp only [Act.put, List.setIfInBounds_toArray, List.set_cons_zero, List.set_cons_succ]
              refine take 4 _ rfl (by kernel_rfl) (by kernel_rfl) (by kernel_rfl) (fun _ _ _ h => h) (by rfl) hS (by intro w hw; have hcl := (hw.cell (p := ⟨gh, k, none⟩) hltz).trans DD1.out; go_simp; with_reducible rfl) ?_
              try simp only [Act.put, List.setIfInBounds_toArray, List.set_cons_zero, List.set_cons_succ]
              refine take 5 _ rfl (by kernel_rfl) (by kernel_rfl) (by kernel_rfl) (fun _ _ _ h => h) (by rfl) hS (by intro w _; go_simp; try with_reducible rfl) ?_
              try simp only [Act.put, List.setIfInBounds_toArray, List.set_cons_zero, List.set_cons_succ]
              refine take 6 _ rfl (by kernel_rfl) (by kernel_rfl) (by kernel_rfl) (fun _ _ _ h => h) (by rfl) hS (by intro w _; go_simp; try with_reducible rfl) ?_
              try simp only [Act.put, List.setIfInBounds_toArray, List.set_cons_zero, List.set_cons_succ]
              refine take 7 _ rfl (by kernel_rfl) (by kernel_rfl) (by kernel_rfl) (fun _ _ _ h => h) (by rfl) hS (by intro w _; go_simp; try with_reducible rfl) ?_
              try simp only [Act.put, List.setIfInBounds_toArray, List.set_cons_zero, List.set_cons_succ]
              refine take 8 _ rfl (by kernel_rfl) (by kernel_rfl) (by kernel_rfl) (fun _ _ _ h => h) (by rfl) hS (by intro w hw; have hcl := (hw.cell (p := ⟨g3, k, none⟩) hlt9).trans DD2.out; go_simp; with_reducible rfl) ?_
              try simp only [Act.put, List.setIfInBounds_toArray, List.set_cons_zero, List.set_cons_succ]
              refine take 9 _ rfl (by kernel_rfl) (by kernel_rfl) (by kernel_rfl) (fun _ _ _ h => h) (by rfl) hS (by intro w _; go_simp; try simp only [HX1.out]; try with_reducible rfl) ?_
              try simp only [Act.put, List.setIfInBounds_toArray, List.set_cons_zero, List.set_cons_succ]
              refine take 10 _ rfl (by kernel_rfl) (by kernel_rfl) (by kernel_rfl) (fun _ _ _ h => h) (by rfl) hS (by intro w _; go_simp; try with_reducible rfl) ?_
              try simp only [Act.put, List.setIfInBounds_toArray, List.set_cons_zero, List.set_cons_succ]
              refine take 11 _ rfl (by kernel_rfl) (by kernel_rfl) (by kernel_rfl) (fun _ _ _ h => h) (by rfl) hS (by intro w _; go_simp; try with_reducible rfl) ?_
              try simp only [Act.put, List.setIfInBounds_toArray, List.set_cons_zero, List.set_cons_succ]
              refine take 12 _ rfl (by kernel_rfl) (by kernel_rfl) (by kernel_rfl) (fun _ _ _ h => h) (by rfl) hS (by intro w _; go_simp; try simp only [HW8.out]; try with_reducible rfl) ?_
              try simp only [Act.put, List.setIfInBounds_toArray, List.set_cons_zero, List.set_cons_succ]
              refine take 13 _ rfl (by kernel_rfl) (by kernel_rfl) (by kernel_rfl) (fun _ _ _ h => h) (by rfl) hS (by intro w _; go_simp; try with_reducible rfl) ?_
              try simp only [Act.put, List.setIfInBounds_toArray, List.set_cons_zero, List.set_cons_succ]
              refine take 14 _ rfl (by kernel_rfl) (by kernel_rfl) (by kernel_rfl) (fun _ _ _ h => h) (by rfl) hS (by intro w hw; have hcl := (hw.cell (p := ⟨g3, j8, none⟩) hlt9).trans DD3.out; go_simp; with_reducible rfl) ?_
              try simp only [Act.put, List.setIfInBounds_toArray, List.set_cons_zero, List.set_cons_succ]
              refine take 15 _ rfl (by kernel_rfl) (by kernel_rfl) (by kernel_rfl) (fun _ _ _ h => h) (by rfl) hS (by intro w _; go_simp; try simp only [HX2.out]; try with_reducible rfl) ?_
              try simp only [Act.put, List.setIfInBounds_toArray, List.set_cons_zero, List.set_cons_succ]
              refine alone 16 rfl (by kernel_rfl) (by rfl) ?_
              intro K hK
              go_simp
              have hO := World.ownsRow.alloc (w := wr.drew) HRZ.out (.cells #[.int .u32 ((p ^^^ q ^^^ r : Nat) : Int)] 36)
              have HOR := Lib.hid hO
              have hszd : w7.heap.size ≤ wr.drew.heap.size := hszz
              replace hS := hS.alloc hszd (.cells #[.int .u32 ((p ^^^ q ^^^ r : Nat) : Int)] 36)
              clear hO
              refine hK.out _ _ hS ?_
              clear hK K
              try simp only [Act.put, List.setIfInBounds_toArray, List.set_cons_zero, List.set_cons_succ]
              refine alone 17 rfl (by kernel_rfl) (by rfl) ?_
              intro K hK
              refine wp_cat (W := w7) (.tmp 74) (.tmp 90) 42 36 (.int .u32 0) 4 Tryd.underlying42 info_u32 rfl rfl rfl HOR.out hS (by simp; omega) ⟨wr.drew.heap.size, 0, none⟩ 1 1 rfl [.int .u32 ((p ^^^ q ^^^ r : Nat) : Int)] rfl (one_at _ _ _) (by intro u hu; simp at hu; subst hu; rfl) (by omega) (by omega) ?_
              intro A' c'' w9 hown9 hbel9 hsz9 _ _
              rw [HE.out] at hown9
              have HO9 := Lib.hid hown9
              replace hS := hbel9
              refine hK.out _ _ hS ?_
              clear hK K hbel9 hown9
              try simp only [Act.put, List.setIfInBounds_toArray, List.set_cons_zero, List.set_cons_succ]
              refine take 18 _ rfl (by kernel_rfl) (by kernel_rfl) (by kernel_rfl) (fun _ _ _ h => h) (by rfl) hS (by intro w _; go_simp; try with_reducible rfl) ?_
              try simp only [Act.put, List.setIfInBounds_toArray, List.set_cons_zero, List.set_cons_succ]
              refine region_end (by kernel_rfl) ?_
              have HB9 := Lib.hid hS
              clear hS
              go_wp2_with fail
              go_roundw
              case rel => exact ⟨k + 1, A', c'', by omega, by go_num, rfl, HO9.out, HB9.out⟩
              case measure => simp [intOf]; omega
            · obtain rfl : k = 8 := by omega
              rw [show ((8 : Nat) : Int) = 8 from rfl]
              obtain ⟨gl, rfl, hgl, hgl'⟩ := owns_some HRZ.out (by omega)
              go_wp2_with fail
              go_ret
              rw [HFE.out]
              exact ⟨gl, c', rfl, OwnW.lower (foldTo_own HRZ.out) hsz7, HB7.out.trans (HBZ.out.mono hsz7)⟩


theorem take_ref (gh ch A off cb n : Nat) (S : List Nat) (f : Nat → Nat) (last : Bool) (hS : S.length = 8) (hF : Fits S) (hf : ∀ i, f i < 256) (hn : n < 18446744073709551616) (hcb : 64 ≤ cb) (w : World)
    (hgh : gh < w.heap.size) (hA : A < w.heap.size) (hc : ∀ i, i < 8 → w.cell? ⟨gh, i, none⟩ = some (.int .u32 (S.getD i 0 : Nat))) (hb : ∀ i, i < 64 → w.cell? ⟨A, off + i, none⟩ = some (.int .u8 (f i : Nat))) :
    Calls Tryd.prog 14 #[.slice (some ⟨gh, 0, none⟩) 8 ch, .slice (some ⟨A, off, none⟩) 64 cb, .int .u64 n, .bool last] w fun e w' => ∃ g c, e = .returned (.slice (some ⟨g, 0, none⟩) 8 c) ∧ OwnW w' w.heap.size g c (takeL S (numsOf f 0) n last) ∧ Below w.heap.size w w' := by
  cases last
  · exact take_false gh ch A off cb n S f hS hF hf hn hcb w hgh hA hc hb
  · exact take_true gh ch A off cb n S f hS hF hf hn hcb w hgh hA hc hb

end RefB
end Go.Proofs.YtcoppcididemkaaDoor
