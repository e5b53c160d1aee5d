/- The call mark of package kdf: the mark of parts with a key. -/
import Derived.Test.YtljepgddmfelpaaDoorKdfSum
import Derived.Test.YtljepgddmfelpaaDoorApart
import Derived.Test.YtljepgddmfelpaaDoorTree
namespace Go.Proofs.YtljepgddmfelpaaDoor
namespace Kdf
open Go.ChangeShapes Go.WideShapes Go.ChangeAt Go.RowKit
open Num Mem Words State Chacha Quiet Blake

/-- a key that is filled up, or its sum -/
def keyPad (key : Nat → Nat) (k i : Nat) : Nat := if k ≤ 64 then (if i < k then key i else 0) else if i < 32 then sum32 key k i else 0
theorem keyPad_lt {key : Nat → Nat} (h : ∀ i, key i < 256) (k i : Nat) : keyPad key k i < 256 := by
  unfold keyPad
  split
  · split
    · exact h i
    · omega
  · split
    · exact sum32_lt _ _ _
    · omega
def inT (key : Nat → Nat) (k : Nat) (T : Nat → Nat) (i : Nat) : Nat := if i < 64 then keyPad key k i ^^^ 54 else T (i - 64)
def outT (key : Nat → Nat) (k : Nat) (T : Nat → Nat) (N i : Nat) : Nat := if i < 64 then keyPad key k i ^^^ 92 else sum32 (inT key k T) (64 + N) (i - 64)
/-- a text's mark with a key -/
def macF (key : Nat → Nat) (k : Nat) (T : Nat → Nat) (N : Nat) : Nat → Nat := sum32 (outT key k T N) 96
theorem macF_lt (key : Nat → Nat) (k : Nat) (T : Nat → Nat) (N i : Nat) : macF key k T N i < 256 := sum32_lt _ _ _

theorem rd_copy {w : World} {A : Option Addr} {n g : Nat} {f : Nat → Nat} (h : Rd w A n f) (m : Nat) (hm : m ≤ n) : 0 < (byteCells f m).length → (some (⟨g, 0, none⟩ : Addr) = some ⟨g, 0, none⟩) ∧ ∃ ad, A = some ad ∧ ∀ (j : Nat) (v : Value), (byteCells f m)[j]? = some v → w.cell? (ad.add j) = some v := by
  intro h0
  rw [byteCells_length] at h0
  rcases h with h | ⟨b, off, hA, _, hc⟩
  · omega
  · exact ⟨rfl, _, hA, rd_src fun i hi => hc i (by omega)⟩

/-- the world once the key is filled up -/
structure MarkW (w : World) (B : Nat) (key : Nat → Nat) (k pb po : Nat) (l : List Part) (X : World) : Prop where
  res : Whole X B 27 (byteCells (fun _ => 0) 32).toArray
  blk : Whole X (B + 1) 39 (byteCells (keyPad key k) 64).toArray
  parts : PartsAt X pb po l
  laid : Laid X
  bel : Below B w X
theorem MarkW.below {w : World} {B : Nat} {key : Nat → Nat} {k pb po : Nat} {l : List Part} {X Y : World} (h : MarkW w B key k pb po l X) (hb : Below X.heap.size X Y) : MarkW w B key k pb po l Y :=
  ⟨h.res.below hb h.res.lt, h.blk.below hb h.blk.lt, h.parts.below hb (Nat.le_refl _), laid_below h.laid hb, h.bel.trans (hb.mono (Nat.le_of_lt h.res.lt))⟩

theorem laid_under {w w' : World} {n : Nat} (h : Laid w) (hn : 2 ≤ n) (k : Below n w w') : Laid w' :=
  ⟨fun i hi => (k.cell (p := ⟨0, i, none⟩) (show 0 < n by omega)).trans (h.eight i hi), fun i hi => (k.cell (p := ⟨1, i, none⟩) (show 1 < n by omega)).trans (h.orders i hi), Nat.le_trans h.size k.size⟩
theorem MarkW.grown {w : World} {B : Nat} {key : Nat → Nat} {k pb po g : Nat} {l : List Part} {X Y : World} (h : MarkW w B key k pb po l X) (hP : PartsAt w pb po l) (hw : w.heap.size ≤ B) (hb : X.grownBy Y (some g)) (h1 : B ≠ g) (h2 : B + 1 < g) (hg : 2 ≤ g) : MarkW w B key k pb po l Y :=
  have hbb := below_grown h.bel hb (by omega) (Nat.le_of_lt h.res.lt)
  ⟨Blake.whole_grown h.res hb h1, Blake.whole_grown h.blk hb (by omega), hP.below hbb hw, laid_of h.laid hg hb, hbb⟩

/-- a row of slices that the call laid is a row of parts -/
theorem parts_of_own {w : World} {B g c : Nat} {l : List Part} (h : w.ownsRow B 22 1 (.slice (some ⟨g, 0, none⟩) l.length c) l.length (l.map Part.val)) (hg : g < w.heap.size)
    (hcap : ∀ (j : Nat) (p : Part), l[j]? = some p → p.m ≤ p.c) (hrd : ∀ (j : Nat) (p : Part), l[j]? = some p → Rd w p.A p.m p.f) (hby : ∀ (j : Nat) (p : Part), l[j]? = some p → ∀ i, p.f i < 256) : PartsAt w g 0 l :=
  ⟨hg, fun j p hj => by
    have hlt : j < l.length := by
      rcases Nat.lt_or_ge j l.length with k | k
      · exact k
      · rw [List.getElem?_eq_none k] at hj
        cases hj
    rw [Nat.zero_add, World.ownsRow.cellAt h j (by omega), List.getElem?_map, hj]
    rfl, hcap, hrd, hby⟩

theorem slice_info : (Tryd.prog.info? 22).map (fun i => (i.zero, i.size, i.bytes)) = some (some (.slice none 0 0), 1, 24) := by kernel_rfl

set_option maxRecDepth 100000 in
set_option maxHeartbeats 2000000 in
/-- from the filled key on -/
theorem mark_any (A : Option Addr) (k c : Nat) (key : Nat → Nat) (hkey : ∀ i, key i < 256) (hk : k ≤ 10000000) (hkc : k ≤ c) (pb po cp : Nat) (l : List Part) (hl : l.length ≤ 10) (hN : lenAll l ≤ 10000000) (w : World) (hL : Laid w) (hA : Rd w A k key) (hP : PartsAt w pb po l) :
    Calls Tryd.prog 37 #[.slice A k c, .slice (some ⟨pb, po, none⟩) l.length cp] w fun e w' => e = .returned (.agg (byteCells (macF key k (textOf l) (lenAll l)) 32).toArray) ∧ Below w.heap.size w w' := by
  have HL := Lib.hid hL
  have HA := Lib.hid hA
  have HP := Lib.hid hP
  have HK := Lib.hid hkey
  have HKP := Lib.hid (keyPad_lt hkey k)
  have HPB := Lib.hid hP.lt
  have HZ32 := Lib.hid (show ∀ f, (byteCells f 32).toArray.size = 32 from fun f => by rw [List.size_toArray, byteCells_length])
  have hw2 := hL.size
  clear hL hA hP hkey
  go_enter Tryd.func37, Tryd.ntmps37
  go_upto_region 2 with fail
  refine cut_world (fun X => Whole X w.heap.size 27 (byteCells (fun _ => 0) 32).toArray ∧ Whole X (w.heap.size + 1) 39 (byteCells (fun _ => 0) 64).toArray ∧ Rd X A k key ∧ Laid X ∧ Below w.heap.size w X) ⟨(whole_new _ _ rfl).alloc _, whole_new _ _ (by simp), HA.out.below (below_alloc (below_alloc (Below.refl _ _) _) _) (Nat.le_refl _), laid_alloc (laid_alloc HL.out _) _, below_alloc (below_alloc (Below.refl _ _) _) _⟩ ?_
  clear HA HL
  rintro W ⟨q1, q2, qa, ql, qb⟩
  have Q1 := Lib.hid q1
  have Q2 := Lib.hid q2
  have QA := Lib.hid qa
  have QL := Lib.hid ql
  have QB := Lib.hid qb
  have hl2 := q2.lt
  clear q1 q2 qa ql qb
  generalize hB : w.heap.size = B at Q1 Q2 QB hl2 HPB hw2 ⊢
  have HWB := Lib.hid (Nat.le_of_eq hB)
  by_cases h64 : 64 < k
  · have d : decide ((64 : Int) < (k : Int)) = true := decide_eq_true (by omega)
    go_wp2_with fail
    refine (sum32_any A k c key HK.out (by omega) hkc _ QL.out QA.out).mono ?_
    rintro e w1 ⟨rfl, hb1⟩
    have R1 := Lib.hid (Q1.out.below hb1 Q1.out.lt)
    have R2 := Lib.hid (Q2.out.below hb1 Q2.out.lt)
    have RL := Lib.hid (laid_below QL.out hb1)
    have RB := Lib.hid (QB.out.trans (hb1.mono (by omega)))
    have hs1 := hb1.size
    have HKE := Lib.hid (show ∀ i, i < 64 → (if i < 32 then digest 32 (fun _ => 0) 0 key k i else 0) = keyPad key k i from fun i _ => by
      unfold keyPad sum32
      rw [if_neg (show ¬ k ≤ 64 by omega)])
    clear hb1 Q1 Q2 QL QB
    generalize digest 32 (fun _ => 0) 0 key k = D at HKE ⊢
    have hbS : Below w1.heap.size w1 ((w1.alloc (.cells #[.int .u8 0, .int .u8 0, .int .u8 0, .int .u8 0, .int .u8 0, .int .u8 0, .int .u8 0, .int .u8 0, .int .u8 0, .int .u8 0, .int .u8 0, .int .u8 0, .int .u8 0, .int .u8 0, .int .u8 0, .int .u8 0, .int .u8 0, .int .u8 0, .int .u8 0, .int .u8 0, .int .u8 0, .int .u8 0, .int .u8 0, .int .u8 0, .int .u8 0, .int .u8 0, .int .u8 0, .int .u8 0, .int .u8 0, .int .u8 0, .int .u8 0, .int .u8 0] 27)).setRow w1.heap.size (byteCells D 32).toArray) := below_setRow (below_alloc (Below.refl _ _) _) (Nat.le_refl _) _
    go_upto_region 4 with (refine wpList_store_row rfl 27 (.tmp 6) (.tmp 13) rfl w1.heap.size (byteCells D 32).toArray rfl rfl 27 _ (Whole.new _ _ _) (by rw [HZ32.out]; kernel_rfl) (by rw [HZ32.out]; rfl) (bytes_one _ _) ?_)
    try simp only [Act.put]
    refine cut_world (fun X => Whole X B 27 (byteCells (fun _ => 0) 32).toArray ∧ Whole X (B + 1) 39 (byteCells (fun _ => 0) 64).toArray ∧ Whole X w1.heap.size 27 (byteCells D 32).toArray ∧ Laid X ∧ Below B w X) ⟨R1.out.below hbS R1.out.lt, R2.out.below hbS R2.out.lt, setRow_heap _ _ _ _ _ _ (Whole.new _ _ _), laid_below RL.out hbS, RB.out.trans (hbS.mono (by omega))⟩ ?_
    have hGB : B + 1 < w1.heap.size := by omega
    clear hbS R1 R2 RL RB
    generalize w1.heap.size = G at hGB ⊢
    rintro W2 ⟨q1, q2, q3, ql, qb⟩
    have Q1 := Lib.hid q1
    have Q2 := Lib.hid q2
    have HSRC := Lib.hid (rd_src (w := W2) (b := G) (off := 0) (n := 32) (f := D) (fun i hi => q3.bytes i hi))
    have QL := Lib.hid ql
    have QB := Lib.hid qb
    clear q1 q2 q3 ql qb
    go_upto_region 6 with (refine wpList_copy rfl (.tmp 15) (.tmp 16) 22 22 rfl 5 rfl (by kernel_rfl) (B + 1) 0 64 64 ⟨G, 0, none⟩ 32 32 rfl rfl (byteCells (fun _ => 0) 64) 39 Q2.out (byteCells D 32) (by rw [byteCells_length]; rfl) HSRC.out (by rw [byteCells_length, byteCells_length]; omega) (bytes_each _ _) ?_; intro w8 hg8 hb8)
    have q8 := hg8.out
    rw [byteCells_splice (fun _ => 0) D (fun i => if i < 32 then D i else 0) 64 0 32 (by omega) (fun i hi => by
      by_cases l : i < 32
      · rw [if_pos l, if_pos ⟨by omega, by omega⟩, Nat.sub_zero]
      · rw [if_neg l, if_neg (by omega)]), byteCells_congr HKE.out] at q8
    have hb9 := below_grown QB.out hb8 (by omega) (Nat.le_of_lt (Nat.lt_of_succ_lt Q2.out.lt))
    have HM := Lib.hid (show MarkW w B key k pb po l w8 from ⟨Blake.whole_grown Q1.out hb8 (by omega), q8, HP.out.below hb9 HWB.out, laid_of QL.out (by omega) hb8, hb9⟩)
    clear hg8 hb8 hb9 q8 Q1 Q2 QL QB HSRC HKE
    rw [byteCells_length]
    refine cut_world (MarkW w B key k pb po l) HM.out ?_
    clear HM
    rintro W3 hr
    have HR := Lib.hid hr
    clear hr
    go_wp2_with fail
    refine (pad_any (B + 1) 54 (keyPad key k) HKP.out (by omega) _ HR.out.blk).mono ?_
    rintro e w4 ⟨rfl, p1, hb4⟩
    have P1 := Lib.hid p1
    have HR4 := Lib.hid (HR.out.below hb4)
    have hB4 := HR.out.blk.lt
    have hs4 := hb4.size
    have hG1 := p1.lt
    clear p1 hb4 HR
    generalize W3.heap.size = G1 at P1 hB4 hs4 hG1 ⊢
    have HOWN := Lib.hid (World.ownsRow_lit (base := B) (e := 22) (size := 1) w4 #[.slice (some ⟨G1, 0, none⟩) 64 64] 1 (by omega) (by decide) rfl)
    have HBEL := Lib.hid (HR4.out.bel.alloc (show B ≤ w4.heap.size by omega) (.cells #[.slice (some ⟨G1, 0, none⟩) 64 64] 22))
    have HYS := Lib.hid (show ∀ (j : Nat) (u : Value), (l.map Part.val)[j]? = some u → (w4.alloc (.cells #[.slice (some ⟨G1, 0, none⟩) 64 64] 22)).cell? ((⟨pb, po, none⟩ : Addr).add j) = some u from fun j u hj => by
      rw [List.getElem?_map] at hj
      obtain ⟨p, hp, rfl⟩ := Option.map_eq_some_iff.1 hj
      rw [Addr.add_mid]
      exact (HP.out.below HBEL.out HWB.out).cell j p hp)
    have HONE := Lib.hid (show ∀ u ∈ l.map Part.val, u.oneCell' = true from fun u hu => by
      obtain ⟨p, _, rfl⟩ := List.mem_map.1 hu
      rfl)
    have hBa : B ≤ (w4.alloc (.cells #[.slice (some ⟨G1, 0, none⟩) 64 64] 22)).heap.size := Nat.le_trans (show B ≤ w4.heap.size by omega) (below_alloc (Below.refl w4.heap.size w4) _).size
    go_wp2_with (refine wpList_cat rfl (.tmp 21) (.tmp 22) 30 22 (.slice none 0 0) 24 rfl slice_info rfl rfl rfl HOWN.out HBEL.out hBa ⟨pb, po, none⟩ l.length cp rfl (l.map Part.val) (by simp) HYS.out HONE.out (by omega) (by omega) ?_; intro A' c' w6 own6 hb6 hs6 hg6)
    obtain ⟨g6, rfl, hg1, hg2⟩ := owns_some own6 (by omega)
    rw [Nat.add_comm 1 l.length] at own6 ⊢
    have hg6' : (w4.alloc (.cells #[.slice (some ⟨G1, 0, none⟩) 64 64] 22)).grownBy w6 (some w4.heap.size) := hg6
    have HR6 := Lib.hid ((HR4.out.below (below_alloc (Below.refl w4.heap.size w4) (.cells #[.slice (some ⟨G1, 0, none⟩) 64 64] 22))).grown HP.out HWB.out hg6' (by omega) (by omega) (by have := HR4.out.laid.size; omega))
    have P6 := Lib.hid (Blake.whole_grown (P1.out.alloc (.cells #[.slice (some ⟨G1, 0, none⟩) 64 64] 22)) hg6' (by omega))
    have HPA := Lib.hid (parts_of_own (l := ⟨some ⟨G1, 0, none⟩, 64, 64, fun i => keyPad key k i ^^^ 54⟩ :: l) own6 hg2 (fun j p hj => by
      cases j with
      | zero =>
        simp only [List.getElem?_cons_zero, Option.some.injEq] at hj
        subst hj
        exact Nat.le_refl _
      | succ j => exact HP.out.cap j p (by simpa using hj)) (fun j p hj => by
      cases j with
      | zero =>
        simp only [List.getElem?_cons_zero, Option.some.injEq] at hj
        subst hj
        exact Rd.of_whole P6.out
      | succ j => exact (HP.out.rd j p (by simpa using hj)).below hb6 HWB.out) (fun j p hj => by
      cases j with
      | zero =>
        simp only [List.getElem?_cons_zero, Option.some.injEq] at hj
        subst hj
        exact fun i => Nat.xor_lt_two_pow (n := 8) (HKP.out i) (by omega)
      | succ j => exact HP.out.byte j p (by simpa using hj)))
    clear own6 hb6 hs6 hg6 hg6' HOWN HBEL HYS HONE hBa P1 HR4 P6
    go_wp2_with fail
    refine (sum_any g6 0 c' (⟨some ⟨G1, 0, none⟩, 64, 64, fun i => keyPad key k i ^^^ 54⟩ :: l) (by simp only [lenAll]; omega) (by simp only [List.length_cons]; omega) _ HR6.out.laid HPA.out).mono ?_
    rintro e w7 ⟨rfl, hb7⟩
    rw [show textOf (⟨some ⟨G1, 0, none⟩, 64, 64, fun i => keyPad key k i ^^^ 54⟩ :: l) = inT key k (textOf l) from rfl, show lenAll (⟨some ⟨G1, 0, none⟩, 64, 64, fun i => keyPad key k i ^^^ 54⟩ :: l) = 64 + lenAll l from rfl]
    have HR7 := Lib.hid (HR6.out.below hb7)
    have hB7 := HR7.out.blk.lt
    clear hb7 HR6 HPA
    have HMF := Lib.hid (show sum32 (outT key k (textOf l) (lenAll l)) 96 = macF key k (textOf l) (lenAll l) from rfl)
    have HOT := Lib.hid (show ∀ E, textOf [⟨some ⟨E, 0, none⟩, 64, 64, fun i => keyPad key k i ^^^ 92⟩, ⟨some ⟨w7.heap.size, 0, none⟩, 32, 32, sum32 (inT key k (textOf l)) (64 + lenAll l)⟩] = fun i => if i < 96 then outT key k (textOf l) (lenAll l) i else 0 from fun E => by
      funext i
      unfold textOf textOf textOf outT
      by_cases h : i < 64
      · rw [if_pos h, if_pos (show i < 96 by omega), if_pos h]
      · rw [if_neg h]
        by_cases h2 : i < 96
        · rw [if_pos (show i - 64 < 32 by omega), if_pos h2, if_neg h]
        · rw [if_neg (show ¬ i - 64 < 32 by omega), if_neg h2])
    have HIL := Lib.hid (sum32_lt (inT key k (textOf l)) (64 + lenAll l))
    have HOC := Lib.hid (show sum32 (fun i => if i < 96 then outT key k (textOf l) (lenAll l) i else 0) 96 = sum32 (outT key k (textOf l) (lenAll l)) 96 from sum32_congr fun i hi => if_pos hi)
    generalize sum32 (inT key k (textOf l)) (64 + lenAll l) = I at HOT HIL ⊢
    generalize outT key k (textOf l) (lenAll l) = U at HOT HOC HMF
    generalize hRE : macF key k (textOf l) (lenAll l) = R at HMF ⊢
    have HRE := Lib.hid hRE
    clear hRE
    have hbS := below_setRow (below_alloc (Below.refl w7.heap.size w7) (.cells #[.int .u8 0, .int .u8 0, .int .u8 0, .int .u8 0, .int .u8 0, .int .u8 0, .int .u8 0, .int .u8 0, .int .u8 0, .int .u8 0, .int .u8 0, .int .u8 0, .int .u8 0, .int .u8 0, .int .u8 0, .int .u8 0, .int .u8 0, .int .u8 0, .int .u8 0, .int .u8 0, .int .u8 0, .int .u8 0, .int .u8 0, .int .u8 0, .int .u8 0, .int .u8 0, .int .u8 0, .int .u8 0, .int .u8 0, .int .u8 0, .int .u8 0, .int .u8 0] 27)) (Nat.le_refl _) (byteCells I 32).toArray
    go_upto_region 8 with (refine wpList_store_row rfl 27 (.tmp 8) (.tmp 24) rfl w7.heap.size (byteCells I 32).toArray rfl rfl 27 _ (Whole.new _ _ _) (by rw [HZ32.out]; kernel_rfl) (by rw [HZ32.out]; rfl) (bytes_one _ _) ?_)
    try simp only [Act.put]
    refine cut_world (fun X => MarkW w B key k pb po l X ∧ Whole X w7.heap.size 27 (byteCells I 32).toArray) ⟨HR7.out.below hbS, setRow_heap _ _ _ _ _ _ (Whole.new _ _ _)⟩ ?_
    clear hbS HR7
    generalize w7.heap.size = E8 at hB7 HOT ⊢
    rintro W8 ⟨hr, q8⟩
    have HR := Lib.hid hr
    have Q8 := Lib.hid q8
    clear hr q8
    refine region_drew (fun _ => True) (by kernel_rfl) trivial ?_
    intro _
    refine take 0 _ rfl (by kernel_rfl) (by kernel_rfl) (by kernel_rfl) (fun _ _ _ h => h) (by rfl) trivial (by intro w _; go_simp; try with_reducible rfl) ?_
    try simp only [Act.put, List.setIfInBounds_toArray, List.set_cons_zero, List.set_cons_succ]
    refine take 2 _ rfl (by kernel_rfl) (by kernel_rfl) (by kernel_rfl) (fun _ _ _ h => h) (by rfl) trivial (by intro w _; go_simp; try with_reducible rfl) ?_
    try simp only [Act.put, List.setIfInBounds_toArray, List.set_cons_zero, List.set_cons_succ]
    refine alone 1 rfl (by kernel_rfl) (by rfl) ?_
    intro K hK
    go_simp
    refine (pad_any (B + 1) 92 (keyPad key k) HKP.out (by omega) _ HR.out.blk.drew).mono ?_
    rintro e w9 ⟨rfl, p1, hb9⟩
    have hbd : Below W8.heap.size W8 w9 := below_trans (below_drewN (Below.refl _ W8) 1) hb9
    have P1 := Lib.hid (show Whole w9 W8.heap.size 5 _ from p1)
    have HR9 := Lib.hid (HR.out.below hbd)
    have Q9 := Lib.hid (Q8.out.below hbd Q8.out.lt)
    have hlt9 : W8.heap.size < w9.heap.size := p1.lt
    have hB9 := HR.out.blk.lt
    clear p1 hb9 hbd HR Q8
    go_simp
    change World at w9
    refine hK.out _ _ trivial ?_
    clear hK K
    try simp only [Act.put, List.setIfInBounds_toArray, List.set_cons_zero, List.set_cons_succ]
    try simp only [World.size_drew]
    generalize W8.heap.size = G2 at P1 hlt9 hB9 ⊢
    refine alone 3 rfl (by kernel_rfl) (by rfl) ?_
    intro K hK
    go_simp
    refine hK.out _ _ trivial ?_
    clear hK K
    try simp only [Act.put, List.setIfInBounds_toArray, List.set_cons_zero, List.set_cons_succ]
    have hbN : Below w9.heap.size w9 (w9.alloc (.cells #[.slice (some ⟨G2, 0, none⟩) 64 64, .slice (some ⟨E8, 0, none⟩) 32 32] 22)) := below_alloc (Below.refl _ _) _
    have HR10 := Lib.hid (HR9.out.below hbN)
    have HPA := Lib.hid (parts_of_own (B := 0) (g := w9.heap.size) (c := 2) (l := [⟨some ⟨G2, 0, none⟩, 64, 64, fun i => keyPad key k i ^^^ 92⟩, ⟨some ⟨E8, 0, none⟩, 32, 32, I⟩]) (World.ownsRow_lit w9 #[.slice (some ⟨G2, 0, none⟩) 64 64, .slice (some ⟨E8, 0, none⟩) 32 32] 2 (Nat.zero_le _) (by decide) rfl) (by simp) (fun j p hj => by
      rcases j with _ | _ | j
      · simp at hj; subst hj; exact Nat.le_refl _
      · simp at hj; subst hj; exact Nat.le_refl _
      · simp at hj) (fun j p hj => by
      rcases j with _ | _ | j
      · simp at hj; subst hj; exact Rd.of_whole (P1.out.below hbN P1.out.lt)
      · simp at hj; subst hj; exact Rd.of_whole (Q9.out.below hbN Q9.out.lt)
      · simp at hj) (fun j p hj => by
      rcases j with _ | _ | j
      · simp at hj; subst hj; exact fun i => Nat.xor_lt_two_pow (n := 8) (HKP.out i) (by omega)
      · simp at hj; subst hj; exact HIL.out
      · simp at hj))
    clear hbN P1 Q9 HR9
    refine alone 4 rfl (by kernel_rfl) (by rfl) ?_
    intro K hK
    go_simp
    refine (sum_any w9.heap.size 0 2 [⟨some ⟨G2, 0, none⟩, 64, 64, fun i => keyPad key k i ^^^ 92⟩, ⟨some ⟨E8, 0, none⟩, 32, 32, I⟩] (by simp [lenAll]) (by simp) _ HR10.out.laid HPA.out).mono ?_
    rintro e w11 ⟨rfl, hb11⟩
    rw [HOT.out G2, show lenAll [⟨some ⟨G2, 0, none⟩, 64, 64, fun i => keyPad key k i ^^^ 92⟩, ⟨some ⟨E8, 0, none⟩, 32, 32, I⟩] = 96 from rfl, HOC.out, HMF.out]
    have HR11 := Lib.hid (HR10.out.below hb11)
    clear hb11 HPA HR10
    go_simp
    refine hK.out _ _ trivial ?_
    clear hK K
    try simp only [Act.put, List.setIfInBounds_toArray, List.set_cons_zero, List.set_cons_succ]
    refine alone 5 rfl (by kernel_rfl) (by rfl) ?_
    intro K hK
    refine wp_store_row 27 (.tmp 4) (.tmp 29) rfl B (byteCells R 32).toArray (by rfl) (by rfl) 27 _ HR11.out.res (by rw [HZ32.out]; kernel_rfl) (by rw [HZ32.out, HZ32.out]) (bytes_one _ _) ?_
    refine hK.out _ _ trivial ?_
    clear hK K
    try simp only [Act.put]
    refine region_end (by kernel_rfl) ?_
    have hret : Whole (w11.setRow B (byteCells R 32).toArray) B 27 (byteCells R 32).toArray := setRow_heap w11 _ _ _ _ _ HR11.out.res
    have HBF := Lib.hid (below_setRow HR11.out.bel (Nat.le_refl B) (byteCells R 32).toArray)
    go_wp2_with fail
    refine bodyPost_ret (results_cell_row rfl _ _ B 27 _ (0, 0) _ rfl hret rfl rfl (by rw [HZ32.out]; kernel_rfl)) rfl ?_
    exact ⟨by rw [HRE.out], by rw [hB]; exact HBF.out⟩
  · have d : decide ((64 : Int) < (k : Int)) = false := decide_eq_false (by omega)
    have HKE := Lib.hid (show ∀ i, i < 64 → (if i < k then key i else 0) = keyPad key k i from fun i _ => by
      unfold keyPad
      rw [if_pos (show k ≤ 64 by omega)])
    have HSRC := Lib.hid (rd_copy (g := B + 1) QA.out k (Nat.le_refl _))
    go_upto_region 6 with (refine wpList_copy_splice rfl (.tmp 15) (.tmp 16) 22 22 rfl 5 rfl (by kernel_rfl) (some ⟨B + 1, 0, none⟩) A 64 64 k c rfl rfl (B + 1) 0 (byteCells (fun _ => 0) 64) 39 Q2.out (byteCells key k) (by rw [byteCells_length]; exact (Nat.min_eq_left (by omega)).symm) HSRC.out (by rw [byteCells_length, byteCells_length]; omega) (bytes_each _ _) (B + 1) W (Below.refl _ _) (Nat.le_refl _) ?_; intro w8 hg8 hb8)
    have q8 := hg8.out
    rw [byteCells_splice (fun _ => 0) key (fun i => if i < k then key i else 0) 64 0 k (by omega) (fun i hi => by
      by_cases l : i < k
      · rw [if_pos l, if_pos ⟨by omega, by omega⟩, Nat.sub_zero]
      · rw [if_neg l, if_neg (by omega)]), byteCells_congr HKE.out] at q8
    have hb9 := QB.out.trans (hb8.mono (by omega))
    have HM := Lib.hid (show MarkW w B key k pb po l w8 from ⟨Q1.out.below hb8 (by omega), q8, HP.out.below hb9 HWB.out, laid_under QL.out (show 2 ≤ B + 1 by omega) hb8, hb9⟩)
    clear hg8 hb8 hb9 q8 Q1 Q2 QL QB HSRC HKE
    rw [byteCells_length]
    refine cut_world (MarkW w B key k pb po l) HM.out ?_
    clear HM
    rintro W3 hr
    have HR := Lib.hid hr
    clear hr
    go_wp2_with fail
    refine (pad_any (B + 1) 54 (keyPad key k) HKP.out (by omega) _ HR.out.blk).mono ?_
    rintro e w4 ⟨rfl, p1, hb4⟩
    have P1 := Lib.hid p1
    have HR4 := Lib.hid (HR.out.below hb4)
    have hB4 := HR.out.blk.lt
    have hs4 := hb4.size
    have hG1 := p1.lt
    clear p1 hb4 HR
    generalize W3.heap.size = G1 at P1 hB4 hs4 hG1 ⊢
    have HOWN := Lib.hid (World.ownsRow_lit (base := B) (e := 22) (size := 1) w4 #[.slice (some ⟨G1, 0, none⟩) 64 64] 1 (by omega) (by decide) rfl)
    have HBEL := Lib.hid (HR4.out.bel.alloc (show B ≤ w4.heap.size by omega) (.cells #[.slice (some ⟨G1, 0, none⟩) 64 64] 22))
    have HYS := Lib.hid (show ∀ (j : Nat) (u : Value), (l.map Part.val)[j]? = some u → (w4.alloc (.cells #[.slice (some ⟨G1, 0, none⟩) 64 64] 22)).cell? ((⟨pb, po, none⟩ : Addr).add j) = some u from fun j u hj => by
      rw [List.getElem?_map] at hj
      obtain ⟨p, hp, rfl⟩ := Option.map_eq_some_iff.1 hj
      rw [Addr.add_mid]
      exact (HP.out.below HBEL.out HWB.out).cell j p hp)
    have HONE := Lib.hid (show ∀ u ∈ l.map Part.val, u.oneCell' = true from fun u hu => by
      obtain ⟨p, _, rfl⟩ := List.mem_map.1 hu
      rfl)
    have hBa : B ≤ (w4.alloc (.cells #[.slice (some ⟨G1, 0, none⟩) 64 64] 22)).heap.size := Nat.le_trans (show B ≤ w4.heap.size by omega) (below_alloc (Below.refl w4.heap.size w4) _).size
    go_wp2_with (refine wpList_cat rfl (.tmp 21) (.tmp 22) 30 22 (.slice none 0 0) 24 rfl slice_info rfl rfl rfl HOWN.out HBEL.out hBa ⟨pb, po, none⟩ l.length cp rfl (l.map Part.val) (by simp) HYS.out HONE.out (by omega) (by omega) ?_; intro A' c' w6 own6 hb6 hs6 hg6)
    obtain ⟨g6, rfl, hg1, hg2⟩ := owns_some own6 (by omega)
    rw [Nat.add_comm 1 l.length] at own6 ⊢
    have hg6' : (w4.alloc (.cells #[.slice (some ⟨G1, 0, none⟩) 64 64] 22)).grownBy w6 (some w4.heap.size) := hg6
    have HR6 := Lib.hid ((HR4.out.below (below_alloc (Below.refl w4.heap.size w4) (.cells #[.slice (some ⟨G1, 0, none⟩) 64 64] 22))).grown HP.out HWB.out hg6' (by omega) (by omega) (by have := HR4.out.laid.size; omega))
    have P6 := Lib.hid (Blake.whole_grown (P1.out.alloc (.cells #[.slice (some ⟨G1, 0, none⟩) 64 64] 22)) hg6' (by omega))
    have HPA := Lib.hid (parts_of_own (l := ⟨some ⟨G1, 0, none⟩, 64, 64, fun i => keyPad key k i ^^^ 54⟩ :: l) own6 hg2 (fun j p hj => by
      cases j with
      | zero =>
        simp only [List.getElem?_cons_zero, Option.some.injEq] at hj
        subst hj
        exact Nat.le_refl _
      | succ j => exact HP.out.cap j p (by simpa using hj)) (fun j p hj => by
      cases j with
      | zero =>
        simp only [List.getElem?_cons_zero, Option.some.injEq] at hj
        subst hj
        exact Rd.of_whole P6.out
      | succ j => exact (HP.out.rd j p (by simpa using hj)).below hb6 HWB.out) (fun j p hj => by
      cases j with
      | zero =>
        simp only [List.getElem?_cons_zero, Option.some.injEq] at hj
        subst hj
        exact fun i => Nat.xor_lt_two_pow (n := 8) (HKP.out i) (by omega)
      | succ j => exact HP.out.byte j p (by simpa using hj)))
    clear own6 hb6 hs6 hg6 hg6' HOWN HBEL HYS HONE hBa P1 HR4 P6
    go_wp2_with fail
    refine (sum_any g6 0 c' (⟨some ⟨G1, 0, none⟩, 64, 64, fun i => keyPad key k i ^^^ 54⟩ :: l) (by simp only [lenAll]; omega) (by simp only [List.length_cons]; omega) _ HR6.out.laid HPA.out).mono ?_
    rintro e w7 ⟨rfl, hb7⟩
    rw [show textOf (⟨some ⟨G1, 0, none⟩, 64, 64, fun i => keyPad key k i ^^^ 54⟩ :: l) = inT key k (textOf l) from rfl, show lenAll (⟨some ⟨G1, 0, none⟩, 64, 64, fun i => keyPad key k i ^^^ 54⟩ :: l) = 64 + lenAll l from rfl]
    have HR7 := Lib.hid (HR6.out.below hb7)
    have hB7 := HR7.out.blk.lt
    clear hb7 HR6 HPA
    have HMF := Lib.hid (show sum32 (outT key k (textOf l) (lenAll l)) 96 = macF key k (textOf l) (lenAll l) from rfl)
    have HOT := Lib.hid (show ∀ E, textOf [⟨some ⟨E, 0, none⟩, 64, 64, fun i => keyPad key k i ^^^ 92⟩, ⟨some ⟨w7.heap.size, 0, none⟩, 32, 32, sum32 (inT key k (textOf l)) (64 + lenAll l)⟩] = fun i => if i < 96 then outT key k (textOf l) (lenAll l) i else 0 from fun E => by
      funext i
      unfold textOf textOf textOf outT
      by_cases h : i < 64
      · rw [if_pos h, if_pos (show i < 96 by omega), if_pos h]
      · rw [if_neg h]
        by_cases h2 : i < 96
        · rw [if_pos (show i - 64 < 32 by omega), if_pos h2, if_neg h]
        · rw [if_neg (show ¬ i - 64 < 32 by omega), if_neg h2])
    have HIL := Lib.hid (sum32_lt (inT key k (textOf l)) (64 + lenAll l))
    have HOC := Lib.hid (show sum32 (fun i => if i < 96 then outT key k (textOf l) (lenAll l) i else 0) 96 = sum32 (outT key k (textOf l) (lenAll l)) 96 from sum32_congr fun i hi => if_pos hi)
    generalize sum32 (inT key k (textOf l)) (64 + lenAll l) = I at HOT HIL ⊢
    generalize outT key k (textOf l) (lenAll l) = U at HOT HOC HMF
    generalize hRE : macF key k (textOf l) (lenAll l) = R at HMF ⊢
    have HRE := Lib.hid hRE
    clear hRE
    have hbS := below_setRow (below_alloc (Below.refl w7.heap.size w7) (.cells #[.int .u8 0, .int .u8 0, .int .u8 0, .int .u8 0, .int .u8 0, .int .u8 0, .int .u8 0, .int .u8 0, .int .u8 0, .int .u8 0, .int .u8 0, .int .u8 0, .int .u8 0, .int .u8 0, .int .u8 0, .int .u8 0, .int .u8 0, .int .u8 0, .int .u8 0, .int .u8 0, .int .u8 0, .int .u8 0, .int .u8 0, .int .u8 0, .int .u8 0, .int .u8 0, .int .u8 0, .int .u8 0, .int .u8 0, .int .u8 0, .int .u8 0, .int .u8 0] 27)) (Nat.le_refl _) (byteCells I 32).toArray
    go_upto_region 8 with (refine wpList_store_row rfl 27 (.tmp 8) (.tmp 24) rfl w7.heap.size (byteCells I 32).toArray rfl rfl 27 _ (Whole.new _ _ _) (by rw [HZ32.out]; kernel_rfl) (by rw [HZ32.out]; rfl) (bytes_one _ _) ?_)
    try simp only [Act.put]
    refine cut_world (fun X => MarkW w B key k pb po l X ∧ Whole X w7.heap.size 27 (byteCells I 32).toArray) ⟨HR7.out.below hbS, setRow_heap _ _ _ _ _ _ (Whole.new _ _ _)⟩ ?_
    clear hbS HR7
    generalize w7.heap.size = E8 at hB7 HOT ⊢
    rintro W8 ⟨hr, q8⟩
    have HR := Lib.hid hr
    have Q8 := Lib.hid q8
    clear hr q8
    refine region_drew (fun _ => True) (by kernel_rfl) trivial ?_
    intro _
    refine take 0 _ rfl (by kernel_rfl) (by kernel_rfl) (by kernel_rfl) (fun _ _ _ h => h) (by rfl) trivial (by intro w _; go_simp; try with_reducible rfl) ?_
    try simp only [Act.put, List.setIfInBounds_toArray, List.set_cons_zero, List.set_cons_succ]
    refine take 2 _ rfl (by kernel_rfl) (by kernel_rfl) (by kernel_rfl) (fun _ _ _ h => h) (by rfl) trivial (by intro w _; go_simp; try with_reducible rfl) ?_
    try simp only [Act.put, List.setIfInBounds_toArray, List.set_cons_zero, List.set_cons_succ]
    refine alone 1 rfl (by kernel_rfl) (by rfl) ?_
    intro K hK
    go_simp
    refine (pad_any (B + 1) 92 (keyPad key k) HKP.out (by omega) _ HR.out.blk.drew).mono ?_
    rintro e w9 ⟨rfl, p1, hb9⟩
    have hbd : Below W8.heap.size W8 w9 := below_trans (below_drewN (Below.refl _ W8) 1) hb9
    have P1 := Lib.hid (show Whole w9 W8.heap.size 5 _ from p1)
    have HR9 := Lib.hid (HR.out.below hbd)
    have Q9 := Lib.hid (Q8.out.below hbd Q8.out.lt)
    have hlt9 : W8.heap.size < w9.heap.size := p1.lt
    have hB9 := HR.out.blk.lt
    clear p1 hb9 hbd HR Q8
    go_simp
    change World at w9
    refine hK.out _ _ trivial ?_
    clear hK K
    try simp only [Act.put, List.setIfInBounds_toArray, List.set_cons_zero, List.set_cons_succ]
    try simp only [World.size_drew]
    generalize W8.heap.size = G2 at P1 hlt9 hB9 ⊢
    refine alone 3 rfl (by kernel_rfl) (by rfl) ?_
    intro K hK
    go_simp
    refine hK.out _ _ trivial ?_
    clear hK K
    try simp only [Act.put, List.setIfInBounds_toArray, List.set_cons_zero, List.set_cons_succ]
    have hbN : Below w9.heap.size w9 (w9.alloc (.cells #[.slice (some ⟨G2, 0, none⟩) 64 64, .slice (some ⟨E8, 0, none⟩) 32 32] 22)) := below_alloc (Below.refl _ _) _
    have HR10 := Lib.hid (HR9.out.below hbN)
    have HPA := Lib.hid (parts_of_own (B := 0) (g := w9.heap.size) (c := 2) (l := [⟨some ⟨G2, 0, none⟩, 64, 64, fun i => keyPad key k i ^^^ 92⟩, ⟨some ⟨E8, 0, none⟩, 32, 32, I⟩]) (World.ownsRow_lit w9 #[.slice (some ⟨G2, 0, none⟩) 64 64, .slice (some ⟨E8, 0, none⟩) 32 32] 2 (Nat.zero_le _) (by decide) rfl) (by simp) (fun j p hj => by
      rcases j with _ | _ | j
      · simp at hj; subst hj; exact Nat.le_refl _
      · simp at hj; subst hj; exact Nat.le_refl _
      · simp at hj) (fun j p hj => by
      rcases j with _ | _ | j
      · simp at hj; subst hj; exact Rd.of_whole (P1.out.below hbN P1.out.lt)
      · simp at hj; subst hj; exact Rd.of_whole (Q9.out.below hbN Q9.out.lt)
      · simp at hj) (fun j p hj => by
      rcases j with _ | _ | j
      · simp at hj; subst hj; exact fun i => Nat.xor_lt_two_pow (n := 8) (HKP.out i) (by omega)
      · simp at hj; subst hj; exact HIL.out
      · simp at hj))
    clear hbN P1 Q9 HR9
    refine alone 4 rfl (by kernel_rfl) (by rfl) ?_
    intro K hK
    go_simp
    refine (sum_any w9.heap.size 0 2 [⟨some ⟨G2, 0, none⟩, 64, 64, fun i => keyPad key k i ^^^ 92⟩, ⟨some ⟨E8, 0, none⟩, 32, 32, I⟩] (by simp [lenAll]) (by simp) _ HR10.out.laid HPA.out).mono ?_
    rintro e w11 ⟨rfl, hb11⟩
    rw [HOT.out G2, show lenAll [⟨some ⟨G2, 0, none⟩, 64, 64, fun i => keyPad key k i ^^^ 92⟩, ⟨some ⟨E8, 0, none⟩, 32, 32, I⟩] = 96 from rfl, HOC.out, HMF.out]
    have HR11 := Lib.hid (HR10.out.below hb11)
    clear hb11 HPA HR10
    go_simp
    refine hK.out _ _ trivial ?_
    clear hK K
    try simp only [Act.put, List.setIfInBounds_toArray, List.set_cons_zero, List.set_cons_succ]
    refine alone 5 rfl (by kernel_rfl) (by rfl) ?_
    intro K hK
    refine wp_store_row 27 (.tmp 4) (.tmp 29) rfl B (byteCells R 32).toArray (by rfl) (by rfl) 27 _ HR11.out.res (by rw [HZ32.out]; kernel_rfl) (by rw [HZ32.out, HZ32.out]) (bytes_one _ _) ?_
    refine hK.out _ _ trivial ?_
    clear hK K
    try simp only [Act.put]
    refine region_end (by kernel_rfl) ?_
    have hret : Whole (w11.setRow B (byteCells R 32).toArray) B 27 (byteCells R 32).toArray := setRow_heap w11 _ _ _ _ _ HR11.out.res
    have HBF := Lib.hid (below_setRow HR11.out.bel (Nat.le_refl B) (byteCells R 32).toArray)
    go_wp2_with fail
    refine bodyPost_ret (results_cell_row rfl _ _ B 27 _ (0, 0) _ rfl hret rfl rfl (by rw [HZ32.out]; kernel_rfl)) rfl ?_
    exact ⟨by rw [HRE.out], by rw [hB]; exact HBF.out⟩

end Kdf
end Go.Proofs.YtljepgddmfelpaaDoor
