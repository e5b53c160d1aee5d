/- The calls sum and mark$1 (pad) of package kdf: the sum of parts, one behind the other. -/
import Derived.Test.YtljepgddmfelpaaDoorBlakeAlive
namespace Go.Proofs.YtljepgddmfelpaaDoor
namespace Kdf
open Go.ChangeShapes Go.WideShapes Go.ChangeAt Go.RowKit
open Num Mem Words State Chacha Quiet Blake

/-- a part: where it lies, how long it is, its capacity, its bytes -/
structure Part where
  A : Option Addr
  m : Nat
  c : Nat
  f : Nat → Nat
def Part.val (p : Part) : Value := .slice p.A p.m p.c
def lenAll : List Part → Nat
  | [] => 0
  | p :: r => p.m + lenAll r
def textOf : List Part → Nat → Nat
  | [], _ => 0
  | p :: r, i => if i < p.m then p.f i else textOf r (i - p.m)
theorem lenAll_take {l : List Part} : ∀ {j : Nat} {p : Part}, l[j]? = some p → lenAll (l.take (j + 1)) = lenAll (l.take j) + p.m := by
  induction l with
  | nil => intro j p h; simp at h
  | cons q r ih =>
    intro j p h
    cases j with
    | zero =>
      simp at h
      subst h
      simp [lenAll]
    | succ j =>
      simp at h
      simp only [List.take_succ_cons, lenAll]
      rw [ih h]
      omega
theorem lenAll_le (l : List Part) (j : Nat) : lenAll (l.take j) ≤ lenAll l := by
  induction l generalizing j with
  | nil => simp [lenAll]
  | cons q r ih =>
    cases j with
    | zero => simp [lenAll]
    | succ j =>
      simp only [List.take_succ_cons, lenAll]
      have := ih j
      omega
theorem textOf_at {l : List Part} : ∀ {j : Nat} {p : Part}, l[j]? = some p → ∀ i, i < p.m → textOf l (lenAll (l.take j) + i) = p.f i := by
  induction l with
  | nil => intro j p h; simp at h
  | cons q r ih =>
    intro j p h i hi
    cases j with
    | zero =>
      simp at h
      subst h
      simp [lenAll, textOf, hi]
    | succ j =>
      simp at h
      simp only [List.take_succ_cons, lenAll, textOf]
      rw [if_neg (by omega), ← ih h i hi]
      congr 1
      omega
theorem textOf_lt {l : List Part} (h : ∀ (j : Nat) (p : Part), l[j]? = some p → ∀ i, p.f i < 256) (i : Nat) : textOf l i < 256 := by
  induction l generalizing i with
  | nil => simp [textOf]
  | cons q r ih =>
    unfold textOf
    split
    · exact h 0 q rfl i
    · exact ih (fun j p hj => h (j + 1) p (by simpa using hj)) _

/-- a row of parts lies at ⟨pb, po⟩ -/
structure PartsAt (w : World) (pb po : Nat) (l : List Part) : Prop where
  lt : pb < w.heap.size
  cell : ∀ (j : Nat) (p : Part), l[j]? = some p → w.cell? ⟨pb, po + j, none⟩ = some p.val
  cap : ∀ (j : Nat) p, l[j]? = some p → p.m ≤ p.c
  rd : ∀ (j : Nat) p, l[j]? = some p → Rd w p.A p.m p.f
  byte : ∀ (j : Nat) p, l[j]? = some p → ∀ i, p.f i < 256
theorem PartsAt.below {w w' : World} {pb po B : Nat} {l : List Part} (h : PartsAt w pb po l) (hb : Below B w w') (hB : w.heap.size ≤ B) : PartsAt w' pb po l :=
  ⟨Nat.lt_of_lt_of_le h.lt hb.size, fun j p hj => (hb.cell (p := ⟨pb, po + j, none⟩) (Nat.lt_of_lt_of_le h.lt hB)).trans (h.cell j p hj), h.cap, fun j p hj => (h.rd j p hj).below hb hB, h.byte⟩

/-- the sum of 32 bytes of a text -/
def sum32 (T : Nat → Nat) (N : Nat) : Nat → Nat := digest 32 (fun _ => 0) 0 T N
theorem sum32_lt (T : Nat → Nat) (N i : Nat) : sum32 T N i < 256 := digest_lt _ _ _ _ _ _
theorem sum32_congr {T U : Nat → Nat} {N : Nat} (h : ∀ i, i < N → T i = U i) : sum32 T N = sum32 U N := digest_congr (fun _ _ => rfl) h
theorem sum32_is (T : Nat → Nat) (N : Nat) : sumAt (finalL (firstL 32 0) T N) = sum32 T N := by
  unfold sum32 digest
  rw [show keyLen 0 = 0 from rfl, Nat.zero_add, show withKey (fun _ => 0) 0 T = T from funext fun i => by unfold withKey; rw [if_pos rfl]]

structure SumW (w : World) (B g : Nat) (N : Nat) (T : Nat → Nat) (X : World) : Prop where
  hash : HashOf X g 32 (firstL 32 0) T N
  res : Whole X B 27 (byteCells (fun _ => 0) 32).toArray
  laid : Laid X
  bel : Below B w X

set_option maxRecDepth 100000 in
set_option maxHeartbeats 2000000 in
theorem sum_any (pb po cp : Nat) (l : List Part) (hN : lenAll l ≤ 100000000) (hl : l.length ≤ 1000) (w : World) (hL : Laid w) (hP : PartsAt w pb po l) :
    Calls Tryd.prog 38 #[.slice (some ⟨pb, po, none⟩) l.length cp] w fun e w' => e = .returned (.agg (byteCells (sum32 (textOf l) (lenAll l)) 32).toArray) ∧ Below w.heap.size w w' := by
  have HL := Lib.hid hL
  have HP := Lib.hid hP
  have HZ32 := Lib.hid (show ∀ f, (byteCells f 32).toArray.size = 32 from fun f => by rw [List.size_toArray, byteCells_length])
  have HT := Lib.hid (textOf_lt hP.byte)
  have HTA := Lib.hid (fun (j : Nat) (p : Part) (h : l[j]? = some p) => textOf_at h)
  have HLT := Lib.hid (fun (j : Nat) (p : Part) (h : l[j]? = some p) => lenAll_take h)
  have HLL := Lib.hid (lenAll_le l)
  have HTL := Lib.hid (List.take_length (l := l))
  have HSI := Lib.hid (sum32_is (textOf l) (lenAll l))
  have HS0 := Lib.hid (firstL_length 32 0)
  have HF0 := Lib.hid (firstL_fits 32 0 (by omega) (by omega))
  have HN := Lib.hid hN
  have hw2 := hL.size
  have HPL := Lib.hid hP.lt
  generalize textOf l = T at HT HTA HSI ⊢
  clear hL hP hN
  go_enter Tryd.func38, Tryd.ntmps38
  go_upto_region 1 with fail
  refine cut_world (fun X => Whole X w.heap.size 27 (byteCells (fun _ => 0) 32).toArray ∧ Laid X ∧ Below w.heap.size w X) ⟨whole_new _ _ rfl, laid_alloc HL.out _, below_alloc (Below.refl _ _) _⟩ ?_
  rintro W ⟨q1, ql, qb⟩
  have Q1 := Lib.hid q1
  have QL := Lib.hid ql
  have QB := Lib.hid qb
  have hl1 := q1.lt
  clear q1 ql qb
  generalize hB : w.heap.size = B at Q1 QB hl1 HPL hw2 ⊢
  go_wp2_with fail
  refine (new_any 32 none 0 0 (fun _ => 0) T (by omega) (by omega) (by omega) _ QL.out (.inl rfl)).mono ?_
  rintro e w1 ⟨rfl, h1, hb1⟩
  rw [show keyLen 0 = 0 from rfl, show withKey (fun _ => 0) 0 T = T from funext fun i => by unfold withKey; rw [if_pos rfl]] at h1
  have HW := Lib.hid (show SumW w B W.heap.size 0 T w1 from ⟨h1, Q1.out.below hb1 hl1, laid_below QL.out hb1, QB.out.trans (hb1.mono (by omega))⟩)
  clear h1 hb1 Q1 QL QB
  generalize W.heap.size = g at HW hl1 ⊢
  go_wp2_with fail
  go_loopw [16] (fun i wr => ∃ j : Nat, i = .int .i64 j ∧ j ≤ l.length ∧ SumW w B g (lenAll (l.take j)) T wr) (fun i _ => l.length - (intOf i).toNat)
  case atStart => exact ⟨0, rfl, by omega, by simpa [lenAll] using HW.out⟩
  case round =>
    obtain ⟨j, rfl, hj, hr⟩ := hrel
    clear HW
    have HR := Lib.hid hr
    clear hr
    by_cases hlt : j < l.length
    · obtain ⟨p, hp⟩ : ∃ p, l[j]? = some p := ⟨l[j], List.getElem?_eq_getElem hlt⟩
      have jl : (j : Int) < (l.length : Int) := by omega
      have hlI : (l.length : Int) ≤ 1000 := by omega
      have hc := (HR.out.bel.cell (p := ⟨pb, po + j, none⟩) HPL.out).trans (HP.out.cell j p hp)
      have hcap := HP.out.cap j p hp
      have hrd := HP.out.rd j p hp
      have hby := HP.out.byte j p hp
      have HAT := Lib.hid (HTA.out j p hp)
      have HNX := Lib.hid (HLT.out j p hp)
      have hle := HLL.out (j + 1)
      rw [HNX.out] at hle
      have hNN := HN.out
      have HRD := Lib.hid hrd
      have HBY := Lib.hid hby
      have HWB := Lib.hid (show Rd _ p.A p.m p.f from hrd.below HR.out.bel (Nat.le_of_eq hB))
      obtain ⟨A, m, c, f⟩ := p
      have hc2 : World.cell? _ ⟨pb, po + j, none⟩ = some (.slice A m c) := hc
      clear hc hp hrd hby
      generalize lenAll (l.take j) = N at HR HAT HNX hle
      go_wp2_with fail
      refine (write_any g 32 N (firstL 32 0) T f A m c HS0.out HF0.out HT.out HBY.out (by omega) hcap (by omega) (by omega) _ HR.out.laid HR.out.hash HWB.out (fun h0 b o e => by
        rcases HRD.out with h | ⟨b', o', e', hlt', _⟩
        · omega
        · rw [e] at e'
          injection e' with e'
          injection e' with e1 _
          omega)).mono ?_
      rintro e w3 ⟨rfl, h3, g3⟩
      have h3' := h3.congr (t' := T) (fun i hi => by
        split
        · rfl
        · have := HAT.out (i - N) (by omega)
          rw [show N + (i - N) = i by omega] at this
          exact this.symm)
      have HR2 := Lib.hid (show SumW w B g (N + m) T w3 from ⟨h3', Blake.whole_grown HR.out.res g3 (by omega), laid_of HR.out.laid (by omega) g3, below_grown HR.out.bel g3 (by omega) (Nat.le_of_lt HR.out.res.lt)⟩)
      clear h3 h3' g3 HR HRD HWB hc2 HAT
      go_wp2_with fail
      go_roundw
      case rel => exact ⟨j + 1, by go_num, by omega, by rw [HNX.out]; exact HR2.out⟩
      case measure => simp [intOf]; omega
    · obtain rfl : j = l.length := by omega
      rw [HTL.out] at HR
      have hnl : ¬ ((l.length : Nat) : Int) < ((l.length : Nat) : Int) := by omega
      have hNN := HN.out
      go_wp2_with fail
      refine (hsum_any g 32 (lenAll l) (firstL 32 0) T HS0.out HF0.out HT.out (by omega) (by omega) (by omega) _ HR.out.laid HR.out.hash).mono ?_
      rintro e w4 ⟨G, rfl, q2, hG, hb⟩
      rw [HSI.out] at q2
      have R1 := Lib.hid (HR.out.res.below hb HR.out.res.lt)
      have R2 := Lib.hid q2
      have HB4 := Lib.hid (HR.out.bel.trans (hb.mono (Nat.le_of_lt HR.out.res.lt)))
      have hG2 := q2.lt
      have hGw : B < G := Nat.lt_of_lt_of_le HR.out.res.lt hG
      clear q2 hb hG HR
      generalize hFE : sum32 T (lenAll l) = F at R2 ⊢
      have HFE := Lib.hid hFE
      clear hFE
      go_upto_region 9 with fail
      refine cut_world (fun X => Whole X B 27 (byteCells (fun _ => 0) 32).toArray ∧ Whole X G 5 (byteCells F 32).toArray ∧ Whole X w4.heap.size 27 (byteCells (fun _ => 0) 32).toArray ∧ Below B w X) ⟨R1.out.alloc _, R2.out.alloc _, whole_new _ _ rfl, HB4.out.alloc (by omega) _⟩ ?_
      clear R1 R2 HB4
      generalize w4.heap.size = G2 at hG2 ⊢
      rintro W2 ⟨q1, q2, q3, qb⟩
      have HSRC := Lib.hid (rd_src (w := W2) (b := G) (off := 0) (n := 32) (f := F) (fun i hi => q2.bytes i hi))
      have Q1 := Lib.hid q1
      have Q3 := Lib.hid q3
      have QB := Lib.hid qb
      have hl3 := q3.lt
      clear q1 q2 q3 qb
      go_upto_region 10 with (refine wpList_copy rfl (.tmp 29) (.tmp 30) 22 22 rfl 5 rfl (by kernel_rfl) G2 0 32 32 ⟨G, 0, none⟩ 32 32 rfl rfl (byteCells (fun _ => 0) 32) 27 Q3.out (byteCells F 32) (by rw [byteCells_length]; rfl) HSRC.out (by rw [byteCells_length, byteCells_length]; omega) (bytes_each _ _) ?_; intro w8 hg8 hb8)
      have q8 := hg8.out
      rw [byteCells_splice (fun _ => 0) F F 32 0 32 (by omega) (fun i hi => by rw [if_pos ⟨by omega, by omega⟩, Nat.sub_zero])] at q8
      have Q8 := Lib.hid (show Whole w8 G2 27 (byteCells F 32).toArray from q8)
      have Q1' := Lib.hid (Blake.whole_grown Q1.out hb8 (by omega))
      have QB8 := Lib.hid (below_setRow (below_grown QB.out hb8 (by omega) (by omega)) (Nat.le_refl B) (byteCells F 32).toArray)
      clear hg8 hb8 q8 Q1 Q3 QB HSRC
      go_wp2_with (first | (refine wpList_load_row rfl 27 (.tmp 9) rfl G2 rfl 27 (byteCells F 32).toArray (0, 0) _ Q8.out rfl rfl (by rw [HZ32.out]; kernel_rfl) ?_) | (refine wpList_store_row rfl 27 (.tmp 2) (.tmp 32) rfl B (byteCells F 32).toArray rfl rfl 27 _ Q1'.out (by rw [HZ32.out]; kernel_rfl) (by rw [HZ32.out, HZ32.out]) (bytes_one _ _) ?_))
      have hret : Whole (w8.setRow B (byteCells F 32).toArray) B 27 (byteCells F 32).toArray := setRow_heap w8 _ _ _ _ _ Q1'.out
      refine bodyPost_ret (results_cell_row rfl _ _ B 27 _ (0, 0) _ rfl hret rfl rfl (by rw [HZ32.out]; kernel_rfl)) rfl ?_
      exact ⟨by rw [HFE.out], by rw [hB]; exact QB8.out⟩

set_option maxRecDepth 100000 in
set_option maxHeartbeats 1000000 in
theorem pad_any (kb t : Nat) (f : Nat → Nat) (hf : ∀ i, f i < 256) (ht : t < 256) (w : World) (hw : Whole w kb 39 (byteCells f 64).toArray) :
    Calls Tryd.prog 47 #[.int .u8 t, .pointer (some ⟨kb, 0, none⟩)] w fun e w' => e = .returned (.slice (some ⟨w.heap.size, 0, none⟩) 64 64) ∧ Whole w' w.heap.size 5 (byteCells (fun i => f i ^^^ t) 64).toArray ∧ Below w.heap.size w w' := by
  have HW := Lib.hid hw
  have HF := Lib.hid hf
  have hlw := hw.lt
  clear hw hf
  have hmk : (Instr.makeSlice 22 (.int .i64 64) (.int .i64 64)).run Tryd.prog w = .ok (.slice (some ⟨w.heap.size, 0, none⟩) 64 64) (w.alloc (.cells (byteCells (fun _ => 0) 64).toArray 5)) := made_bytes 64 (by omega) w
  go_enter Tryd.func47, Tryd.ntmps47
  go_upto_region 2 with fail
  refine cut_world (fun X => Whole X kb 39 (byteCells f 64).toArray ∧ Whole X w.heap.size 5 (byteCells (Blake.part (fun i => f i ^^^ t) 0) 64).toArray ∧ Below w.heap.size w X) ⟨HW.out.alloc _, Whole.new _ _ _, below_alloc (Below.refl _ _) _⟩ ?_
  clear hmk HW
  rintro W ⟨q1, q2, qb⟩
  have Q1 := Lib.hid q1
  have Q2 := Lib.hid q2
  have QB := Lib.hid qb
  clear q1 q2 qb
  generalize hG : w.heap.size = G at Q2 QB hlw ⊢
  go_wp2_with fail
  go_loopw [7] (fun i wr => ∃ k : Nat, i = .int .i64 k ∧ k ≤ 64 ∧ Whole wr kb 39 (byteCells f 64).toArray ∧ Whole wr G 5 (byteCells (Blake.part (fun i => f i ^^^ t) k) 64).toArray ∧ Below G w wr) (fun i _ => 64 - (intOf i).toNat)
  case atStart => exact ⟨0, rfl, by omega, Q1.out, Q2.out, QB.out⟩
  case round =>
    obtain ⟨k, rfl, hk, q1, q2, qb⟩ := hrel
    clear Q1 Q2 QB
    have Q1 := Lib.hid q1
    have Q2 := Lib.hid q2
    have QB := Lib.hid qb
    by_cases hlt : k < 64
    · have hki : (k : Int) < 64 := by omega
      have c1 := q1.bytes k hlt
      have c2 := q2.bytes k hlt
      have f2 := q2.free k
      rw [Nat.zero_add] at c1 c2
      have X1 := Lib.hid (u8_xor_nat (f k) t (HF.out k) ht)
      have HE := Lib.hid (show ((byteCells (Blake.part (fun i => f i ^^^ t) k) 64).toArray.setIfInBounds k (.int .u8 ((f k ^^^ t : Nat) : Int))) = (byteCells (Blake.part (fun i => f i ^^^ t) (k + 1)) 64).toArray from by
        rw [byteCells_set]
        congr 1
        refine byteCells_congr fun i hi => ?_
        unfold Blake.part
        by_cases e : i = k
        · subst e
          rw [if_pos rfl, if_pos (by omega)]
        · rw [if_neg e]
          by_cases l : i < k
          · rw [if_pos l, if_pos (by omega)]
          · rw [if_neg l, if_neg (by omega)])
      have hput := q2.put k (.int .u8 ((f k ^^^ t : Nat) : Int))
      rw [HE.out] at hput
      have HP := Lib.hid hput
      have HK := Lib.hid (show Whole (wr.setCell ⟨G, k, none⟩ (.int .u8 ((f k ^^^ t : Nat) : Int))) kb 39 (byteCells f 64).toArray from q1.far (by simp; omega) _)
      have HB := Lib.hid (show Below G w (wr.setCell ⟨G, k, none⟩ (.int .u8 ((f k ^^^ t : Nat) : Int))) from qb.setCell (p := ⟨G, k, none⟩) (Nat.le_refl _) _)
      clear q1 q2 qb hput
      generalize f k = x at c1 X1 HP HK HB
      go_upto_region 6 with fail
      rw [X1.out]
      refine cut_world (fun X => Whole X kb 39 (byteCells f 64).toArray ∧ Whole X G 5 (byteCells (Blake.part (fun i => f i ^^^ t) (k + 1)) 64).toArray ∧ Below G w X) ⟨HK.out, HP.out, HB.out⟩ ?_
      clear c1 c2 f2 HK HP HB X1 HE Q1 Q2 QB
      rintro X ⟨q1, q2, qb⟩
      have Q1 := Lib.hid q1
      have Q2 := Lib.hid q2
      have QB := Lib.hid qb
      clear q1 q2 qb
      go_wp2_with fail
      go_roundw
      case rel => exact ⟨k + 1, by go_num, by omega, Q1.out, Q2.out, QB.out⟩
      case measure => simp [intOf]; omega
    · obtain rfl : k = 64 := by omega
      have hnl : ¬ ((64 : Nat) : Int) < 64 := by omega
      have HG := Lib.hid (show byteCells (Blake.part (fun i => f i ^^^ t) 64) 64 = byteCells (fun i => f i ^^^ t) 64 from byteCells_congr fun i hi => by
        unfold Blake.part
        rw [if_pos hi])
      clear q1 q2 qb
      go_wp2_with fail
      go_ret
      exact ⟨rfl, by rw [← HG.out]; exact Q2.out, QB.out⟩

end Kdf
end Go.Proofs.YtljepgddmfelpaaDoor
