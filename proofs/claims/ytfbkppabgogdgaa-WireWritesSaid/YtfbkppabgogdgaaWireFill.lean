/- fill of wire's cursor: fields that lie one behind the other in one block are filled with the bytes that come. -/
import Derived.Test.YtfbkppabgogdgaaWireKind
import Derived.Test.YtfbkppabgogdgaaPieces2
namespace Go.Proofs.Ytfbkppabgogdgaa
namespace Wire
open Go.ChangeShapes Go.WideShapes Go.ChangeAt Go.RowKit
open Num Mem Words Ref Cuts Chacha Quiet

def sumL : List Nat → Nat
  | [] => 0
  | m :: r => m + sumL r
theorem sumL_take {l : List Nat} : ∀ {j m : Nat}, l[j]? = some m → sumL (l.take (j + 1)) = sumL (l.take j) + m := by
  induction l with
  | nil => intro j m h; simp at h
  | cons q r ih =>
    intro j m h
    cases j with
    | zero =>
      simp at h
      subst h
      simp [sumL]
    | succ j =>
      simp at h
      simp only [List.take_succ_cons, sumL]
      rw [ih h]
      omega
theorem sumL_le (l : List Nat) (j : Nat) : sumL (l.take j) ≤ sumL l := by
  induction l generalizing j with
  | nil => simp [sumL]
  | cons q r ih =>
    cases j with
    | zero => simp [sumL]
    | succ j =>
      simp only [List.take_succ_cons, sumL]
      have := ih j
      omega
theorem splice_more (cs : List Value) (p S m : Nat) (f : Nat → Nat) (h : p + S + m ≤ cs.length) : splice (splice cs p (byteCells f S)) (p + S) (byteCells (fun i => f (S + i)) m) = splice cs p (byteCells f (S + m)) := by
  have e : byteCells f (S + m) = byteCells f S ++ byteCells (fun i => f (S + i)) m := by
    rw [byteCells_append]
    refine byteCells_congr fun i _ => ?_
    split
    · rfl
    · congr 1; omega
  have lf : ∀ (g : Nat → Nat) (k : Nat), (byteCells g k).length = k := byteCells_length
  unfold splice
  rw [e, lf, List.length_append, lf, lf]
  have l1 : (cs.take p).length = p := by rw [List.length_take]; omega
  have t1 : (cs.take p ++ (byteCells f S ++ cs.drop (p + S))).take (p + S) = cs.take p ++ byteCells f S := by
    rw [← List.append_assoc, List.take_append_of_le_length (by rw [List.length_append, l1, lf]; omega), List.take_of_length_le (by rw [List.length_append, l1, lf]; omega)]
  have t2 : (cs.take p ++ (byteCells f S ++ cs.drop (p + S))).drop (p + S + m) = cs.drop (p + S + m) := by
    rw [← List.append_assoc, List.drop_append, List.drop_of_length_le (by rw [List.length_append, l1, lf]; omega), List.nil_append, List.length_append, l1, lf, List.drop_drop]
    congr 1
    omega
  rw [t1, t2, show p + (S + m) = p + S + m by omega]
  simp only [List.append_assoc]

/-- the world while fields are filled -/
structure FillW (w : World) (cb ct G t rb : Nat) (cs : List Value) (p : Nat) (f : Nat → Nat) (n c S : Nat) (X : World) : Prop where
  cur : ∃ A, Whole X cb ct #[.slice A (n - S) (c - S)] ∧ Rd X A (n - S) (fun i => f (S + i)) ∧ ∀ ad, A = some ad → ad.block = rb
  dst : Whole X G t (splice cs p (byteCells f S)).toArray
  oth : ∀ k, k < w.heap.size → k ≠ cb → k ≠ G → X.heap[k]? = w.heap[k]?
  bel : Below 0 w X
theorem FillW.below {w X : World} {cb ct G t rb p n c S B : Nat} {cs : List Value} {f : Nat → Nat} (h : FillW w cb ct G t rb cs p f n c S X) (hc : B ≤ cb) (hG : B ≤ G) (hB : B ≤ w.heap.size) : Below B w X :=
  ⟨h.bel.os, h.bel.tape, h.bel.output, h.bel.size, fun k hk => h.oth k (by omega) (by omega) (by omega)⟩

set_option maxRecDepth 100000 in
set_option maxHeartbeats 4000000 in
theorem fill_any (cb ct G t rb : Nat) (cs : List Value) (p : Nat) (f : Nat → Nat) (A : Option Addr) (n c : Nat) (hnc : n ≤ c) (hcm : c ≤ 9223372036854775807) (pb po cp : Nat) (ls : List Nat) (hl : ls.length ≤ 1000) (hpos : ∀ (j m : Nat), ls[j]? = some m → 0 < m)
    (hn : sumL ls ≤ n) (hfit : p + sumL ls ≤ cs.length) (hne : cb ≠ G) (hpc : pb ≠ cb) (hpG : pb ≠ G) (hrc : rb ≠ cb) (hrG : rb ≠ G) (hA : ∀ ad, A = some ad → ad.block = rb) (w : World) (hC : Whole w cb ct #[.slice A n c]) (hr : Rd w A n f) (hD : Whole w G t cs.toArray) (hpl : pb < w.heap.size)
    (hp : ∀ (j m : Nat), ls[j]? = some m → ∃ cap, m ≤ cap ∧ w.cell? ⟨pb, po + j, none⟩ = some (.slice (some ⟨G, p + sumL (ls.take j), none⟩) m cap)) :
    Calls Try.prog 61 #[.pointer (some ⟨cb, 0, none⟩), .slice (some ⟨pb, po, none⟩) ls.length cp] w fun e w' => e = .returned (.tuple #[]) ∧ FillW w cb ct G t rb cs p f n c (sumL ls) w' := by
  have HLT := Lib.hid (fun (j m : Nat) (h : ls[j]? = some m) => sumL_take h)
  have HLL := Lib.hid (sumL_le ls)
  have HTL := Lib.hid (List.take_length (l := ls))
  have HP := Lib.hid hp
  have HPO := Lib.hid hpos
  have HN := Lib.hid hn
  have HF := Lib.hid hfit
  have H0 := Lib.hid (show FillW w cb ct G t rb cs p f n c 0 w from ⟨⟨A, hC, by simpa using hr, hA⟩, by
    have : splice cs p (byteCells f 0) = cs := by simp [splice, byteCells]
    rw [this]
    exact hD, fun _ _ _ _ => rfl, Below.refl _ _⟩)
  clear hp hpos hn hfit hC hr hD hA A
  go_enter Try.func61, Try.ntmps61
  go_wp2_with fail
  go_loopw [9] (fun i X => ∃ j : Nat, i = .int .i64 j ∧ j ≤ ls.length ∧ FillW w cb ct G t rb cs p f n c (sumL (ls.take j)) X) (fun i _ => ls.length - (intOf i).toNat)
  case atStart => exact ⟨0, rfl, by omega, by simpa [sumL] using H0.out⟩
  case round =>
    obtain ⟨j, rfl, hj, hr⟩ := hrel
    have HR := Lib.hid hr
    clear hr H0
    by_cases hlt : j < ls.length
    · obtain ⟨m, hm⟩ : ∃ m, ls[j]? = some m := ⟨ls[j], List.getElem?_eq_getElem hlt⟩
      have jl : (j : Int) < (ls.length : Int) := by omega
      have hlI : (ls.length : Int) ≤ 1000 := by omega
      obtain ⟨cap, hcap, hcell⟩ := HP.out j m hm
      have hm0 := HPO.out j m hm
      have HNX := Lib.hid (HLT.out j m hm)
      have hle := HLL.out (j + 1)
      rw [HNX.out] at hle
      have hN := HN.out
      have hF := HF.out
      clear hm
      generalize sumL (ls.take j) = S at HNX hle hcell HR
      obtain ⟨⟨A, hc, hrd, hap⟩, hd, ho, hb⟩ := HR.out
      obtain ⟨b, off, rfl, hbl, hbc⟩ : ∃ b off, A = some ⟨b, off, none⟩ ∧ b < wr.heap.size ∧ ∀ i, i < n - S → wr.cell? ⟨b, off + i, none⟩ = some (.int .u8 (f (S + i) : Nat)) := by
        rcases hrd with h | h
        · omega
        · exact h
      have hfield : wr.cell? ⟨pb, po + j, none⟩ = some (.slice (some ⟨G, p + S, none⟩) m cap) := by
        rw [← hcell]
        unfold World.cell?
        rw [ho pb hpl hpc hpG]
      have hcur : wr.cell? ⟨cb, 0, none⟩ = some (.slice (some ⟨b, off, none⟩) (n - S) (c - S)) := hc.cell 0
      have HBR := Lib.hid (show b = rb from hap _ rfl)
      have hb2 : b ≠ cb := by rw [HBR.out]; exact hrc
      have hb3 : b ≠ G := by rw [HBR.out]; exact hrG
      have HC := Lib.hid hc
      have HD := Lib.hid hd
      have HO := Lib.hid ho
      have HB := Lib.hid hb
      have HBC := Lib.hid hbc
      clear hc hd ho hb hbc hrd hcell HR hap
      obtain ⟨n1, hn1⟩ : ∃ n1, n - S = n1 := ⟨_, rfl⟩
      obtain ⟨c1, hc1⟩ : ∃ c1, c - S = c1 := ⟨_, rfl⟩
      rw [hn1, hc1] at hcur HC
      rw [hn1] at HBC
      have hm1 : (m : Int) ≤ (n1 : Int) := by omega
      have hm2 : (n1 : Int) ≤ (c1 : Int) := by omega
      have hm3 : (c1 : Int) ≤ 9223372036854775807 := by omega
      have HN1 := Lib.hid hn1
      have HC1 := Lib.hid hc1
      clear hn1 hc1
      go_upto_region 5 with (first
        | (refine Aead.wpList_copy rfl (.tmp 13) (.tmp 17) 36 36 rfl 5 rfl (by kernel_rfl) G (p + S) m cap ⟨b, off, none⟩ n1 c1 rfl rfl (splice cs p (byteCells f S)) t HD.out (byteCells (fun i => f (S + i)) m) (by rw [byteCells_length]; exact (Nat.min_eq_right (by omega)).symm) (rd_src (fun i hi => HBC.out i (by omega))) (by rw [length_splice _ _ _ (by rw [byteCells_length]; omega), byteCells_length]; omega) (bytes_each _ _) ?_; intro w2 h2 hg2; rw [byteCells_length]; rw [splice_more _ _ _ _ _ (by omega)] at h2; have HC2 := Lib.hid (Chacha.whole_grown HC.out hg2 (Ne.symm hne)); have hcur2 : w2.cell? ⟨cb, 0, none⟩ = some (.slice (some ⟨b, off, none⟩) n1 c1) := HC2.out.cell 0; have hfr2 : w2.frozen? ⟨cb, 0, none⟩ = false := HC2.out.free 0; have HG2 := Lib.hid hg2; clear hg2 hcur))
      obtain ⟨A', hA'⟩ : ∃ A', (if c1 = m then some (⟨b, off, none⟩ : Addr) else some ⟨b, off + m, none⟩) = A' := ⟨_, rfl⟩
      rw [hA']
      have HW := Lib.hid (show FillW w cb ct G t rb cs p f n c (S + m) (w2.setCell ⟨cb, 0, none⟩ (.slice A' (n1 - m) (c1 - m))) from by
        have hn1 := HN1.out
        have hc1 := HC1.out
        have hbel2 : Below 0 w w2 := ⟨HG2.out.os.trans HB.out.os, HG2.out.tape.trans HB.out.tape, HG2.out.output.trans HB.out.output, Nat.le_trans HB.out.size HG2.out.size, fun k hk => absurd hk (by omega)⟩
        refine ⟨⟨A', ?_, ?_, ?_⟩, ?_, ?_, ?_⟩
        · have := HC2.out.put 0 (.slice A' (n1 - m) (c1 - m))
          rw [show n - (S + m) = n1 - m by omega, show c - (S + m) = c1 - m by omega]
          exact this
        · by_cases h0 : n1 - m = 0
          · exact .inl (by omega)
          · right
            rw [if_neg (by omega)] at hA'
            refine ⟨b, off + m, hA'.symm, ?_, fun i hi => ?_⟩
            · exact Nat.lt_of_lt_of_le hbl (Nat.le_trans HG2.out.size (Nat.le_of_eq (by simp)))
            · have h3 := HBC.out (m + i) (by omega)
              rw [World.cell?_setCell_other _ _ _ _ (by intro e; injection e with e1; exact hb2 e1.symm), show off + m + i = off + (m + i) by omega]
              have h4 : w2.cell? ⟨b, off + (m + i), none⟩ = wr.cell? ⟨b, off + (m + i), none⟩ := by
                unfold World.cell?
                rw [HG2.out.block b hbl (by intro e; injection e with e; exact hb3 e)]
              rw [h4, h3]
              show _ = some (Value.int .u8 (f (S + m + i) : Nat))
              rw [Nat.add_assoc]
        · intro ad e
          rw [← hA'] at e
          split at e
          · injection e with e; subst e; exact HBR.out
          · injection e with e; subst e; exact HBR.out
        · exact Whole.far h2.out (by exact fun e => hne e.symm) _
        · intro k hk k1 k2
          rw [Below.heap_setCell _ _ _ k (by exact k1), HG2.out.block k (Nat.lt_of_lt_of_le hk HB.out.size) (by intro e; injection e with e; exact k2 e)]
          exact HO.out k hk k1 k2
        · exact ⟨hbel2.os, hbel2.tape, hbel2.output, Nat.le_trans hbel2.size (Nat.le_of_eq (by simp)), fun k hk => absurd hk (by omega)⟩)
      clear hA' hb2 hb3 HBR HC2 hcur2 hfr2 HG2 h2 HBC HC HD HO HB hfield
      go_wp2_with fail
      refine ⟨⟨j + 1, by go_num, by omega, by rw [HNX.out]; exact HW.out⟩, ?_⟩
      show ls.length - ((j : Int) + 1).toNat < ls.length - (j : Int).toNat
      omega
    · obtain rfl : j = ls.length := by omega
      rw [HTL.out] at HR
      have hnl : ¬ ((ls.length : Nat) : Int) < ((ls.length : Nat) : Int) := by omega
      go_wp2_with fail
      go_end0
      exact ⟨rfl, HR.out⟩

end Wire
end Go.Proofs.Ytfbkppabgogdgaa
